/- RedoTwice: the plain part, and the walk. -/
import Derived.Test.YtkhdahipnfloeaaOpsW
namespace Go.Proofs.Ytkhdahipnfloeaa
open Go.RowKit
set_option maxRecDepth 100000

theorem commitOps_length (l : Pages) : (commitOps l).length = 2 * l.length + 6 := by
  simp [commitOps, homesOps, ph, bodyWs_length, homeWs]; omega
theorem commit_small {A : Ab} {k : Nat} (l : Pages) (h : Small A k) : Small (A.commit l).2 (k + (2 * l.length + 6)) := by
  unfold Ab.commit
  split
  · have := run_small (commitOps l) h
    rwa [commitOps_length] at this
  · exact h.mono (by omega)
theorem homesOps_length (l : Pages) : (homesOps l).length = l.length + 3 := by simp [homesOps, ph, homeWs]
theorem recOf_disk (A : Ab) (n : Int) (l : Pages) : (recOf A n (some l)).2.2 = (A.run (homesOps l)).2 := by
  show (if (A.run (homesOps l)).1 = 0 then _ else _ : Int × Int × Ab).2.2 = _
  split <;> rfl
theorem recover_small {A : Ab} {k : Nat} (h : Small A k) : Small A.recover.2.2 (k + 403) := by
  rw [recover_pend]
  split
  · have h1 := run_small (homesOps (pendOf A).1) h
    rw [homesOps_length] at h1
    have h2 := (pend_ok A).1
    rw [recOf_disk]
    exact h1.mono (by omega)
  · exact h.mono (by omega)
theorem crash_small {A : Ab} {k : Nat} (keep : List Bool) (h : Small A k) : Small (A.crash keep) k := ⟨h.1, Nat.zero_le _, Nat.zero_le _⟩
theorem stop_small {A : Ab} {k : Nat} {n : Int} (h : Small A k) (hn : n ≤ 1073741824) : Small (A.stopAt n) k := ⟨h.1, h.2.1, by show n.toNat ≤ _; omega⟩
theorem Synced.stopAt {A : Ab} {K : List (List UInt8)} (h : Synced A K) (n : Int) : Synced (A.stopAt n) K := ⟨h.now, h.kept, h.since, h.live⟩

/-- What is there of a log of l over the homes H. -/
def Some3 (K H : List (List UInt8)) (l : Pages) : Prop := Before K H ∨ Logged K H l ∨ After K H l
theorem Some3.len {K H : List (List UInt8)} {l : Pages} (h : Some3 K H l) : K.length = H.length := by
  rcases h with h | h | h
  · exact h.len
  · exact h.len
  · exact h.len

/-- Behind a commit, stopped or not, and a crash. -/
theorem commit_crash {A : Ab} {K : List (List UInt8)} {l : Pages} (hS : Synced A K) (hK : K[0]? = some (zeros 512)) (hl : Pagess K.length l) (keep : List Bool) :
    ∃ K', Synced ((A.commit l).2.crash keep) K' ∧ ((A.commit l).2.crash keep).stop = 0 ∧ ((A.commit l).1 = 0 ∧ After K' K l ∨ (A.commit l).1 = 13 ∧ Some3 K' K l) := by
  have hc : A.commit l = A.run (commitOps l) := by unfold Ab.commit; rw [if_pos ((fits_iff _ _).2 (by rw [hS.now]; exact hl))]
  rw [hc]
  rcases commit_out hS (Before.self hK) hl with ⟨q1, ⟨K', q2, q3⟩, -, -⟩ | ⟨q1, ⟨K0, ws, q2, q3⟩, -⟩
  · have := q2.crash keep
    exact ⟨K', this.1, this.2, .inl ⟨q1, q3⟩⟩
  · obtain ⟨l', h1, h2, h3⟩ := q2.crash keep
    exact ⟨_, h2, h3, .inr ⟨q1, q3 l' h1⟩⟩

/-- Recover, not stopped. -/
theorem recover_ends {A : Ab} {K H : List (List UInt8)} {l : Pages} (hS : Synced A K) (h3 : Some3 K H l) (hl : Pagess H.length l) (hsz : H.length ≤ 1073741824) (h0 : A.stop = 0) :
    ∃ n K', A.recover.1 = n ∧ A.recover.2.1 = 0 ∧ Synced A.recover.2.2 K' ∧ (Before K' H ∨ After K' H l) ∧ (n = 0 ∨ n = l.length) := by
  rcases h3 with h | h | h
  · rw [recover_none hS h.head]
    exact ⟨0, K, rfl, rfl, hS, .inl h, .inl rfl⟩
  · have hl' : Pagess K.length l := by rw [h.len]; exact hl
    rcases recover_log hS h hl' (by rw [h.len]; exact hsz) with ⟨e, K', q1, q2⟩ | ⟨-, -, q⟩
    · rw [e]
      exact ⟨_, K', rfl, rfl, q1, .inr q2, .inr rfl⟩
    · omega
  · rw [recover_none hS h.head]
    exact ⟨0, K, rfl, rfl, hS, .inr h, .inl rfl⟩

structure TwiceP (A : Ab) (l : Pages) (keep : List Bool) : Prop where
  f : ((A.commit l).2.crash keep).recover.2.1 = 0
  again : ((A.commit l).2.crash keep).recover.2.2.recover = (0, 0, ((A.commit l).2.crash keep).recover.2.2)
  live : ((A.commit l).2.crash keep).recover.2.2.dead = false
  len : ((A.commit l).2.crash keep).recover.2.2.now.length = 420
  ends : ((A.commit l).1 = 0 ∧ ((A.commit l).2.crash keep).recover.1 = 0) ∨ ((A.commit l).1 ≠ 0 ∧ (((A.commit l).2.crash keep).recover.1 = 0 ∨ ((A.commit l).2.crash keep).recover.1 = l.length))

theorem twice_plain (l : Pages) (s : Int) (keep : List Bool) (hl : l.length ≠ 0 → Pagess 420 l) : TwiceP ((Ab.new 420).stopAt s) l keep := by
  obtain ⟨A, hA⟩ : ∃ A, A = (Ab.new 420).stopAt s := ⟨_, rfl⟩
  have hS : Synced A (List.replicate 420 (zeros 512)) := by rw [hA]; exact (new_synced 420).stopAt s
  have hK := new_head 420 (by omega)
  have hlen : (List.replicate 420 (zeros 512)).length = 420 := List.length_replicate ..
  rw [← hA]
  clear hA
  generalize List.replicate 420 (zeros 512) = K at hS hK hlen
  by_cases h0 : l.length = 0
  · obtain rfl : l = [] := List.eq_nil_of_length_eq_zero h0
    have hc : A.commit [] = (1, A) := commit_bad (by unfold fitsOf; simp)
    have h1 := (hS.crash keep).1
    have hr : (A.crash keep).recover = (0, 0, A.crash keep) := recover_none h1 hK
    refine ⟨?_, ?_, ?_, ?_, .inr ⟨?_, .inl ?_⟩⟩ <;> rw [hc]
    · rw [hr]
    · rw [hr]; exact hr
    · rw [hr]; exact h1.live
    · rw [hr]; show (A.crash keep).now.length = 420; rw [h1.now, hlen]
    · exact Int.one_ne_zero
    · rw [hr]
  · obtain ⟨K', g1, g2, g3⟩ := commit_crash hS hK (by rw [hlen]; exact hl h0) keep
    have h3 : Some3 K' K l := by
      rcases g3 with h | h
      · exact .inr (.inr h.2)
      · exact h.2
    obtain ⟨n, K'', r1, r2, r3, r4, r5⟩ := recover_ends g1 h3 (by rw [hlen]; exact hl h0) (by rw [hlen]; omega) g2
    have hh : K''[0]? = some (zeros 512) := by
      rcases r4 with h | h
      · exact h.head
      · exact h.head
    have hl2 : K''.length = 420 := by
      rcases r4 with h | h
      · rw [h.len, hlen]
      · rw [h.len, hlen]
    refine ⟨r2, recover_none r3 hh, r3.live, by rw [r3.now, hl2], ?_⟩
    rcases g3 with ⟨e, ha⟩ | ⟨e, -⟩
    · refine .inl ⟨e, ?_⟩
      rw [recover_none g1 ha.head]
    · refine .inr ⟨by rw [e]; decide, ?_⟩
      rw [r1]
      exact r5

set_option maxHeartbeats 4000000 in
theorem twice_walk (v kv : Value) (l : Pages) (stop : Int) (keep : List Bool) (w : World) (hp : Pus w (fun g => g < w.heap.size) v l) (hk : Bl w kv keep) (hkb : 0 < keep.length → ∀ g, kv.ownBlock = some g → g < w.heap.size) :
    Calls Try.prog 8 #[v, .int .i64 stop, kv] w fun e w' => e = .returned (.bool true) ∧ Below w.heap.size w w' := by
  obtain ⟨ao, cap, rfl, -⟩ := id hp
  obtain ⟨ko, kc, rfl, -⟩ := id hk
  have HP := Lib.hid hp
  have HK := Lib.hid hk
  have HKB := Lib.hid hkb
  clear hp hk hkb
  have hwi := within_range stop 25 (by decide)
  have hw25 := within3_any stop 25 (by decide) (by decide)
  obtain ⟨s, hs⟩ : ∃ s, s = withinOf stop 25 := ⟨_, rfl⟩
  rw [← hs] at hwi hw25
  obtain ⟨hwi1, hwi2⟩ := hwi
  have HW := Lib.hid hw25
  clear hw25 hs
  go_enter Try.func8, Try.ntmps8
  go_wp2_with fail
  refine (l3_known _).mono ?_
  rintro e w1 ⟨rfl, hb1⟩
  have HB1 := Lib.hid hb1
  clear hb1
  go_wp2_with fail
  refine (pfew_any _ l _ w1 (HP.out.below HB1.out)).mono ?_
  rintro e w2 (⟨rfl, hw2⟩ | ⟨rfl, hw2, -⟩)
  · replace hw2 := hw2.symm
    subst hw2
    go_wp2_with fail
    go_ret
    exact ⟨rfl, HB1.out⟩
  replace hw2 := hw2.symm
  subst hw2
  go_wp2_with fail
  refine (good_any _ l _ w1 (HP.out.below HB1.out) (fun g hg => Nat.lt_of_lt_of_le hg HB1.out.size)).mono ?_
  rintro e w3 ⟨gv, rfl, hrow, hb3⟩
  have HB3 := Lib.hid (HB1.out.trans (hb3.mono HB1.out.size))
  have hpu := hrow.pus
  obtain ⟨so, cg, rfl, hcg1, hcg2⟩ := hrow.form
  have hcg2' : cg ≤ 9223372036854775807 := hcg2
  have HPU := Lib.hid hpu
  have hlp := twice_plain (goodOf l) (1 + s) keep (good_pagess l)
  have hg8 := good_short l
  clear hrow hb3 hpu hcg2
  obtain ⟨g, hg⟩ : ∃ g, g = goodOf l := ⟨_, rfl⟩
  rw [← hg] at HPU hcg1 hlp hg8 ⊢
  have HT := Lib.hid hlp
  clear hg hlp
  go_wp2_with fail
  refine (sx_new (w0 := w) (X := Built w1.heap.size w3.heap.size) 420 HB3.out (fun _ h => h.2)).mono ?_
  rintro e w4 ⟨r, rfl, h4, hb4⟩
  rw [show sizeOf' 420 = 420 from rfl] at h4
  have H4 := Lib.hid h4
  have HPU4 := Lib.hid (HPU.out.below hb4)
  have HB4 := Lib.hid (HB3.out.trans (hb4.mono HB3.out.size))
  clear h4 hb4 HPU
  go_wp2_with fail
  refine (HW.out _).mono ?_
  rintro e wz ⟨rfl, hwz⟩
  replace hwz := hwz.symm
  subst hwz
  clear HW
  go_wp2_with fail
  refine (sx_stop (1 + s) H4.out).mono ?_
  rintro e w5 ⟨rfl, h5, hm5⟩
  have hsm5 : Small ((Ab.new 420).stopAt (1 + s)) 100 := stop_small (new_small _ _) (by omega)
  obtain ⟨A5, hA5⟩ : ∃ A, A = (Ab.new 420).stopAt (1 + s) := ⟨_, rfl⟩
  rw [← hA5] at h5 HT hsm5
  have H5 := Lib.hid h5
  have HPU5 := Lib.hid (hm5.pus HPU4.out (fun q hq => hq))
  have HBL5 := Lib.hid (Mx.bl hm5 (HK.out.moved (Moved.of_below HB4.out (fun _ => False)) (fun _ _ _ h => h)) (fun h0 q hq => .inl (HKB.out h0 q hq)))
  have HS5 := Lib.hid hsm5
  clear h5 hm5 hA5 hsm5 HPU4 H4
  go_wp2_with fail
  refine (sx_commit _ g _ H5.out HPU5.out (fun q hq => hq) (HS5.out.mono (by omega))).mono ?_
  rintro e w6 ⟨rfl, h6, hm6⟩
  have HBL6 := Lib.hid (hm6.bl HBL5.out (fun h0 q hq => .inl (HKB.out h0 q hq)))
  have hsm6 := commit_small g HS5.out
  have H6 := Lib.hid h6
  have HS6 := Lib.hid (hsm6.mono (m := 200) (by omega))
  obtain ⟨e6, he6⟩ : ∃ e, e = (A5.commit g).1 := ⟨_, rfl⟩
  obtain ⟨A6, hA6⟩ : ∃ A, A = (A5.commit g).2 := ⟨_, rfl⟩
  obtain ⟨t1, t2, t3, t4, t5⟩ := HT.out
  rw [← hA6] at H6 HS6 t1 t2 t3 t4 t5
  rw [← he6] at t5 ⊢
  have T5 := Lib.hid t5
  clear h6 hm6 hsm6 HBL5 HPU5 he6 hA6 HT H5 t5
  go_wp2_with fail
  refine (sx_crash _ keep H6.out HBL6.out (fun h0 q hq => .inl (HKB.out h0 q hq)) (HS6.out.mono (by omega))).mono ?_
  rintro e w7 ⟨rfl, h7, -⟩
  have H7 := Lib.hid h7
  have HS7 := Lib.hid (crash_small keep HS6.out)
  obtain ⟨A7, hA7⟩ : ∃ A, A = A6.crash keep := ⟨_, rfl⟩
  rw [← hA7] at H7 HS7 T5 t1 t2 t3 t4
  have T2 := Lib.hid t2
  clear h7 hA7 HBL6 H6 t2
  go_wp2_with fail
  refine (sx_recover H7.out (HS7.out.mono (by omega))).mono ?_
  rw [t1]
  rintro e w8 ⟨rfl, h8, -⟩
  have H8 := Lib.hid h8
  have HS8 := Lib.hid ((recover_small HS7.out).mono (m := 1000) (by omega))
  obtain ⟨n, hn⟩ : ∃ n, n = A7.recover.1 := ⟨_, rfl⟩
  obtain ⟨A8, hA8⟩ : ∃ A, A = A7.recover.2.2 := ⟨_, rfl⟩
  rw [← hA8] at H8 HS8 T2 t3 t4
  rw [← hn] at T5 ⊢
  have T3 := Lib.hid t3
  have T4 := Lib.hid t4
  clear h8 H7 hn hA8 t1 t3 t4
  go_wp2_with fail
  refine (sx_homes H8.out T3.out (by rw [T4.out]; omega)).mono ?_
  rintro e w9 ⟨hv, rfl, hrow9, h9, hb9⟩
  have H9 := Lib.hid h9
  have hlt9 := hrow9.lt
  have HROW9 := Lib.hid hrow9.ss
  have h9t := H8.out.take hb9
  have H9T := Lib.hid h9t
  have HLT9 := Lib.hid hlt9
  obtain ⟨ho, hc9, rfl, -⟩ := hrow9.ss
  clear h9 hrow9 hb9 hlt9 h9t H9
  go_wp2_with fail
  refine (sx_recover H9T.out (HS8.out.mono (by omega))).mono ?_
  rw [T2.out]
  rintro e w10 ⟨rfl, h10, hm10⟩
  have HROW10 := Lib.hid (hm10.ss HROW9.out (fun _ q hq => .inr (.inr (HLT9.out q hq))))
  have H10 := Lib.hid h10
  clear h10 hm10 HROW9 H9T HLT9
  go_wp2_with fail
  refine (sx_homes H10.out T3.out (by rw [T4.out]; omega)).mono ?_
  rintro e w11 ⟨hv2, rfl, hrow11, h11, hb11⟩
  have HROW11 := Lib.hid (HROW10.out.moved (Moved.of_below hb11 (fun _ => False)) (fun _ _ _ h => h))
  have HR2 := Lib.hid hrow11.ss
  have HB11 := Lib.hid h11.below
  obtain ⟨ho2, hc11, rfl, -⟩ := hrow11.ss
  clear hrow11 h11 hb11 HROW10 H10
  go_wp2_with fail
  refine (lsame_any _ _ _ _ _ HROW11.out HR2.out).mono ?_
  rw [decide_eq_true rfl]
  rintro e w12 ⟨rfl, hb12⟩
  have HB12 := Lib.hid (HB11.out.trans (hb12.mono HB11.out.size))
  clear hb12 HROW11 HR2 HB11
  rcases T5.out with ⟨rfl, rfl⟩ | ⟨hne, rfl | rfl⟩
  · go_wp2_with fail
    go_ret
    exact ⟨rfl, HB12.out⟩
  · have hn6 : (e6 != 0) = true := by simpa using hne
    clear hne
    go_wp2_with fail
    go_ret
    exact ⟨rfl, HB12.out⟩
  · have hn6 : (e6 != 0) = true := by simpa using hne
    clear hne T5
    obtain ⟨m, hm⟩ : ∃ m, m = g.length := ⟨_, rfl⟩
    rw [← hm] at hcg1 ⊢
    clear hm
    by_cases hz : (m : Int) = 0
    · go_wp2_with fail
      go_ret
      exact ⟨rfl, HB12.out⟩
    · have hz' : ((m : Int) == 0) = false := by simpa using hz
      go_wp2_with fail
      go_ret
      exact ⟨rfl, HB12.out⟩
end Go.Proofs.Ytkhdahipnfloeaa
