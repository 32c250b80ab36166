/- triadref3's homes: pages to their homes. -/
import Derived.Test.YtkhdahipnfloeaaFits
namespace Go.Proofs.Ytkhdahipnfloeaa
open Go.RowKit
set_option maxRecDepth 100000

def Wops (ws : List (Nat × List UInt8)) : List Dop := ws.map fun p => Dop.W p.1 p.2

theorem run_take_ok {A Ak : Ab} {ws : List (Nat × List UInt8)} {k : Nat} (hk : k < ws.length) (h : A.run (Wops (ws.take k)) = (0, Ak)) (he : Ak.writeErr ws[k].1 ws[k].2 = 0) : A.run (Wops (ws.take (k + 1))) = (0, Ak.write ws[k].1 ws[k].2) := by
  unfold Wops at h ⊢
  rw [List.take_succ_eq_append_getElem hk, List.map_append, run_append, h, if_pos rfl]
  show (if Ak.writeErr ws[k].1 ws[k].2 = 0 then _ else _) = _
  rw [if_pos he]
  rfl
theorem run_take_all {A Ak : Ab} {ws : List (Nat × List UInt8)} {k : Nat} (hk : ws.length ≤ k) (h : A.run (Wops (ws.take k)) = (0, Ak)) (rest : List Dop) : A.run (Wops ws ++ rest) = Ak.run rest := by
  rw [List.take_of_length_le hk] at h
  rw [run_append, h, if_pos rfl]
theorem run_take_bad {A Ak : Ab} {ws : List (Nat × List UInt8)} {k : Nat} (hk : k < ws.length) (h : A.run (Wops (ws.take k)) = (0, Ak)) (he : Ak.writeErr ws[k].1 ws[k].2 ≠ 0) (rest : List Dop) : A.run (Wops ws ++ rest) = (Ak.writeErr ws[k].1 ws[k].2, Ak.write ws[k].1 ws[k].2) := by
  have e : Wops ws = Wops (ws.take k) ++ (Dop.W ws[k].1 ws[k].2 :: Wops (ws.drop (k + 1))) := by
    unfold Wops
    have e1 := List.take_append_drop k ws
    rw [List.drop_eq_getElem_cons hk] at e1
    rw [← List.map_cons (f := fun p : Nat × List UInt8 => Dop.W p.1 p.2), ← List.map_append, e1]
  rw [e, List.append_assoc, run_append, h, if_pos rfl]
  show (if Ak.writeErr ws[k].1 ws[k].2 = 0 then _ else _) = _
  rw [if_neg he]

theorem Small.mono {A : Ab} {k m : Nat} (h : Small A k) (hk : k ≤ m) : Small A m := ⟨Nat.le_trans h.1 hk, Nat.le_trans h.2.1 hk, h.2.2⟩
theorem Small.step {A : Ab} {k : Nat} (h : Small A k) : Small A.step (k + 1) := ⟨Nat.succ_le_succ h.1, Nat.le_succ_of_le h.2.1, Nat.le_trans (Nat.sub_le _ _) h.2.2⟩
theorem Small.write {A : Ab} {k : Nat} (h : Small A k) (i : Int) (b : List UInt8) : Small (A.write i b) (k + 1) := by
  unfold Ab.write
  split
  · refine ⟨Nat.succ_le_succ h.1, ?_, Nat.le_trans (Nat.sub_le _ _) h.2.2⟩
    show (A.since ++ [_]).length ≤ _
    rw [List.length_append]
    exact Nat.succ_le_succ h.2.1
  · exact h.mono (Nat.le_succ _)
theorem Small.sync {A : Ab} {k : Nat} (h : Small A k) : Small A.sync (k + 1) := by
  unfold Ab.sync
  split
  · exact h.mono (Nat.le_succ _)
  · split
    · exact h.step
    · exact ⟨h.step.1, Nat.zero_le _, h.step.2.2⟩

theorem write_len (A : Ab) (i : Int) (b : List UInt8) : (A.write i b).now.length = A.now.length := by
  unfold Ab.write
  split
  · show (A.now.set _ _).length = _; rw [List.length_set]
  · rfl
theorem sync_len (A : Ab) : A.sync.now.length = A.now.length := by
  unfold Ab.sync
  split
  · rfl
  · split <;> rfl

theorem PuAt.kept {w w' : World} {S P : Nat → Prop} {b o : Nat} {a : Int} {u : Value} (h0 : w.cell? ⟨b, o, none⟩ = some (.int .i64 a)) (h1 : w.cell? ⟨b, o + 1, none⟩ = some u) (hb : S b) (hm : Moved P w w') (hS : ∀ g, S g → ¬ P g) :
    w'.cell? ⟨b, o, none⟩ = some (.int .i64 a) ∧ w'.cell? ⟨b, o + 1, none⟩ = some u := by
  have hlt : b < w.heap.size := World.block_lt_of_cell? w _ h0
  have hc : ∀ j, w'.cell? ⟨b, j, none⟩ = w.cell? ⟨b, j, none⟩ := fun j => World.cell?_of_block (a := ⟨b, j, none⟩) (hm.block b hlt (hS b hb))
  exact ⟨(hc _).trans h0, (hc _).trans h1⟩

theorem homes_split (l : Pages) : homesOps l = Wops (homeWs l) ++ [Dop.S, Dop.W 0 [], Dop.S] := by
  unfold homesOps ph
  rw [List.append_assoc]
  rfl
theorem homeWs_get (l : Pages) (k : Nat) (h : k < l.length) : (homeWs l)[k]'(by simpa [homeWs] using h) = (l[k].1.toNat, page l[k].2) := by simp [homeWs]

set_option maxHeartbeats 2000000 in
theorem rhomes_any (v : Value) (l : Pages) (S : Nat → Prop) (w : World) (Q : Nat → Prop) (x : Nat) (A : Ab) (h : RkA w Q x A) (hp : Pus w S v l) (hS : ∀ g, S g → ¬ Q g) (hl : ∀ p ∈ l, 0 ≤ p.1 ∧ p.2.length ≤ 504) (hln : l.length ≤ 1000) (hs : Small A 1000000) :
    Calls Try.prog 43 #[.pointer (some ⟨x, 0, none⟩), v] w fun e w' => e = .returned (.int .i64 (A.run (homesOps l)).1) ∧ RkTo w Q w' x (A.run (homesOps l)).2 := by
  have hp' := hp
  obtain ⟨ao, cap, rfl, hc1, hc2, hE⟩ := hp
  have hc2' : cap ≤ 9223372036854775807 := hc2
  obtain ⟨n, hn⟩ : ∃ n, n = l.length := ⟨_, rfl⟩
  have HE := Lib.hid hE
  have HN := Lib.hid hn
  have HL := Lib.hid hl
  have HR := Lib.hid (homes_split l)
  have H0 : Hid (RkTo w Q w x A) := RkTo.refl h
  have HS := Lib.hid hs
  have HSS := Lib.hid hS
  rw [← hn] at hc1 hln ⊢
  clear hE hn hc2 hl hp' h hs hS
  go_enter Try.func43, Try.ntmps43
  go_wp2_with fail
  go_loopw [5, 6] (fun i _ wr => ∃ k : Nat, k ≤ n ∧ i = .int .i64 k ∧ ∃ Ak, A.run (Wops ((homeWs l).take k)) = (0, Ak) ∧ RkTo w Q wr x Ak ∧ Small Ak (1000000 + k)) (fun i _ _ => n - (intOf i).toNat)
  case atStart => exact ⟨0, Nat.zero_le _, rfl, A, rfl, H0.out, HS.out⟩
  case round =>
    obtain ⟨k, hk, rfl, Ak, hrun, hR, hsm⟩ := hrel
    have HRun := Lib.hid hrun
    have HA := Lib.hid hR
    have HSM := Lib.hid hsm
    clear hrun hR hsm
    by_cases hlt : k < n
    · have hkl : k < l.length := by rw [← HN.out]; exact hlt
      obtain ⟨b, off, rfl, hSb, hA⟩ := HE.out k hkl
      obtain ⟨Qk, -, hM, -⟩ := id HA.out
      obtain ⟨z0, u, z1, hbs, hub⟩ := hA
      have hpk := HL.out _ (List.getElem_mem hkl)
      have hkw : k < (homeWs l).length := by simpa [homeWs] using hkl
      have hget := homeWs_get l k hkl
      obtain ⟨at1, hat⟩ : ∃ m : Nat, (m : Int) = l[k].1 := ⟨l[k].1.toNat, by omega⟩
      obtain ⟨bs, hbb⟩ : ∃ m, m = l[k].2 := ⟨_, rfl⟩
      rw [← hbb, ← hat, Int.toNat_natCast] at hget
      rw [← hat] at z0
      rw [← hbb] at hbs hpk hub
      replace hbs := hbs.moved0 hM (fun h0 k hk => HSS.out k (hub h0 k hk))
      obtain ⟨c0, c1⟩ := PuAt.kept z0 z1 hSb hM HSS.out
      have KEY := Lib.hid (fun (w' : World) (A' : Ab) (h' : RkTo w Q w' x A') => (by obtain ⟨_, -, hM', -⟩ := h'; exact PuAt.kept z0 z1 hSb hM' HSS.out : w'.cell? ⟨b, off + k * 2, none⟩ = some (.int .i64 (at1 : Int)) ∧ w'.cell? ⟨b, off + k * 2 + 1, none⟩ = some u))
      have hb5 := hpk.2
      have ok := run_take_ok hkw HRun.out
      have bad := fun he => run_take_bad hkw HRun.out he [Dop.S, Dop.W 0 [], Dop.S]
      rw [hget] at ok bad
      rw [← HR.out] at bad
      have OK := Lib.hid ok
      have BAD := Lib.hid bad
      have HBS := Lib.hid hbs.drew
      clear ok bad hget hpk hat hbb hSb hM hbs z0 z1 hub
      obtain ⟨er, her⟩ : ∃ er, er = Ak.writeErr at1 (page bs) := ⟨_, rfl⟩
      have HER := Lib.hid her
      clear her
      have hne : (er != 0) = !(er == 0) := rfl
      cases he : er == 0
      · rw [he] at hne
        go_wp2_with fail
        go_region_held3 (fun w' => w'.cell? ⟨b, off + k * 2, none⟩ = some (.int .i64 (at1 : Int)) ∧ w'.cell? ⟨b, off + k * 2 + 1, none⟩ = some u) (first | exact ⟨c0, c1⟩ | exact q1 | exact q2)
          (first
            | (go_at_call 42; refine (page_any u bs _ HBS.out hb5).mono ?_; rintro e wp ⟨g, rfl, hg, hown, hbp⟩; have HAp := Lib.hid ((HA.out.grow (Below.refl _ _).drew).grow hbp); have q1 := KEY.out _ _ HAp.out)
            | (go_at_call 24; refine (ro_write at1 _ (page bs) HAp.out hown.bs (HSM.out.mono (by omega))).mono ?_; rw [← HER.out]; rintro e wq ⟨rfl, hwq⟩; have q2 := KEY.out _ _ hwq; have HW := Lib.hid hwq))
        clear q1 q2 c0 c1 hown hbp hwq KEY
        go_wp2_with fail
        go_ret
        have hE : Ak.writeErr at1 (page bs) ≠ 0 := by rw [← HER.out]; simpa using he
        rw [BAD.out hE]
        exact ⟨by rw [← HER.out]; rfl, HW.out⟩
      · rw [he] at hne
        go_wp2_with fail
        go_region_held3 (fun w' => w'.cell? ⟨b, off + k * 2, none⟩ = some (.int .i64 (at1 : Int)) ∧ w'.cell? ⟨b, off + k * 2 + 1, none⟩ = some u) (first | exact ⟨c0, c1⟩ | exact q1 | exact q2)
          (first
            | (go_at_call 42; refine (page_any u bs _ HBS.out hb5).mono ?_; rintro e wp ⟨g, rfl, hg, hown, hbp⟩; have HAp := Lib.hid ((HA.out.grow (Below.refl _ _).drew).grow hbp); have q1 := KEY.out _ _ HAp.out)
            | (go_at_call 24; refine (ro_write at1 _ (page bs) HAp.out hown.bs (HSM.out.mono (by omega))).mono ?_; rw [← HER.out]; rintro e wq ⟨rfl, hwq⟩; have q2 := KEY.out _ _ hwq; have HW := Lib.hid hwq))
        clear q1 q2 c0 c1 hown hbp hwq KEY
        go_wp2_with fail
        go_roundw
        case rel =>
          refine ⟨k + 1, by omega, by go_num, _, OK.out (by rw [← HER.out]; simpa using he), HW.out, ?_⟩
          exact (HSM.out.write _ _).mono (by omega)
        case measure => simp [intOf]; omega
    · obtain rfl : k = n := by omega
      have hrest := run_take_all (by simp [homeWs]; have := HN.out; omega) HRun.out [Dop.S, Dop.W 0 [], Dop.S]
      rw [← HR.out] at hrest
      obtain ⟨e1, he1⟩ : ∃ e, e = Ak.syncErr := ⟨_, rfl⟩
      obtain ⟨e2, he2⟩ : ∃ e, e = Ak.sync.writeErr 0 [] := ⟨_, rfl⟩
      obtain ⟨e3, he3⟩ : ∃ e, e = (Ak.sync.write 0 []).syncErr := ⟨_, rfl⟩
      have hrun : A.run (homesOps l) = if e1 = 0 then (if e2 = 0 then (if e3 = 0 then (0, (Ak.sync.write 0 []).sync) else (e3, (Ak.sync.write 0 []).sync)) else (e2, Ak.sync.write 0 [])) else (e1, Ak.sync) := by
        rw [hrest, he1, he2, he3]; rfl
      have HRUN := Lib.hid hrun
      have HE1 := Lib.hid he1
      have HE2 := Lib.hid he2
      have HE3 := Lib.hid he3
      clear hrun hrest he1 he2 he3
      have hs1 := HSM.out.sync
      have hs2 := hs1.write 0 []
      have HS0 := Lib.hid (HSM.out.mono (m := 1073741824) (by omega))
      have HS1 := Lib.hid (hs1.mono (m := 1073741824) (by omega))
      have HS2 := Lib.hid (hs2.mono (m := 1073741824) (by omega))
      clear hs1 hs2
      go_wp2_with fail
      refine (ro_sync HA.out HS0.out).mono ?_
      rw [← HE1.out]
      rintro e wa ⟨rfl, ha⟩
      cases h1 : e1 == 0
      · go_wp2_with fail
        go_ret
        rw [HRUN.out, if_neg (by simpa using h1)]
        exact ⟨rfl, ha⟩
      have h1' : e1 = 0 := by simpa using h1
      subst h1'
      go_wp2_with fail
      refine (ro_write 0 _ [] ha (Bs.nil _) HS1.out).mono ?_
      rw [← HE2.out]
      rintro e wb ⟨rfl, hb⟩
      cases h2 : e2 == 0
      · go_wp2_with fail
        go_ret
        rw [HRUN.out, if_pos trivial, if_neg (by simpa using h2)]
        exact ⟨rfl, hb⟩
      have h2' : e2 = 0 := by simpa using h2
      subst h2'
      go_wp2_with fail
      refine (ro_sync hb HS2.out).mono ?_
      rw [← HE3.out]
      rintro e wc ⟨rfl, hc⟩
      go_wp2_with fail
      go_ret
      rw [HRUN.out, if_pos trivial, if_pos trivial]
      by_cases h3 : e3 = 0
      · rw [if_pos h3, h3]; exact ⟨rfl, hc⟩
      · rw [if_neg h3]; exact ⟨rfl, hc⟩
end Go.Proofs.Ytkhdahipnfloeaa
