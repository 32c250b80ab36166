/- OpsW, Twice, Px, Commits, Want: what speaks of packages code, disk and redo alone. -/
import Derived.Test.YtcnfnpccbnnplaaRedoB4
namespace Go.Proofs.Ytcnfnpccbnnplaa
open Go.RowKit
set_option maxRecDepth 100000

section
/-- A region that is walked under a stronger condition. -/
theorem wpAnyH_mono {P : Program} {ops : Array Oper} {Q : Exit → Act → World → Prop} {md : Region.Mode} {S S' : World → Prop} (hS : ∀ w, S' w → S w) :
    ∀ (fuel : Nat) (listed : Array Bool) (a : Act) (w : World), wpAnyH P md ops Q S' fuel listed a w → wpAnyH P md ops Q S fuel listed a w
  | 0, _, _, _, h => h
  | fuel + 1, _, _, _, h => ⟨h.1, fun i hi => wpOp_mono (fun a' w' h' => ⟨hS _ h'.1, wpAnyH_mono hS fuel _ a' w' h'.2⟩) (h.2 i hi)⟩

/-- What the call has built: X. -/
def Built (a b : Nat) (k : Nat) : Prop := a ≤ k ∧ k < b
theorem good_pagess (l : Pages) (h : (goodOf l).length ≠ 0) : Pagess 420 (goodOf l) := goodOf_pages l (fun e => h (by rw [e]; rfl))
theorem good_short (l : Pages) : (goodOf l).length ≤ 8 := (goodTo_good l 8).short
end

section
theorem commitOps_length (l : Pages) : (commitOps l).length = 2 * l.length + 6 := by
  simp [commitOps, homesOps, ph, bodyWs_length, homeWs]; omega
theorem commit_small {A : Ab} {k : Nat} (l : Pages) (h : Small A k) : Small (A.commit l).2 (k + (2 * l.length + 6)) := by
  unfold Ab.commit
  split
  · have := run_small (commitOps l) h
    rwa [commitOps_length] at this
  · exact h.mono (by omega)
theorem homesOps_length (l : Pages) : (homesOps l).length = l.length + 3 := by simp [homesOps, ph, homeWs]
theorem recOf_disk (A : Ab) (n : Int) (l : Pages) : (recOf A n (some l)).2.2 = (A.run (homesOps l)).2 := by
  show (if (A.run (homesOps l)).1 = 0 then _ else _ : Int × Int × Ab).2.2 = _
  split <;> rfl
theorem recover_small {A : Ab} {k : Nat} (h : Small A k) : Small A.recover.2.2 (k + 403) := by
  rw [recover_pend]
  split
  · have h1 := run_small (homesOps (pendOf A).1) h
    rw [homesOps_length] at h1
    have h2 := (pend_ok A).1
    rw [recOf_disk]
    exact h1.mono (by omega)
  · exact h.mono (by omega)
theorem crash_small {A : Ab} {k : Nat} (keep : List Bool) (h : Small A k) : Small (A.crash keep) k := ⟨h.1, Nat.zero_le _, Nat.zero_le _⟩
theorem stop_small {A : Ab} {k : Nat} {n : Int} (h : Small A k) (hn : n ≤ 1073741824) : Small (A.stopAt n) k := ⟨h.1, h.2.1, by show n.toNat ≤ _; omega⟩
theorem Synced.stopAt {A : Ab} {K : List (List UInt8)} (h : Synced A K) (n : Int) : Synced (A.stopAt n) K := ⟨h.now, h.kept, h.since, h.live⟩

/-- What is there of a log of l over the homes H. -/
def Some3 (K H : List (List UInt8)) (l : Pages) : Prop := Before K H ∨ Logged K H l ∨ After K H l
theorem Some3.len {K H : List (List UInt8)} {l : Pages} (h : Some3 K H l) : K.length = H.length := by
  rcases h with h | h | h
  · exact h.len
  · exact h.len
  · exact h.len

/-- Behind a commit, stopped or not, and a crash. -/
theorem commit_crash {A : Ab} {K : List (List UInt8)} {l : Pages} (hS : Synced A K) (hK : K[0]? = some (zeros 512)) (hl : Pagess K.length l) (keep : List Bool) :
    ∃ K', Synced ((A.commit l).2.crash keep) K' ∧ ((A.commit l).2.crash keep).stop = 0 ∧ ((A.commit l).1 = 0 ∧ After K' K l ∨ (A.commit l).1 = 13 ∧ Some3 K' K l) := by
  have hc : A.commit l = A.run (commitOps l) := by unfold Ab.commit; rw [if_pos ((fits_iff _ _).2 (by rw [hS.now]; exact hl))]
  rw [hc]
  rcases commit_out hS (Before.self hK) hl with ⟨q1, ⟨K', q2, q3⟩, -, -⟩ | ⟨q1, ⟨K0, ws, q2, q3⟩, -⟩
  · have := q2.crash keep
    exact ⟨K', this.1, this.2, .inl ⟨q1, q3⟩⟩
  · obtain ⟨l', h1, h2, h3⟩ := q2.crash keep
    exact ⟨_, h2, h3, .inr ⟨q1, q3 l' h1⟩⟩

/-- Recover, not stopped. -/
theorem recover_ends {A : Ab} {K H : List (List UInt8)} {l : Pages} (hS : Synced A K) (h3 : Some3 K H l) (hl : Pagess H.length l) (hsz : H.length ≤ 1073741824) (h0 : A.stop = 0) :
    ∃ n K', A.recover.1 = n ∧ A.recover.2.1 = 0 ∧ Synced A.recover.2.2 K' ∧ (Before K' H ∨ After K' H l) ∧ (n = 0 ∨ n = l.length) := by
  rcases h3 with h | h | h
  · rw [recover_none hS h.head]
    exact ⟨0, K, rfl, rfl, hS, .inl h, .inl rfl⟩
  · have hl' : Pagess K.length l := by rw [h.len]; exact hl
    rcases recover_log hS h hl' (by rw [h.len]; exact hsz) with ⟨e, K', q1, q2⟩ | ⟨-, -, q⟩
    · rw [e]
      exact ⟨_, K', rfl, rfl, q1, .inr q2, .inr rfl⟩
    · omega
  · rw [recover_none hS h.head]
    exact ⟨0, K, rfl, rfl, hS, .inr h, .inl rfl⟩

structure TwiceP (A : Ab) (l : Pages) (keep : List Bool) : Prop where
  f : ((A.commit l).2.crash keep).recover.2.1 = 0
  again : ((A.commit l).2.crash keep).recover.2.2.recover = (0, 0, ((A.commit l).2.crash keep).recover.2.2)
  live : ((A.commit l).2.crash keep).recover.2.2.dead = false
  len : ((A.commit l).2.crash keep).recover.2.2.now.length = 420
  ends : ((A.commit l).1 = 0 ∧ ((A.commit l).2.crash keep).recover.1 = 0) ∨ ((A.commit l).1 ≠ 0 ∧ (((A.commit l).2.crash keep).recover.1 = 0 ∨ ((A.commit l).2.crash keep).recover.1 = l.length))

theorem twice_plain (l : Pages) (s : Int) (keep : List Bool) (hl : l.length ≠ 0 → Pagess 420 l) : TwiceP ((Ab.new 420).stopAt s) l keep := by
  obtain ⟨A, hA⟩ : ∃ A, A = (Ab.new 420).stopAt s := ⟨_, rfl⟩
  have hS : Synced A (List.replicate 420 (zeros 512)) := by rw [hA]; exact (new_synced 420).stopAt s
  have hK := new_head 420 (by omega)
  have hlen : (List.replicate 420 (zeros 512)).length = 420 := List.length_replicate ..
  rw [← hA]
  clear hA
  generalize List.replicate 420 (zeros 512) = K at hS hK hlen
  by_cases h0 : l.length = 0
  · obtain rfl : l = [] := List.eq_nil_of_length_eq_zero h0
    have hc : A.commit [] = (1, A) := commit_bad (by unfold fitsOf; simp)
    have h1 := (hS.crash keep).1
    have hr : (A.crash keep).recover = (0, 0, A.crash keep) := recover_none h1 hK
    refine ⟨?_, ?_, ?_, ?_, .inr ⟨?_, .inl ?_⟩⟩ <;> rw [hc]
    · rw [hr]
    · rw [hr]; exact hr
    · rw [hr]; exact h1.live
    · rw [hr]; show (A.crash keep).now.length = 420; rw [h1.now, hlen]
    · exact Int.one_ne_zero
    · rw [hr]
  · obtain ⟨K', g1, g2, g3⟩ := commit_crash hS hK (by rw [hlen]; exact hl h0) keep
    have h3 : Some3 K' K l := by
      rcases g3 with h | h
      · exact .inr (.inr h.2)
      · exact h.2
    obtain ⟨n, K'', r1, r2, r3, r4, r5⟩ := recover_ends g1 h3 (by rw [hlen]; exact hl h0) (by rw [hlen]; omega) g2
    have hh : K''[0]? = some (zeros 512) := by
      rcases r4 with h | h
      · exact h.head
      · exact h.head
    have hl2 : K''.length = 420 := by
      rcases r4 with h | h
      · rw [h.len, hlen]
      · rw [h.len, hlen]
    refine ⟨r2, recover_none r3 hh, r3.live, by rw [r3.now, hl2], ?_⟩
    rcases g3 with ⟨e, ha⟩ | ⟨e, -⟩
    · refine .inl ⟨e, ?_⟩
      rw [recover_none g1 ha.head]
    · refine .inr ⟨by rw [e]; decide, ?_⟩
      rw [r1]
      exact r5
end

section
section
variable {w0 w : World} {X : Nat → Prop} {r x : Nat} {A B : Ab}

end

theorem drewBelow (w : World) : Below w.heap.size w w.drew := (Below.refl _ _).drew
end

section
def Len (A : Ab) (n : Nat) : Prop := A.now.length = n ∧ A.kept.length = n
theorem Len.write {A : Ab} {n : Nat} (h : Len A n) (i : Int) (b : List UInt8) : Len (A.write i b) n := by
  unfold Ab.write
  split
  · exact ⟨by show (A.now.set _ _).length = n; rw [List.length_set]; exact h.1, h.2⟩
  · exact h
theorem Len.sync {A : Ab} {n : Nat} (h : Len A n) : Len A.sync n := by
  unfold Ab.sync
  split
  · exact h
  · split
    · exact h
    · exact ⟨h.1, h.1⟩
theorem Len.run (ops : List Dop) : ∀ {A : Ab} {n : Nat}, Len A n → Len (A.run ops).2 n := by
  induction ops with
  | nil => intro A n h; exact h
  | cons o t ih =>
    intro A n h
    cases o with
    | W i b =>
      simp only [Ab.run]
      split
      · exact ih (h.write i b)
      · exact h.write i b
    | S =>
      simp only [Ab.run]
      split
      · exact ih h.sync
      · exact h.sync
theorem Len.commit {A : Ab} {n : Nat} (h : Len A n) (l : Pages) : Len (A.commit l).2 n := by
  unfold Ab.commit
  split
  · exact h.run _
  · exact h
theorem Len.stop {A : Ab} {n : Nat} (h : Len A n) (m : Int) : Len (A.stopAt m) n := h
theorem Len.crash0 {A : Ab} {n : Nat} (h : Len A n) : Len (A.crash []) n := by
  have e : ∀ n, lay A.kept A.since [] n = A.kept := by
    intro n
    induction n with
    | zero => rfl
    | succ n ih => simp [lay, ih]
  unfold Ab.crash
  rw [e]
  exact ⟨h.2, h.2⟩
theorem Len.new (n : Nat) : Len (Ab.new n) n := ⟨by simp [Ab.new], by simp [Ab.new]⟩

theorem Mx.trans {w0 a b c : World} {X : Nat → Prop} (h : Mx w0 X a b) (k : Mx w0 X b c) : Mx w0 X a c := Moved.trans h k (fun _ hj => .inl hj)
theorem Mx.refl (w0 : World) (X : Nat → Prop) (a : World) : Mx w0 X a a := Moved.refl _ _
theorem Mx.of {w0 a b : World} {X : Nat → Prop} (h : Below a.heap.size a b) : Mx w0 X a b := Moved.of_below h _
/-- One of the rows: a slice in a cell of the block b. -/
def RowAt (w0 w : World) (X : Nat → Prop) (b k : Nat) (l : Pages) : Prop := ∃ ao cap, w.cell? ⟨b, k, none⟩ = some (.slice ao l.length cap) ∧ Pus w (fun g => g < w0.heap.size ∨ X g) (.slice ao l.length cap) l ∧ X b
theorem RowAt.mx {w0 w w' : World} {X : Nat → Prop} {b k : Nat} {l : Pages} (h : RowAt w0 w X b k l) (hm : Mx w0 X w w') : RowAt w0 w' X b k l := by
  obtain ⟨ao, cap, h1, h2, h3⟩ := h
  have hlt := World.block_lt_of_cell? w _ h1
  exact ⟨ao, cap, (World.cell?_of_block (a := ⟨b, k, none⟩) (hm.block b hlt (fun hj => hj.2 h3))).trans h1, hm.pus h2 (fun g hg => hg), h3⟩
end

section
def texts (L : List (List UInt8)) : List ByteArray := L.map fun s => ⟨s.toArray⟩
theorem homesOf_texts (A : Ab) : homesOf A = texts (A.now.drop 401) := rfl
theorem texts_length (L : List (List UInt8)) : (texts L).length = L.length := by simp [texts]
theorem texts_set (L : List (List UInt8)) (j : Nat) (s : List UInt8) : texts (L.set j s) = (texts L).set j ⟨s.toArray⟩ := by simp [texts, List.map_set]
def wants (H : List (List UInt8)) (l : Pages) : List (List UInt8) := over H (l.map fun p => (p.1.toNat - 401, sec p.2))
theorem wants_nil (H : List (List UInt8)) : wants H [] = H := rfl
theorem wants_length (H : List (List UInt8)) (l : Pages) : (wants H l).length = H.length := over_length _ _
theorem wants_succ (H : List (List UInt8)) (l : Pages) (k : Nat) (hk : k < l.length) : wants H (l.take (k + 1)) = (wants H (l.take k)).set (l[k].1.toNat - 401) (sec l[k].2) := by
  unfold wants
  rw [List.take_succ_eq_append_getElem hk, List.map_append, over_append]
  rfl

theorem before_homes {K H : List (List UInt8)} (h : Before K H) : K.drop 401 = H.drop 401 := by
  apply List.ext_getElem?
  intro j
  rw [List.getElem?_drop, List.getElem?_drop]
  exact h.homes (401 + j) (by omega)
theorem after_homes {K H : List (List UInt8)} {l : Pages} (h : After K H l) (hl : Pagess H.length l) : K.drop 401 = wants (H.drop 401) l := by
  apply List.ext_getElem?
  intro j
  rw [List.getElem?_drop]
  by_cases hp : ∃ p ∈ l, p.1 = ((401 + j : Nat) : Int)
  · obtain ⟨p, hp, e⟩ := hp
    have hok := hl.ok p hp
    have h1 := h.mine p hp
    rw [show p.1.toNat = 401 + j by omega, sec_page _ hok.2.2] at h1
    rw [h1]
    symm
    refine over_mem _ _ ?_ j (sec p.2) (List.mem_map.2 ⟨p, hp, by rw [show p.1.toNat - 401 = j by omega]⟩) ?_
    · rw [List.map_map]
      have hn := hl.nodup
      rw [List.Nodup, List.pairwise_map] at hn ⊢
      refine List.Pairwise.imp_of_mem (fun {a b} ha hb hab hne => ?_) hn
      have h2 := hl.ok a ha
      have h3 := hl.ok b hb
      simp only [Function.comp] at hne
      exact hab (by omega)
    · rw [List.length_drop]; omega
  · rw [h.homes (401 + j) (by omega) (fun p hp' e => hp ⟨p, hp', e⟩)]
    unfold wants
    rw [over_other _ _ _ (fun q hq e => ?_), List.getElem?_drop]
    obtain ⟨p, hp', rfl⟩ := List.mem_map.1 hq
    have hok := hl.ok p hp'
    exact hp ⟨p, hp', by simp only at e; omega⟩

/-- Recover, stopped or not, and a crash. -/
theorem recover_crash {A : Ab} {K H : List (List UInt8)} {l : Pages} (hS : Synced A K) (h3 : Some3 K H l) (hl : Pagess H.length l) (hsz : H.length ≤ 1073741824) (keep : List Bool) :
    ∃ K', Synced (A.recover.2.2.crash keep) K' ∧ (A.recover.2.2.crash keep).stop = 0 ∧ Some3 K' H l ∧ (After K H l → After K' H l) := by
  by_cases ha : After K H l
  · rw [recover_none hS ha.head]
    exact ⟨K, (hS.crash keep).1, (hS.crash keep).2, .inr (.inr ha), fun h => h⟩
  · rcases h3 with h | h | h
    · rw [recover_none hS h.head]
      exact ⟨K, (hS.crash keep).1, (hS.crash keep).2, .inl h, fun h => absurd h ha⟩
    · have hl' : Pagess K.length l := by rw [h.len]; exact hl
      rcases recover_log hS h hl' (by rw [h.len]; exact hsz) with ⟨e, K', q1, q2⟩ | ⟨e, ⟨K0, ws, q1, q2⟩, -⟩
      · rw [e]
        exact ⟨K', (q1.crash keep).1, (q1.crash keep).2, .inr (.inr q2), fun _ => q2⟩
      · rw [e]
        obtain ⟨l', g1, g2, g3⟩ := q1.crash keep
        exact ⟨_, g2, g3, .inr (q2 l' g1), fun h => absurd h ha⟩
    · exact absurd h ha

/-! ### A row of texts -/

/-- The block g is a row of texts (and what stands behind). -/
def RowS (w : World) (g : Nat) (L : List ByteArray) : Prop := ∃ cur : Array Value, Blk w g cur 9 ∧ cur.toList.take L.length = strs L
theorem strs_length (L : List ByteArray) : (strs L).length = L.length := by simp [strs]
theorem RowS.lt {w : World} {g : Nat} {L : List ByteArray} (h : RowS w g L) : g < w.heap.size := by
  obtain ⟨cur, h1, -⟩ := h
  exact h1.lt
theorem RowS.cell {w : World} {g : Nat} {L : List ByteArray} (h : RowS w g L) (j : Nat) (hj : j < L.length) : w.cell? ⟨g, j, none⟩ = some (.string L[j]) := by
  obtain ⟨cur, h1, h2⟩ := h
  rw [h1.cell, ← Array.getElem?_toList]
  have e : (cur.toList.take L.length)[j]? = cur.toList[j]? := by rw [List.getElem?_take, if_pos hj]
  rw [← e, h2]
  simp [strs, hj]
theorem RowS.frozen {w : World} {g : Nat} {L : List ByteArray} (h : RowS w g L) (j : Nat) : w.frozen? ⟨g, j, none⟩ = false := by
  obtain ⟨cur, h1, -⟩ := h
  exact h1.frozen j
theorem RowS.set {w : World} {g : Nat} {L : List ByteArray} (h : RowS w g L) (j : Nat) (b : ByteArray) : RowS (w.setCell ⟨g, j, none⟩ (.string b)) g (L.set j b) := by
  obtain ⟨cur, h1, h2⟩ := h
  refine ⟨_, h1.set j (.string b), ?_⟩
  rw [List.length_set, Array.toList_setIfInBounds, List.take_set, h2]
  simp [strs, List.map_set]
theorem RowS.moved {P : Nat → Prop} {w w' : World} {g : Nat} {L : List ByteArray} (h : RowS w g L) (hm : Moved P w w') (hP : ¬ P g) : RowS w' g L := by
  obtain ⟨cur, h1, h2⟩ := h
  exact ⟨cur, h1.moved hm hP, h2⟩
theorem RowS.ss {w : World} {g : Nat} {L : List ByteArray} (h : RowS w g L) (n cap : Nat) (hn : n = L.length) (hc : L.length ≤ cap) (hm : cap ≤ maxLen) : Ss w (.slice (some ⟨g, 0, none⟩) n cap) L := by
  refine ⟨_, cap, by rw [hn], hc, hm, (fun h => by cases h), fun ad had j u hu => ?_⟩
  cases had
  have hj : j < L.length := by
    have := (List.getElem?_eq_some_iff.1 hu).1
    rwa [strs_length] at this
  have hcell := h.cell j hj
  rw [Addr.add_lit, Nat.zero_add, hcell]
  simpa [strs, hj] using hu
theorem OwnS.row {w : World} {base : Nat} {v : Value} {L : List ByteArray} (h : OwnS w base v L) (h0 : 0 < L.length) : ∃ g cap, v = .slice (some ⟨g, 0, none⟩) L.length cap ∧ L.length ≤ cap ∧ cap ≤ maxLen ∧ base ≤ g ∧ RowS w g L := by
  rcases h.2 with ⟨rfl, hn⟩ | ⟨g, cap, cur, rfl, hb, hh, h1, h2, h3, h4⟩
  · omega
  · exact ⟨g, cap, rfl, h1, h2, hb, cur, hh, by simpa using h4⟩

theorem Sx.mv {w0 w w' : World} {X P' : Nat → Prop} {r : Nat} {A : Ab} (h : Sx w0 w X r A) (hm : Moved P' w w') (hP : ∀ k, P' k → X k ∧ w0.heap.size ≤ k) : Sx w0 w' X r A := by
  obtain ⟨h1, h2, P, h3, h4⟩ := h
  exact ⟨h1.trans (hm.below (fun j hj => (hP j hj).2) h1.size), fun k hk => Nat.lt_of_lt_of_le (h2 k hk) hm.size, P, h3.moved hm (fun k hk hj => (h4 k hk).2.2 (hP k hj).1), fun k hk => ⟨(h4 k hk).1, Nat.lt_of_lt_of_le (h4 k hk).2.1 hm.size, (h4 k hk).2.2⟩⟩
end
end Go.Proofs.Ytcnfnpccbnnplaa
