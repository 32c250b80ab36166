/- The pager: differs. -/
import Derived.Test.YtcnfnpccbnnplaaPgEq
import Derived.Deep.QuietTactic
import Derived.BigQuiet
namespace Go.Proofs.Ytcnfnpccbnnplaa
open Go.RowKit Go.Maps
set_option maxRecDepth 100000

/-- 'x' out of a variable of a page, under a guard. -/
theorem wp_pload {o : Oper} {a : Act} {w : World} {K : Act → World → Prop} {Q : Exit → Act → World → Prop} (x : Operand) (ho : o.op = .load 103 x)
    (g : Nat) (hx : a.eval x = .pointer (some ⟨g, 0, none⟩)) (t : TypeId) (l : List UInt8) (hg : Blk w g (vbs l).toArray t) (hl : l.length = 504) (h : K (a.put o.dst (pg l)) w) : o.wp Try.prog a w K Q :=
  wp_load_row _ x ho g hx t _ (0, 0) _ hg Try.underlying103 rfl (pg_size hl) h

theorem pg_guard (w : World) (x y : Operand) (a b : List UInt8) : (eqGuard .neq 103 x y (pg a) (pg b)).run Try.prog w = .ok () w :=
  run_eqGuard_agg w .neq _ x y _ _ (by kernel_rfl)

/-- Does page k differ from what it was at Begin? -/
def rowDiff (S W : Stt) (k : Nat) : Bool := (S.next.getD k 0 != W.next.getD k 0) || (k == 0 && S.root != W.root)
def putDiff (A : Ab) (t : Tx) (k : Nat) : Bool := match t.f k with
  | none => false
  | some b => A.fault (401 + k) != 0 || !(b == storedOf A k)
def diffOf (A : Ab) (S : Stt) (t : Tx) (k : Nat) : Bool := rowDiff S t.was k || putDiff A t k

section
variable {w : World} {P Q : Nat → Prop} {r p : Nat} {A : Ab} {S : Stt} {t : Tx}

/-- What differs reads. -/
theorem diff_cells (h : Pg w Q r p S (some t)) (k : Nat) (hk : k < S.next.length) (hw : t.was.next.length = S.next.length) :
    ∃ gn cn gw cw b, w.cell? ⟨p, 0, none⟩ = some (.pointer (some ⟨r, 0, none⟩)) ∧ w.cell? ⟨p, 1, none⟩ = some (.int .i64 S.root) ∧ w.cell? ⟨p, 2, none⟩ = some (.slice (some ⟨gn, 0, none⟩) S.next.length cn) ∧
      w.cell? ⟨p, 3, none⟩ = some (.int .i64 t.was.root) ∧ w.cell? ⟨p, 4, none⟩ = some (.slice (some ⟨gw, 0, none⟩) S.next.length cw) ∧ w.cell? ⟨p, 5, none⟩ = some (.map (some b)) ∧
      w.cell? ⟨gn, k, none⟩ = some (.int .i64 (S.next.getD k 0)) ∧ w.cell? ⟨gw, k, none⟩ = some (.int .i64 (t.was.next.getD k 0)) ∧ Pm w b t.f t.n ∧ S.next.length ≤ cn ∧ cn ≤ maxLen ∧ cw ≤ maxLen ∧ p < w.heap.size := by
  obtain ⟨gn, cn, gw, cw, b, h, q⟩ := h
  obtain ⟨c0, c1, c2, c3, c4, c5⟩ := h.cells
  refine ⟨gn, cn, gw, cw, b, c0, c1, c2, c3, by rw [← hw]; exact c4, c5, ?_, ?_, q.map, h.cap, h.max, q.max, h.top.lt⟩
  · rw [h.row.cell k hk]; simp [List.getD, hk]
  · rw [q.row.cell k (by omega)]
    have : k < t.was.next.length := by omega
    simp [List.getD, this]

theorem differs_row (h : Pg w Q r p S (some t)) (k : Nat) (hk : k < S.next.length) (hw : t.was.next.length = S.next.length) (hr : rowDiff S t.was k = true) :
    Calls Try.prog 81 #[.pointer (some ⟨p, 0, none⟩), .int .i64 k] w fun e w' => e = .returned (.bool true) ∧ Below w.heap.size w w' := by
  obtain ⟨gn, cn, gw, cw, b, c0, c1, c2, c3, c4, c5, x1, y1, hm, h1, h2, h3, hpl⟩ := diff_cells h k hk hw
  unfold maxLen at h2 h3
  unfold rowDiff at hr
  obtain ⟨x, hx⟩ : ∃ x, x = S.next.getD k 0 := ⟨_, rfl⟩
  obtain ⟨y, hy⟩ : ∃ y, y = t.was.next.getD k 0 := ⟨_, rfl⟩
  obtain ⟨n, hn⟩ : ∃ n, n = S.next.length := ⟨_, rfl⟩
  obtain ⟨a, ha⟩ : ∃ a, a = S.root := ⟨_, rfl⟩
  obtain ⟨z, hz⟩ : ∃ z, z = t.was.root := ⟨_, rfl⟩
  rw [← hx] at x1 hr
  rw [← hy] at y1 hr
  rw [← ha] at c1 hr
  rw [← hz] at c3 hr
  rw [← hn] at c2 c4 hk h1
  have hkn : (k : Int) < n := by omega
  clear h hw hm hx hy hn ha hz hpl
  by_cases hxy : x = y
  · subst hxy
    have hxx : (x != x) = false := by simp
    rw [hxx, Bool.false_or] at hr
    obtain rfl : k = 0 := by simp at hr; omega
    have haz : (a != z) = true := by simpa using hr
    have hq : ¬ a = z := by simpa using haz
    go_enter Try.func81, Try.ntmps81
    go_wp2_with fail
    go_quiet (fail)
    go_wp2
    go_ret
    exact ⟨rfl, grownBy_below (grownBy_drewN _ _ _)⟩
  · have hxx : (x != y) = true := by simpa using hxy
    go_enter Try.func81, Try.ntmps81
    go_wp2_with fail
    go_quiet (fail)
    go_wp2
    go_ret
    exact ⟨rfl, grownBy_below (grownBy_drewN _ _ _)⟩

set_option maxHeartbeats 2000000 in
theorem differs_put (h : Pg w Q r p S (some t)) (hd : DkA w P r A) (k : Nat) (hk : k < S.next.length) (hN : S.next.length ≤ 100000) (hw : t.was.next.length = S.next.length) (hl : AllLong (some t)) (hr : rowDiff S t.was k = false) :
    Calls Try.prog 81 #[.pointer (some ⟨p, 0, none⟩), .int .i64 k] w fun e w' => e = .returned (.bool (putDiff A t k)) ∧ Below w.heap.size w w' := by
  have hz := pg_zero
  obtain ⟨Z, hZ⟩ : ∃ Z, Z = (vbs (zeros 504)).toArray := ⟨_, rfl⟩
  rw [← hZ] at hz
  have HZ := Lib.hid hZ
  obtain ⟨D, hD⟩ : ∃ D, D = putDiff A t k := ⟨_, rfl⟩
  rw [← hD]
  have HDD := Lib.hid hD
  clear hD
  obtain ⟨gn, cn, gw, cw, b, c0, c1, c2, c3, c4, c5, x1, y1, hm, h1, h2, h3, hpl⟩ := diff_cells h k hk hw
  unfold maxLen at h2 h3
  unfold rowDiff at hr
  obtain ⟨x, hx⟩ : ∃ x, x = S.next.getD k 0 := ⟨_, rfl⟩
  obtain ⟨y, hy⟩ : ∃ y, y = t.was.next.getD k 0 := ⟨_, rfl⟩
  obtain ⟨n, hn⟩ : ∃ n, n = S.next.length := ⟨_, rfl⟩
  obtain ⟨a, ha⟩ : ∃ a, a = S.root := ⟨_, rfl⟩
  obtain ⟨z, hz⟩ : ∃ z, z = t.was.root := ⟨_, rfl⟩
  rw [← hx] at x1 hr
  rw [← hy] at y1 hr
  rw [← ha] at c1 hr
  rw [← hz] at c3 hr
  rw [← hn] at c2 c4 hk h1 hN
  have hkn : (k : Int) < n := by omega
  have HM := Lib.hid hm
  have HD := Lib.hid hd
  have HL := Lib.hid hl
  have HPL := Lib.hid hpl
  have HI : Hid ((Lit.int .i64 (k : Int)).wf = true) := Lib.hid (WalkArith.wf_i64 (by omega))
  have C0 := Lib.hid c0
  have C5 := Lib.hid c5
  clear h hw hm hx hy hn ha hz hpl hd hl hZ
  rw [Bool.or_eq_false_iff] at hr
  obtain rfl : x = y := by simpa using hr.1
  have hxx : (x != x) = false := by simp
  replace hr := hr.2
  by_cases hk0 : k = 0
  · obtain rfl : a = z := by simpa [hk0] using hr
    have haz : (a != a) = false := by simp
    have hk0' : ((k : Int) == 0) = true := by simp [hk0]
    clear hr hk0
    go_enter Try.func81, Try.ntmps81
    go_wp2_with fail
    go_quiet (fail)
    have hB : Below w.heap.size w (w.drewN nq) := grownBy_below (grownBy_drewN _ _ _)
    have c0' := (World.cell?_of_block (a := ⟨p, 0, none⟩) (hB.block p HPL.out)).trans C0.out
    have c5' := (World.cell?_of_block (a := ⟨p, 5, none⟩) (hB.block p HPL.out)).trans C5.out
    have hlk := (HM.out.moved (Moved.of_below hB (fun _ => False)) (fun h => h)).look HI.out
    have hd := HD.out.below hB
    generalize w.drewN nq = w1 at *
    have hal : Below w1.heap.size w1 (w1.alloc (.cells Z 103)) := (Below.refl _ w1).alloc (Nat.le_refl _) _
    have hb0 : Blk (w1.alloc (.cells Z 103)) w1.heap.size (vbs (zeros 504)).toArray 103 := by
      rw [HZ.out]; exact Blk.new w1 _ _
    have HB := Lib.hid hB
    have HA := Lib.hid hal
    have H0 := Lib.hid hb0
    have C05 := Lib.hid c0'
    have HPL1 : Hid (p < w1.heap.size) := Lib.hid (Nat.lt_of_lt_of_le HPL.out hB.size)
    have HD1 := Lib.hid hd
    clear hB hal hb0 c0' hd c0 c5 c1 c2 c3 c4 x1 y1 h1 h2 h3
    cases hf : t.f k with
    | none =>
      rw [hf] at hlk
      simp only [Option.getD_none, Option.isSome_none] at hlk
      have hpd : putDiff A t k = false := by unfold putDiff; rw [hf]
      obtain rfl : D = false := HDD.out.trans hpd
      have hzl := zeros_length 504
      clear hf hpd
      go_wp2_with (first | (with_reducible refine wpList_pstore rfl _ _ rfl w1.heap.size (zeros 504) (zeros 504) rfl rfl 103 H0.out (zeros_length _) hzl ?_; intro w3 hb3 hg3) | fail)
      go_ret
      have h2 := HB.out.trans (HA.out.mono HB.out.size)
      exact ⟨rfl, h2.grown hg3 h2.size (fun q hq => by have := Option.some.inj hq; have := HB.out.size; omega)⟩
    | some l =>
      rw [hf] at hlk
      simp only [Option.getD_some, Option.isSome_some] at hlk
      have hll : l.length = 504 := HL.out _ _ hf
      have hpd : putDiff A t k = (A.fault (401 + k) != 0 || !(l == storedOf A k)) := by unfold putDiff; rw [hf]
      have hDv := HDD.out.trans hpd
      obtain ⟨F, hF⟩ : ∃ F, F = A.fault (401 + k) := ⟨_, rfl⟩
      obtain ⟨m, hM⟩ : ∃ m, m = storedOf A k := ⟨_, rfl⟩
      have hml : m.length = 504 := by rw [hM]; exact storedOf_length A k
      rw [← hF, ← hM] at hDv
      have HDV := Lib.hid hDv
      have HF := Lib.hid hF
      have HMM := Lib.hid hM
      have hneq := fun w => neq_pg w l m hll hml
      have hgrd := fun w x y => pg_guard w x y l m
      clear hf hpd hF hM hDv
      go_wp2_with (first | (with_reducible refine wpList_pstore rfl _ _ rfl w1.heap.size l (zeros 504) rfl rfl 103 H0.out (zeros_length _) hll ?_; intro w3 hb3 hg3; have c03 := (World.cell?_of_block (a := ⟨p, 0, none⟩) ((HA.out.grown hg3 (Nat.le_trans (Nat.le_refl _) HA.out.size) (fun q hq => by have := Option.some.inj hq; omega)).block p HPL1.out)).trans C05.out) | fail)
      have h3 := Lib.hid (HA.out.grown hg3 HA.out.size (fun q hq => by have := Option.some.inj hq; omega))
      have hst := stored_any (HD1.out.below h3.out) k (by omega)
      rw [← HF.out, ← HMM.out] at hst
      have H3 := Lib.hid hb3
      clear hb3 hlk
      refine hst.mono ?_
      rintro e w4 ⟨rfl, hb⟩
      have HB4 := Lib.hid hb
      have hal5 : Below w4.heap.size w4 (w4.alloc (.cells Z 103)) := (Below.refl _ w4).alloc (Nat.le_refl _) _
      have hb5 : Blk (w4.alloc (.cells Z 103)) w4.heap.size (vbs (zeros 504)).toArray 103 := by
        rw [HZ.out]; exact Blk.new w4 _ _
      have H5 := Lib.hid hb5
      have HA5 := Lib.hid hal5
      have hb45 := (H3.out.moved (Moved.of_below HB4.out (fun _ => False)) (fun h => h)).moved (Moved.of_below HA5.out (fun _ => False)) (fun h => h)
      have hlt : w1.heap.size < w4.heap.size := Nat.lt_of_lt_of_le H3.out.lt HB4.out.size
      have H45 := Lib.hid hb45
      have HLT := Lib.hid hlt
      clear hb hst hal5 hb5 hb45 hlt
      by_cases hF0 : F = 0
      · subst hF0
        have hDv := HDV.out
        simp only [bne_self_eq_false, Bool.false_or] at hDv
        rw [← hDv] at hneq
        clear hDv
        go_wp2_with (first | (with_reducible refine wpList_pstore rfl _ _ rfl w4.heap.size m (zeros 504) rfl rfl 103 H5.out (zeros_length _) hml ?_; intro w5 hb6 hg6; have hb7 := grown_keep hg6 H45.out (fun e => by have := Option.some.inj e; have := HLT.out; omega)) | fail)
        refine wp_pload _ rfl w1.heap.size rfl 103 l hb7 hll ?_
        go_wp2_with fail
        refine wp_pload _ rfl w4.heap.size rfl 103 m hb6 hml ?_
        go_wp2_with fail
        go_ret
        have q1 := HB.out.trans (h3.out.mono HB.out.size)
        have q2 := q1.trans (HB4.out.mono q1.size)
        have q3 := q2.trans (HA5.out.mono q2.size)
        exact ⟨rfl, q3.grown hg6 q3.size (fun q hq => by have := Option.some.inj hq; have := q2.size; omega)⟩
      · have hFb : (F != 0) = true := by simpa using hF0
        obtain rfl : D = true := by rw [HDV.out, hFb, Bool.true_or]
        go_wp2_with (first | (with_reducible refine wpList_pstore rfl _ _ rfl w4.heap.size m (zeros 504) rfl rfl 103 H5.out (zeros_length _) hml ?_; intro w5 hb6 hg6) | fail)
        go_ret
        have q1 := HB.out.trans (h3.out.mono HB.out.size)
        have q2 := q1.trans (HB4.out.mono q1.size)
        have q3 := q2.trans (HA5.out.mono q2.size)
        exact ⟨rfl, q3.grown hg6 q3.size (fun q hq => by have := Option.some.inj hq; have := q2.size; omega)⟩
  · have hk0' : ((k : Int) == 0) = false := by simp; omega
    clear hr
    go_enter Try.func81, Try.ntmps81
    go_wp2_with fail
    go_quiet (fail)
    have hB : Below w.heap.size w (w.drewN nq) := grownBy_below (grownBy_drewN _ _ _)
    have c0' := (World.cell?_of_block (a := ⟨p, 0, none⟩) (hB.block p HPL.out)).trans C0.out
    have c5' := (World.cell?_of_block (a := ⟨p, 5, none⟩) (hB.block p HPL.out)).trans C5.out
    have hlk := (HM.out.moved (Moved.of_below hB (fun _ => False)) (fun h => h)).look HI.out
    have hd := HD.out.below hB
    generalize w.drewN nq = w1 at *
    have hal : Below w1.heap.size w1 (w1.alloc (.cells Z 103)) := (Below.refl _ w1).alloc (Nat.le_refl _) _
    have hb0 : Blk (w1.alloc (.cells Z 103)) w1.heap.size (vbs (zeros 504)).toArray 103 := by
      rw [HZ.out]; exact Blk.new w1 _ _
    have HB := Lib.hid hB
    have HA := Lib.hid hal
    have H0 := Lib.hid hb0
    have C05 := Lib.hid c0'
    have HPL1 : Hid (p < w1.heap.size) := Lib.hid (Nat.lt_of_lt_of_le HPL.out hB.size)
    have HD1 := Lib.hid hd
    clear hB hal hb0 c0' hd c0 c5 c1 c2 c3 c4 x1 y1 h1 h2 h3
    cases hf : t.f k with
    | none =>
      rw [hf] at hlk
      simp only [Option.getD_none, Option.isSome_none] at hlk
      have hpd : putDiff A t k = false := by unfold putDiff; rw [hf]
      obtain rfl : D = false := HDD.out.trans hpd
      have hzl := zeros_length 504
      clear hf hpd
      go_wp2_with (first | (with_reducible refine wpList_pstore rfl _ _ rfl w1.heap.size (zeros 504) (zeros 504) rfl rfl 103 H0.out (zeros_length _) hzl ?_; intro w3 hb3 hg3) | fail)
      go_ret
      have h2 := HB.out.trans (HA.out.mono HB.out.size)
      exact ⟨rfl, h2.grown hg3 h2.size (fun q hq => by have := Option.some.inj hq; have := HB.out.size; omega)⟩
    | some l =>
      rw [hf] at hlk
      simp only [Option.getD_some, Option.isSome_some] at hlk
      have hll : l.length = 504 := HL.out _ _ hf
      have hpd : putDiff A t k = (A.fault (401 + k) != 0 || !(l == storedOf A k)) := by unfold putDiff; rw [hf]
      have hDv := HDD.out.trans hpd
      obtain ⟨F, hF⟩ : ∃ F, F = A.fault (401 + k) := ⟨_, rfl⟩
      obtain ⟨m, hM⟩ : ∃ m, m = storedOf A k := ⟨_, rfl⟩
      have hml : m.length = 504 := by rw [hM]; exact storedOf_length A k
      rw [← hF, ← hM] at hDv
      have HDV := Lib.hid hDv
      have HF := Lib.hid hF
      have HMM := Lib.hid hM
      have hneq := fun w => neq_pg w l m hll hml
      have hgrd := fun w x y => pg_guard w x y l m
      clear hf hpd hF hM hDv
      go_wp2_with (first | (with_reducible refine wpList_pstore rfl _ _ rfl w1.heap.size l (zeros 504) rfl rfl 103 H0.out (zeros_length _) hll ?_; intro w3 hb3 hg3; have c03 := (World.cell?_of_block (a := ⟨p, 0, none⟩) ((HA.out.grown hg3 (Nat.le_trans (Nat.le_refl _) HA.out.size) (fun q hq => by have := Option.some.inj hq; omega)).block p HPL1.out)).trans C05.out) | fail)
      have h3 := Lib.hid (HA.out.grown hg3 HA.out.size (fun q hq => by have := Option.some.inj hq; omega))
      have hst := stored_any (HD1.out.below h3.out) k (by omega)
      rw [← HF.out, ← HMM.out] at hst
      have H3 := Lib.hid hb3
      clear hb3 hlk
      refine hst.mono ?_
      rintro e w4 ⟨rfl, hb⟩
      have HB4 := Lib.hid hb
      have hal5 : Below w4.heap.size w4 (w4.alloc (.cells Z 103)) := (Below.refl _ w4).alloc (Nat.le_refl _) _
      have hb5 : Blk (w4.alloc (.cells Z 103)) w4.heap.size (vbs (zeros 504)).toArray 103 := by
        rw [HZ.out]; exact Blk.new w4 _ _
      have H5 := Lib.hid hb5
      have HA5 := Lib.hid hal5
      have hb45 := (H3.out.moved (Moved.of_below HB4.out (fun _ => False)) (fun h => h)).moved (Moved.of_below HA5.out (fun _ => False)) (fun h => h)
      have hlt : w1.heap.size < w4.heap.size := Nat.lt_of_lt_of_le H3.out.lt HB4.out.size
      have H45 := Lib.hid hb45
      have HLT := Lib.hid hlt
      clear hb hst hal5 hb5 hb45 hlt
      by_cases hF0 : F = 0
      · subst hF0
        have hDv := HDV.out
        simp only [bne_self_eq_false, Bool.false_or] at hDv
        rw [← hDv] at hneq
        clear hDv
        go_wp2_with (first | (with_reducible refine wpList_pstore rfl _ _ rfl w4.heap.size m (zeros 504) rfl rfl 103 H5.out (zeros_length _) hml ?_; intro w5 hb6 hg6; have hb7 := grown_keep hg6 H45.out (fun e => by have := Option.some.inj e; have := HLT.out; omega)) | fail)
        refine wp_pload _ rfl w1.heap.size rfl 103 l hb7 hll ?_
        go_wp2_with fail
        refine wp_pload _ rfl w4.heap.size rfl 103 m hb6 hml ?_
        go_wp2_with fail
        go_ret
        have q1 := HB.out.trans (h3.out.mono HB.out.size)
        have q2 := q1.trans (HB4.out.mono q1.size)
        have q3 := q2.trans (HA5.out.mono q2.size)
        exact ⟨rfl, q3.grown hg6 q3.size (fun q hq => by have := Option.some.inj hq; have := q2.size; omega)⟩
      · have hFb : (F != 0) = true := by simpa using hF0
        obtain rfl : D = true := by rw [HDV.out, hFb, Bool.true_or]
        go_wp2_with (first | (with_reducible refine wpList_pstore rfl _ _ rfl w4.heap.size m (zeros 504) rfl rfl 103 H5.out (zeros_length _) hml ?_; intro w5 hb6 hg6) | fail)
        go_ret
        have q1 := HB.out.trans (h3.out.mono HB.out.size)
        have q2 := q1.trans (HB4.out.mono q1.size)
        have q3 := q2.trans (HA5.out.mono q2.size)
        exact ⟨rfl, q3.grown hg6 q3.size (fun q hq => by have := Option.some.inj hq; have := q2.size; omega)⟩
end
end Go.Proofs.Ytcnfnpccbnnplaa
