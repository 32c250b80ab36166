/- DecAdds: the walk. -/
import Derived.Test.YtcaejheaojnmmaaDoorRi
import Derived.Deep.DeepCutAuto
namespace Go.Proofs.YtcaejheaojnmmaaDoor
open Go.RowKit Go.Shelf Flo
set_option maxRecDepth 100000
set_option linter.unusedVariables false
set_option linter.unusedSimpArgs false

/-- Add, said by six digits. -/
theorem add_six (w : World) (m s m2 s2 : Int) (h : GoodD m s) (h2 : GoodD m2 s2) (hP : PowAt w) :
    Calls Tryd.prog 16 #[.agg #[.int .i64 m, .int .i64 s], .agg #[.int .i64 m2, .int .i64 s2]] w fun e w' =>
      e = .returned (decP (nrm (sixI m s.toNat + sixI m2 s2.toNat) 6)) ∧ Below w.heap.size w w' := by
  obtain ⟨k, rfl⟩ : ∃ k : Nat, s = k := ⟨s.toNat, by have := h.2.2.1; omega⟩
  obtain ⟨k2, rfl⟩ : ∃ k : Nat, s2 = k := ⟨s2.toNat, by have := h2.2.2.1; omega⟩
  have := add_any w m k m2 k2 h h2 hP
  simp only [Int.toNat_natCast] at this ⊢
  rw [← add_same h h2]
  exact this
/-- Cmp, said by six digits. -/
theorem cmp_six (w : World) (m s m2 s2 : Int) (h : GoodD m s) (h2 : GoodD m2 s2) (hP : PowAt w) :
    Calls Tryd.prog 20 #[.agg #[.int .i64 m, .int .i64 s], .agg #[.int .i64 m2, .int .i64 s2]] w fun e w' =>
      e = .returned (.int .i64 (cmpI (sixI m s.toNat) (sixI m2 s2.toNat))) ∧ Below w.heap.size w w' := by
  obtain ⟨k, rfl⟩ : ∃ k : Nat, s = k := ⟨s.toNat, by have := h.2.2.1; omega⟩
  obtain ⟨k2, rfl⟩ : ∃ k : Nat, s2 = k := ⟨s2.toNat, by have := h2.2.2.1; omega⟩
  have := cmp_any w m k m2 k2 h h2 hP
  simp only [Int.toNat_natCast] at this ⊢
  rw [← cmp_same m m2 k k2 (by have := h.2.2.2.1; omega) (by have := h2.2.2.2.1; omega)]
  exact this

/-- a number that fits into 64 bits. -/
def In64 (x : Int) : Prop := -9223372036854775808 ≤ x ∧ x ≤ 9223372036854775807
theorem in64_wf {a : Int} (h : (Lit.int .i64 a).wf = true) : In64 a := by
  have h' : IntKind.i64.min ≤ a ∧ a ≤ IntKind.i64.max := by simpa [Lit.wf] using h
  have e1 : IntKind.i64.min = -9223372036854775808 := by decide
  have e2 : IntKind.i64.max = 9223372036854775807 := by decide
  rw [e1, e2] at h'
  exact h'
theorem good_in (m s : Int) (w : World) (hm : In64 m) (hs : In64 s) : Calls Tryd.prog 13 #[.int .i64 m, .int .i64 s] w fun e w' => e = .returned (.agg #[.int .i64 (goodP m s).1, .int .i64 ((goodP m s).2 : Int)]) ∧ Below w.heap.size w w' := good_any m s w hm.1 hm.2 hs.1 hs.2

/-- some blocks of decimals. -/
def Blks (w : World) (l : List (Nat × Int × Int)) : Prop := ∀ x ∈ l, DecB w x.1 x.2.1 x.2.2
theorem Blks.below {w w' : World} {l : List (Nat × Int × Int)} (h : Blks w l) (hb : Below w.heap.size w w') : Blks w' l := fun x hx => (h x hx).below hb
theorem Blks.more {w : World} {l : List (Nat × Int × Int)} {b : Nat} {m s : Int} (h : Blks w l) (hb : DecB w b m s) : Blks w ((b, m, s) :: l) := fun x hx => by
  rcases List.mem_cons.1 hx with rfl | hx
  · exact hb
  · exact h x hx
theorem Blks.new {w : World} {l : List (Nat × Int × Int)} {m s : Int} {t : TypeId} (h : Blks w l) : Blks (w.alloc (.cells #[.int .i64 m, .int .i64 s] t)) ((w.heap.size, m, s) :: l) :=
  (h.below ((Below.refl _ _).alloc (Nat.le_refl _) _)).more (DecB.new w m s t)
theorem Blks.head {w : World} {l : List (Nat × Int × Int)} {b : Nat} {m s : Int} (h : Blks w ((b, m, s) :: l)) : DecB w b m s := h _ (List.mem_cons_self ..)
theorem Blks.tail {w : World} {l : List (Nat × Int × Int)} {x : Nat × Int × Int} (h : Blks w (x :: l)) : Blks w l := fun y hy => h y (List.mem_cons_of_mem _ hy)

theorem nrm_last : ∀ (k : Nat) (n : Int), (nrm n k).2 = 0 ∨ ¬ (nrm n k).1 % 10 = 0
  | 0, n => .inl rfl
  | k + 1, n => by
    by_cases h : n % 10 = 0
    · rw [nrm_go (k + 1) (by omega) h]; exact nrm_last k (n / 10)
    · rw [nrm_stay _ _ h]; exact .inr h
/-- what comes of a sum is a decimal of that number. -/
theorem dec_of {Z vm vs : Int} (h : decP (nrm Z 6) = .tuple #[.agg #[.int .i64 vm, .int .i64 vs], .bool true]) : GoodD vm vs ∧ sixI vm vs.toNat = Z := by
  unfold decP at h
  split at h
  · rename_i hf
    simp at h
    obtain ⟨h1, h2⟩ := h
    simp [fitsL] at hf
    have hl := nrm_last 6 Z
    have hs := six_nrm 6 Z (by decide)
    rw [h1] at hl hf hs
    have h3 : (nrm Z 6).2 = vs.toNat := by omega
    rw [h3] at hl hf hs
    refine ⟨⟨by omega, by omega, by omega, by omega, by omega⟩, ?_⟩
    rw [hs]; unfold sixI; simp
  · simp at h
theorem dec_self {m s : Int} (h : GoodD m s) : decP (m, s.toNat) = .tuple #[.agg #[.int .i64 m, .int .i64 s], .bool true] := by
  have h0 := h.2.2.1
  have h1 := h.2.2.2.1
  have h2 := h.abs
  unfold decP
  rw [if_pos (by simp [fitsL]; omega)]
  simp; omega
theorem nrm_back {Z m s : Int} (B : Int) (hZ : Z = sixI m s.toNat + B) (h : GoodD m s) : nrm (Z + -B) 6 = (m, s.toNat) := by
  rw [hZ, show sixI m s.toNat + B + -B = sixI m s.toNat by omega]
  have h' : GoodD m (s.toNat : Int) := by rw [show ((s.toNat : Nat) : Int) = s by have := h.2.2.1; omega]; exact h
  exact nrm_six h'

theorem cmp_shift (A B : Int) : cmpI (A + B) A = cmpI B 0 := by
  unfold cmpI
  (repeat' split) <;> first | rfl | omega
theorem six_nil : sixI 0 (0 : Int).toNat = 0 := rfl
theorem good_nil : GoodD 0 0 := ⟨by omega, by omega, by omega, by omega, by omega⟩

set_option maxHeartbeats 4000000 in
theorem adds13_walk (a p b q : Int) (w : World) (ha : In64 a) (hp : In64 p) (hb : In64 b) (hq : In64 q) (hX : PowAt w) :
    Calls Tryd.prog 5 #[.int .i64 a, .int .i64 p, .int .i64 b, .int .i64 q] w fun e w' => e = .returned (.bool true) ∧ Below w.heap.size w w' := by
  have HK := Lib.hid (known13_any w)
  have HG := Lib.hid (fun w => good_in a p w ha hp)
  have HH := Lib.hid (fun w => good_in b q w hb hq)
  obtain ⟨m, hm⟩ : ∃ m, m = (goodP a p).1 := ⟨_, rfl⟩
  obtain ⟨s, hs⟩ : ∃ s : Int, s = ((goodP a p).2 : Int) := ⟨_, rfl⟩
  obtain ⟨m2, hm2⟩ : ∃ m, m = (goodP b q).1 := ⟨_, rfl⟩
  obtain ⟨s2, hs2⟩ : ∃ s : Int, s = ((goodP b q).2 : Int) := ⟨_, rfl⟩
  have h1 : GoodD m s := by rw [hm, hs]; exact good_good a p
  have h2 : GoodD m2 s2 := by rw [hm2, hs2]; exact good_good b q
  rw [← hm, ← hs] at HG
  rw [← hm2, ← hs2] at HH
  clear hm hs hm2 hs2 ha hp hb hq
  obtain ⟨Z, hZ⟩ : ∃ Z, Z = sixI m s.toNat + sixI m2 s2.toNat := ⟨_, rfl⟩
  have HA := Lib.hid (fun w hP => add_six w m s m2 s2 h1 h2 hP)
  have HB := Lib.hid (fun w hP => add_six w m2 s2 m s h2 h1 hP)
  have HR := Lib.hid (fun w => radd_any w m s m2 s2 h1 h2)
  rw [Int.add_comm (sixI m2 s2.toNat)] at HB
  rw [← hZ] at HA HB HR
  obtain ⟨vm, vs, vb, hv⟩ := decP_cases (nrm Z 6)
  have HVT := Lib.hid (And.intro hZ hv)
  rw [hv] at HA HB HR
  have HN := Lib.hid (fun w => neg_any w m s h1)
  have HM := Lib.hid (fun w => rneg_any w m s h1)
  have HN2 := Lib.hid (fun w => neg_any w m2 s2 h2)
  have HGD := Lib.hid (And.intro h1 h2)
  have HX := Lib.hid hX
  have HE1 := fun w => equal_dec vm vs vm vs w
  have HE2 := fun w => equal_dec (-m) s (-m) s w
  clear hZ hv h1 h2 hX
  go_enter Tryd.func5, Tryd.ntmps5
  go_wp2_with fail
  refine HK.out.mono ?_
  rintro e w1 ⟨rfl, hb1⟩
  have HB1 := Lib.hid hb1
  clear hb1
  go_wp2_with fail
  (with_reducible refine (HG.out _).mono ?_)
  rintro e w2 ⟨rfl, hb2⟩
  have HB2 := Lib.hid (HB1.out.trans (hb2.mono HB1.out.size))
  clear hb2
  go_wp2_with fail
  (with_reducible refine (HH.out _).mono ?_)
  rintro e w3 ⟨rfl, hb3⟩
  have HB3 := Lib.hid (HB2.out.trans (hb3.mono HB2.out.size))
  clear hb3
  have HC := Lib.hid (boxes2 w3 m s m2 s2 27 27)
  go_wp2_with fail
  have HC4 := Lib.hid (show Blks (World.alloc (World.alloc w3 (.cells #[.int .i64 m, .int .i64 s] 27)) (.cells #[.int .i64 m2, .int .i64 s2] 27)) [(w3.heap.size + 1, m2, s2), (w3.heap.size, m, s)] from (Blks.more (Blks.more (fun _ h => by cases h) HC.out.1) HC.out.2.1))
  have HB4 := Lib.hid (HB3.out.trans (HC.out.2.2.mono HB3.out.size))
  generalize World.alloc (World.alloc w3 _) _ = w4 at HC4 HB4 ⊢
  generalize w3.heap.size = ba at HC4 ⊢
  generalize ba + 1 = bb at HC4 ⊢
  (with_reducible refine (HA.out _ (HX.out.below HB4.out)).mono ?_)
  rintro e w5 ⟨rfl, hb5⟩
  have HC5 := Lib.hid (HC4.out.below hb5)
  have HB5 := Lib.hid (HB4.out.trans (hb5.mono HB4.out.size))
  clear hb5
  obtain ⟨b0, b1, b2, -, -⟩ := HC5.out.head
  obtain ⟨a0, a1, a2, -, -⟩ := HC5.out.tail.head
  have HC6 := Lib.hid (Blks.new (m := vm) (s := vs) (t := 27) HC5.out)
  have HB6 := Lib.hid (HB5.out.alloc HB5.out.size (.cells #[.int .i64 vm, .int .i64 vs] 27))
  go_wp2_with fail
  clear b0 b1 b2 a0 a1 a2
  generalize World.alloc w5 _ = w6 at HC6 HB6 ⊢
  generalize w5.heap.size = bx at HC6 ⊢
  (with_reducible refine (HR.out _).mono ?_)
  rintro e w7 ⟨rfl, hb7⟩
  have HC7 := Lib.hid (HC6.out.below hb7)
  have HB7 := Lib.hid (HB6.out.trans (hb7.mono HB6.out.size))
  clear hb7
  obtain ⟨x0, x1, x2, -, -⟩ := HC7.out.head
  obtain ⟨b0, b1, b2, -, -⟩ := HC7.out.tail.head
  obtain ⟨a0, a1, a2, -, -⟩ := HC7.out.tail.tail.head
  have HC8 := Lib.hid (Blks.new (m := vm) (s := vs) (t := 27) HC7.out)
  have HB8 := Lib.hid (HB7.out.alloc HB7.out.size (.cells #[.int .i64 vm, .int .i64 vs] 27))
  go_wp2_with fail
  clear b0 b1 b2 a0 a1 a2 x0 x1 x2
  generalize World.alloc w7 _ = w8 at HC8 HB8 ⊢
  generalize w7.heap.size = bY at HC8 ⊢
  (with_reducible refine (HB.out _ (HX.out.below HB8.out)).mono ?_)
  rintro e w9 ⟨rfl, hb9⟩
  have HC9 := Lib.hid (HC8.out.below hb9)
  have HB9 := Lib.hid (HB8.out.trans (hb9.mono HB8.out.size))
  clear hb9
  have HC10 := Lib.hid (Blks.new (m := vm) (s := vs) (t := 27) HC9.out)
  have HB10 := Lib.hid (HB9.out.alloc HB9.out.size (.cells #[.int .i64 vm, .int .i64 vs] 27))
  go_upto_region 7 with fail
  generalize World.alloc w9 _ = w10 at HC10 HB10 ⊢
  generalize w9.heap.size = bz at HC10 ⊢
  refine wp_region_any (by kernel_rfl) ?_
  change wpAny _ _ _ _ _ _ _ (World.drew _)
  refine wpAny_of_held (S := fun v => Below w10.heap.size w10 v) _ _ _ _ ?_
  have hS : (fun v => Below w10.heap.size w10 v) _ := (Below.refl _ w10).drew
  refine wpAnyH_take (i := 0) (oi := ⟨some 45, _, _, _, _, _⟩) (v := ?_) rfl (by kernel_rfl) (by kernel_rfl) (by kernel_rfl) (fun _ _ _ h => h) (Or.inl ⟨by simp only [Region.wanted], ?_⟩) hS ?_
  rotate_left
  · intro wz hSw; obtain ⟨-, f0, f1, -, -⟩ := HC10.out.tail.tail.head.below hSw
    clear hSw
    go_simp
    first | done | with_reducible rfl
  try simp only [Act.put, List.setIfInBounds_toArray, List.set_cons_zero, List.set_cons_succ]
  refine wpAnyH_take (i := 1) (oi := ⟨some 46, _, _, _, _, _⟩) (v := ?_) rfl (by kernel_rfl) (by kernel_rfl) (by kernel_rfl) (fun _ _ _ h => h) (Or.inl ⟨by simp only [Region.wanted], ?_⟩) hS ?_
  rotate_left
  · intro wz hSw; obtain ⟨-, f0, f1, -, -⟩ := HC10.out.tail.head.below hSw
    clear hSw
    go_simp
    first | done | with_reducible rfl
  try simp only [Act.put, List.setIfInBounds_toArray, List.set_cons_zero, List.set_cons_succ]
  refine wpAnyH_take (i := 2) (oi := ⟨some 47, _, _, _, _, _⟩) (v := ?_) rfl (by kernel_rfl) (by kernel_rfl) (by kernel_rfl) (fun _ _ _ h => h) (Or.inl ⟨by simp only [Region.wanted], ?_⟩) hS ?_
  rotate_left
  · intro wz hSw
    clear hSw
    go_simp
    first | done | with_reducible rfl
  try simp only [Act.put, List.setIfInBounds_toArray, List.set_cons_zero, List.set_cons_succ]
  refine wpAnyH_take (i := 3) (oi := ⟨some 48, _, _, _, _, _⟩) (v := ?_) rfl (by kernel_rfl) (by kernel_rfl) (by kernel_rfl) (fun _ _ _ h => h) (Or.inl ⟨by simp only [Region.wanted], ?_⟩) hS ?_
  rotate_left
  · intro wz hSw
    clear hSw
    go_simp
    first | done | with_reducible rfl
  try simp only [Act.put, List.setIfInBounds_toArray, List.set_cons_zero, List.set_cons_succ]
  refine wpAnyH_take (i := 4) (oi := ⟨some 49, _, _, _, _, _⟩) (v := ?_) rfl (by kernel_rfl) (by kernel_rfl) (by kernel_rfl) (fun _ _ _ h => h) (Or.inl ⟨by first | rfl | (simp [Region.wanted, yielded]; done), ?_⟩) hS ?_
  rotate_left
  · intro wz hSw
    clear hSw
    go_simp
    first | done | with_reducible rfl
  try simp only [Act.put, List.setIfInBounds_toArray, List.set_cons_zero, List.set_cons_succ]
  refine wpAnyH_take (i := 5) (oi := ⟨some 50, _, _, _, _, _⟩) (v := ?_) rfl (by kernel_rfl) (by kernel_rfl) (by kernel_rfl) (fun _ _ _ h => h) (Or.inl ⟨by first | rfl | (simp [Region.wanted, yielded]; done), ?_⟩) hS ?_
  rotate_left
  · intro wz hSw
    clear hSw
    go_simp
    first | done | with_reducible rfl
  try simp only [Act.put, List.setIfInBounds_toArray, List.set_cons_zero, List.set_cons_succ]
  refine wpAnyH_take (i := 6) (oi := ⟨some 51, _, _, _, _, _⟩) (v := ?_) rfl (by kernel_rfl) (by kernel_rfl) (by kernel_rfl) (fun _ _ _ h => h) (Or.inl ⟨by first | rfl | (simp [Region.wanted, yielded]; done), ?_⟩) hS ?_
  rotate_left
  · intro wz hSw
    clear hSw
    go_simp
    first | done | with_reducible rfl
  try simp only [Act.put, List.setIfInBounds_toArray, List.set_cons_zero, List.set_cons_succ]
  refine wpAnyH_take (i := 7) (oi := ⟨some 52, _, _, _, _, _⟩) (v := ?_) rfl (by kernel_rfl) (by kernel_rfl) (by kernel_rfl) (fun _ _ _ h => h) (Or.inl ⟨by simp only [Region.wanted], ?_⟩) hS ?_
  rotate_left
  · intro wz hSw
    clear hSw
    go_simp
    first | done | with_reducible rfl
  try simp only [Act.put, List.setIfInBounds_toArray, List.set_cons_zero, List.set_cons_succ]
  refine wpAnyH_take (i := 8) (oi := ⟨some 53, _, _, _, _, _⟩) (v := ?_) rfl (by kernel_rfl) (by kernel_rfl) (by kernel_rfl) (fun _ _ _ h => h) (Or.inl ⟨by simp only [Region.wanted], ?_⟩) hS ?_
  rotate_left
  · intro wz hSw
    clear hSw
    go_simp
    first | done | with_reducible rfl
  try simp only [Act.put, List.setIfInBounds_toArray, List.set_cons_zero, List.set_cons_succ]
  refine wpAnyH_take (i := 9) (oi := ⟨some 54, _, _, _, _, _⟩) (v := ?_) rfl (by kernel_rfl) (by kernel_rfl) (by kernel_rfl) (fun _ _ _ h => h) (Or.inl ⟨by first | rfl | (simp [Region.wanted, yielded]; done), ?_⟩) hS ?_
  rotate_left
  · intro wz hSw; obtain ⟨-, f0, f1, -, -⟩ := HC10.out.head.below hSw
    clear hSw
    go_simp
    first | done | with_reducible rfl
  try simp only [Act.put, List.setIfInBounds_toArray, List.set_cons_zero, List.set_cons_succ]
  refine wpAnyH_take (i := 10) (oi := ⟨some 55, _, _, _, _, _⟩) (v := ?_) rfl (by kernel_rfl) (by kernel_rfl) (by kernel_rfl) (fun _ _ _ h => h) (Or.inl ⟨by first | rfl | (simp [Region.wanted, yielded]; done), ?_⟩) hS ?_
  rotate_left
  · intro wz hSw; obtain ⟨-, f0, f1, -, -⟩ := HC10.out.tail.tail.head.below hSw
    clear hSw
    go_simp
    first | done | with_reducible rfl
  try simp only [Act.put, List.setIfInBounds_toArray, List.set_cons_zero, List.set_cons_succ]
  refine wpAnyH_take (i := 11) (oi := ⟨some 56, _, _, _, _, _⟩) (v := ?_) rfl (by kernel_rfl) (by kernel_rfl) (by kernel_rfl) (fun _ _ _ h => h) (Or.inl ⟨by first | rfl | (simp [Region.wanted, yielded]; done), ?_⟩) hS ?_
  rotate_left
  · intro wz hSw
    clear hSw
    go_simp
    first | done | with_reducible rfl
  try simp only [Act.put, List.setIfInBounds_toArray, List.set_cons_zero, List.set_cons_succ]
  refine wpAnyH_take (i := 12) (oi := ⟨some 57, _, _, _, _, _⟩) (v := ?_) rfl (by kernel_rfl) (by kernel_rfl) (by kernel_rfl) (fun _ _ _ h => h) (Or.inl ⟨by simp only [Region.wanted], ?_⟩) hS ?_
  rotate_left
  · intro wz hSw
    clear hSw
    go_simp
    first | done | with_reducible rfl
  try simp only [Act.put, List.setIfInBounds_toArray, List.set_cons_zero, List.set_cons_succ]
  refine wpAnyH_take (i := 13) (oi := ⟨some 58, _, _, _, _, _⟩) (v := ?_) rfl (by kernel_rfl) (by kernel_rfl) (by kernel_rfl) (fun _ _ _ h => h) (Or.inl ⟨by simp only [Region.wanted], ?_⟩) hS ?_
  rotate_left
  · intro wz hSw
    clear hSw
    go_simp
    first | done | with_reducible rfl
  try simp only [Act.put, List.setIfInBounds_toArray, List.set_cons_zero, List.set_cons_succ]
  refine wpAnyH_take (i := 14) (oi := ⟨some 59, _, _, _, _, _⟩) (v := ?_) rfl (by kernel_rfl) (by kernel_rfl) (by kernel_rfl) (fun _ _ _ h => h) (Or.inl ⟨by first | rfl | (simp [Region.wanted, yielded]; done), ?_⟩) hS ?_
  rotate_left
  · intro wz hSw
    clear hSw
    go_simp
    first | done | with_reducible rfl
  try simp only [Act.put, List.setIfInBounds_toArray, List.set_cons_zero, List.set_cons_succ]
  refine wpAnyH_take (i := 15) (oi := ⟨some 60, _, _, _, _, _⟩) (v := ?_) rfl (by kernel_rfl) (by kernel_rfl) (by kernel_rfl) (fun _ _ _ h => h) (Or.inl ⟨by first | rfl | (simp [Region.wanted, yielded]; done), ?_⟩) hS ?_
  rotate_left
  · intro wz hSw
    clear hSw
    go_simp
    first | done | with_reducible rfl
  try simp only [Act.put, List.setIfInBounds_toArray, List.set_cons_zero, List.set_cons_succ]
  refine wpAnyH_take (i := 16) (oi := ⟨some 61, _, _, _, _, _⟩) (v := ?_) rfl (by kernel_rfl) (by kernel_rfl) (by kernel_rfl) (fun _ _ _ h => h) (Or.inl ⟨by first | rfl | (simp [Region.wanted, yielded]; done), ?_⟩) hS ?_
  rotate_left
  · intro wz hSw
    clear hSw
    go_simp
    first | done | with_reducible rfl
  try simp only [Act.put, List.setIfInBounds_toArray, List.set_cons_zero, List.set_cons_succ]
  refine wpAnyH_take (i := 17) (oi := ⟨some 62, _, _, _, _, _⟩) (v := ?_) rfl (by kernel_rfl) (by kernel_rfl) (by kernel_rfl) (fun _ _ _ h => h) (Or.inl ⟨by simp only [Region.wanted], ?_⟩) hS ?_
  rotate_left
  · intro wz hSw
    clear hSw
    go_simp
    first | done | with_reducible rfl
  try simp only [Act.put, List.setIfInBounds_toArray, List.set_cons_zero, List.set_cons_succ]
  refine wpAnyH_take (i := 18) (oi := ⟨some 63, _, _, _, _, _⟩) (v := ?_) rfl (by kernel_rfl) (by kernel_rfl) (by kernel_rfl) (fun _ _ _ h => h) (Or.inl ⟨by simp only [Region.wanted], ?_⟩) hS ?_
  rotate_left
  · intro wz hSw
    clear hSw
    go_simp
    first | done | with_reducible rfl
  try simp only [Act.put, List.setIfInBounds_toArray, List.set_cons_zero, List.set_cons_succ]
  refine wpAnyH_take (i := 19) (oi := ⟨some 64, _, _, _, _, _⟩) (v := ?_) rfl (by kernel_rfl) (by kernel_rfl) (by kernel_rfl) (fun _ _ _ h => h) (Or.inl ⟨by first | rfl | (simp [Region.wanted, yielded]; done), ?_⟩) hS ?_
  rotate_left
  · intro wz hSw; obtain ⟨-, f0, f1, -, -⟩ := HC10.out.tail.tail.tail.tail.head.below hSw
    clear hSw
    go_simp
    first | done | with_reducible rfl
  try simp only [Act.put, List.setIfInBounds_toArray, List.set_cons_zero, List.set_cons_succ]
  refine wpAnyH_take (i := 21) (oi := ⟨some 66, _, _, _, _, _⟩) (v := ?_) rfl (by kernel_rfl) (by kernel_rfl) (by kernel_rfl) (fun _ _ _ h => h) (Or.inl ⟨by first | rfl | (simp [Region.wanted, yielded]; done), ?_⟩) hS ?_
  rotate_left
  · intro wz hSw; obtain ⟨-, f0, f1, -, -⟩ := HC10.out.tail.tail.tail.tail.head.below hSw
    clear hSw
    go_simp
    first | done | with_reducible rfl
  try simp only [Act.put, List.setIfInBounds_toArray, List.set_cons_zero, List.set_cons_succ]
  refine wpAnyH_ready (rs := [20]) (by kernel_rfl) (by simp) ?_
  refine AllReadyH.cons (o := ⟨some 65, _, _, _, _, _⟩) rfl (fun K hK => ?_) AllReadyH.nil
  go_simp
  (with_reducible refine (HN.out _).mono ?_)
  rintro e wn ⟨rfl, hbn⟩
  have hS1 := hS.trans (hbn.mono hS.size)
  clear hbn
  go_wp2_with fail
  refine hK.out _ _ (hS1) (fun hS => ?_)
  clear hK K
  try simp only [Act.put, List.setIfInBounds_toArray, List.set_cons_zero, List.set_cons_succ]
  refine wpAnyH_ready (rs := [22]) (by kernel_rfl) (by simp) ?_
  refine AllReadyH.cons (o := ⟨some 67, _, _, _, _, _⟩) rfl (fun K hK => ?_) AllReadyH.nil
  go_simp
  (with_reducible refine (HM.out _).mono ?_)
  rintro e wm ⟨rfl, hbm⟩
  have hS2 := hS.trans (hbm.mono hS.size)
  clear hbm
  go_wp2_with fail
  refine hK.out _ _ (hS2) (fun hS => ?_)
  clear hK K
  try simp only [Act.put, List.setIfInBounds_toArray, List.set_cons_zero, List.set_cons_succ]
  refine wpAnyH_take (i := 23) (oi := ⟨some 68, _, _, _, _, _⟩) (v := ?_) rfl (by kernel_rfl) (by kernel_rfl) (by kernel_rfl) (fun _ _ _ h => h) (Or.inl ⟨by first | rfl | (simp [Region.wanted, yielded]; done), ?_⟩) hS ?_
  rotate_left
  · intro wz hSw
    clear hSw
    go_simp
    first | done | with_reducible rfl
  try simp only [Act.put, List.setIfInBounds_toArray, List.set_cons_zero, List.set_cons_succ]
  refine wpAnyH_take (i := 24) (oi := ⟨some 69, _, _, _, _, _⟩) (v := ?_) rfl (by kernel_rfl) (by kernel_rfl) (by kernel_rfl) (fun _ _ _ h => h) (Or.inl ⟨by simp only [Region.wanted], ?_⟩) hS ?_
  rotate_left
  · intro wz hSw
    clear hSw
    go_simp
    first | done | with_reducible rfl
  try simp only [Act.put, List.setIfInBounds_toArray, List.set_cons_zero, List.set_cons_succ]
  refine wpAnyH_done (by kernel_rfl) ?_ _
  have HC11 := Lib.hid (HC10.out.below hS)
  have HB11 := Lib.hid (HB10.out.trans (hS.mono HB10.out.size))
  clear hS HC10 HB10
  cases vb with
  | false =>
    have hz : vm = 0 ∧ vs = 0 := by
      have h := HVT.out.2
      unfold decP at h
      split at h
      · simp at h
      · simp at h; exact ⟨h.1.symm, h.2.symm⟩
    obtain ⟨rfl, rfl⟩ := hz
    obtain ⟨x0, x1, x2, -, -⟩ := HC11.out.tail.tail.head
    go_wp2_with fail
    go_ret
    exact ⟨rfl, HB11.out⟩
  | true =>
    have HV := Lib.hid (dec_of HVT.out.2)
    have HQ := Lib.hid (fun w hP => add_six w vm vs (-m2) s2 HV.out.1 (good_neg HGD.out.2) hP)
    rw [six_neg, HV.out.2, nrm_back _ HVT.out.1 HGD.out.1, dec_self HGD.out.1] at HQ
    go_upto_region 11 with fail
    go_cut [17, 18] from 75 to 81 (fun s17 s18 wx => ∃ bk : Nat, s17 = .pointer (some ⟨bk, 0, none⟩) ∧ s18 = .bool true ∧ DecB wx bk m s ∧ Below wm.heap.size wm wx)
    case first =>
      refine wp_region_any (by kernel_rfl) ?_
      change wpAny _ _ _ _ _ _ _ (World.drew _)
      refine wpAny_of_held (S := fun v => Below wm.heap.size wm v) _ _ _ _ ?_
      have hS : (fun v => Below wm.heap.size wm v) _ := (Below.refl _ wm).drew
      refine wpAnyH_take (i := 0) (oi := ⟨some 76, _, _, _, _, _⟩) (v := ?_) rfl (by kernel_rfl) (by kernel_rfl) (by kernel_rfl) (fun _ _ _ h => h) (Or.inl ⟨by simp only [Region.wanted], ?_⟩) hS ?_
      rotate_left
      · intro wz hSw; obtain ⟨-, f0, f1, -, -⟩ := HC11.out.tail.tail.head.below hSw
        clear hSw
        go_simp
        first | done | with_reducible rfl
      try simp only [Act.put, List.setIfInBounds_toArray, List.set_cons_zero, List.set_cons_succ]
      refine wpAnyH_take (i := 1) (oi := ⟨some 77, _, _, _, _, _⟩) (v := ?_) rfl (by kernel_rfl) (by kernel_rfl) (by kernel_rfl) (fun _ _ _ h => h) (Or.inl ⟨by simp only [Region.wanted], ?_⟩) hS ?_
      rotate_left
      · intro wz hSw; obtain ⟨-, f0, f1, -, -⟩ := HC11.out.tail.tail.tail.head.below hSw
        clear hSw
        go_simp
        first | done | with_reducible rfl
      try simp only [Act.put, List.setIfInBounds_toArray, List.set_cons_zero, List.set_cons_succ]
      refine wpAnyH_ready (rs := [2, 7]) (by kernel_rfl) (by simp) ?_
      refine AllReadyH.cons (o := ⟨some 78, _, _, _, _, _⟩) rfl (fun K hK => ?_) (AllReadyH.cons (o := ⟨some 17, _, _, _, _, _⟩) rfl (fun K hK => ?_) AllReadyH.nil)
      · go_simp
        (with_reducible refine (HN2.out _).mono ?_)
        rintro e wn2 ⟨rfl, hbn⟩
        have hS1 := hS.trans (hbn.mono hS.size)
        clear hbn
        go_wp2_with fail
        refine hK.out _ _ (hS1) (fun hS => ?_)
        clear hK K
        try simp only [Act.put, List.setIfInBounds_toArray, List.set_cons_zero, List.set_cons_succ]
        refine wpAnyH_ready (rs := [3, 7]) (by kernel_rfl) (by simp) ?_
        refine AllReadyH.cons (o := ⟨some 79, _, _, _, _, _⟩) rfl (fun K hK => ?_) (AllReadyH.cons (o := ⟨some 17, _, _, _, _, _⟩) rfl (fun K hK => ?_) AllReadyH.nil)
        · go_simp
          (with_reducible refine (HQ.out _ (HX.out.below (HB11.out.trans (hS.mono HB11.out.size)))).mono ?_)
          rintro e wn3 ⟨rfl, hbn⟩
          have hS1 := hS.trans (hbn.mono hS.size)
          clear hbn
          go_wp2_with fail
          refine hK.out _ _ (hS1) (fun hS => ?_)
          clear hK K
          try simp only [Act.put, List.setIfInBounds_toArray, List.set_cons_zero, List.set_cons_succ]
          have HLE := Lib.hid hS.size
          refine wpAnyH_take (i := 4) (oi := ⟨some 75, _, _, _, _, _⟩) (v := ?_) rfl (by kernel_rfl) (by kernel_rfl) (by kernel_rfl) (fun _ _ _ h => h) (Or.inl ⟨by simp only [Region.wanted], ?_⟩) hS ?_
          rotate_left
          · intro wz hSw
            clear hSw
            go_simp
            first | done | with_reducible rfl
          try simp only [Act.put, List.setIfInBounds_toArray, List.set_cons_zero, List.set_cons_succ]
          refine wpAnyH_take (i := 5) (oi := ⟨some 80, _, _, _, _, _⟩) (v := ?_) rfl (by kernel_rfl) (by kernel_rfl) (by kernel_rfl) (fun _ _ _ h => h) (Or.inl ⟨by simp only [Region.wanted], ?_⟩) hS ?_
          rotate_left
          · intro wz hSw
            clear hSw
            go_simp
            first | done | with_reducible rfl
          try simp only [Act.put, List.setIfInBounds_toArray, List.set_cons_zero, List.set_cons_succ]
          refine wpAnyH_take (i := 6) (oi := ⟨some 81, _, _, _, _, _⟩) (v := ?_) rfl (by kernel_rfl) (by kernel_rfl) (by kernel_rfl) (fun _ _ _ h => h) (Or.inl ⟨by simp only [Region.wanted], ?_⟩) hS ?_
          rotate_left
          · intro wz hSw
            clear hSw
            go_simp
            first | done | with_reducible rfl
          try simp only [Act.put, List.setIfInBounds_toArray, List.set_cons_zero, List.set_cons_succ]
          refine wpAnyH_ready (rs := [7]) (by kernel_rfl) (by simp) ?_
          refine AllReadyH.cons (o := ⟨some 17, _, _, _, _, _⟩) rfl (fun K hK => ?_) AllReadyH.nil
          go_simp
          have hSa := hS.alloc hS.size (.cells #[.int .i64 0, .int .i64 0] 27)
          have hSa : Below wm.heap.size wm (World.alloc wn3 (.cells #[.int .i64 0, .int .i64 0] 27)) := hSa
          have HKB := Lib.hid (show DecB (World.alloc wn3 (.cells #[.int .i64 0, .int .i64 0] 27)) wn3.heap.size 0 0 from DecB.new (wn3) 0 0 27)
          generalize World.alloc wn3 _ = wa at hSa HKB ⊢
          refine hK.out _ _ (hSa) (fun hS => ?_)
          clear hK K
          try simp only [Act.put, List.setIfInBounds_toArray, List.set_cons_zero, List.set_cons_succ]
          obtain ⟨q0, q1, q2, q3, q4⟩ := HKB.out
          have hS5 := (hS.setCell (p := ⟨_, 0, none⟩) (by simp only []; exact HLE.out) (.int .i64 m)).setCell (p := ⟨_, 1, none⟩) (by simp only []; exact HLE.out) (.int .i64 s)
          refine wpAnyH_ready (rs := [8]) (by kernel_rfl) (by simp) ?_
          refine AllReadyH.cons (o := ⟨none, _, _, _, _, _⟩) rfl (fun K hK => ?_) AllReadyH.nil
          go_simp
          refine hK.out _ _ (hS5) (fun hS => ?_)
          clear hK K
          try simp only [Act.put, List.setIfInBounds_toArray, List.set_cons_zero, List.set_cons_succ]
          refine wpAnyH_take (i := 9) (oi := ⟨some 18, _, _, _, _, _⟩) (v := ?_) rfl (by kernel_rfl) (by kernel_rfl) (by kernel_rfl) (fun _ _ _ h => h) (Or.inl ⟨by simp only [Region.wanted], ?_⟩) hS ?_
          rotate_left
          · intro wz hSw
            clear hSw
            go_simp
            first | done | with_reducible rfl
          try simp only [Act.put, List.setIfInBounds_toArray, List.set_cons_zero, List.set_cons_succ]
          refine wpAnyH_done (by kernel_rfl) ?_ _
          go_wp2_with fail
          go_meet
          exact ⟨_, rfl, rfl, HKB.out.set, hS⟩
        · go_simp
          have HLE := Lib.hid hS.size
          have hSa := hS.alloc hS.size (.cells #[.int .i64 0, .int .i64 0] 27)
          have hSa : Below wm.heap.size wm (World.alloc wn2 (.cells #[.int .i64 0, .int .i64 0] 27)) := hSa
          have HKB := Lib.hid (show DecB (World.alloc wn2 (.cells #[.int .i64 0, .int .i64 0] 27)) wn2.heap.size 0 0 from DecB.new (wn2) 0 0 27)
          generalize World.alloc wn2 _ = wa at hSa HKB ⊢
          refine hK.out _ _ (hSa) (fun hS => ?_)
          clear hK K
          try simp only [Act.put, List.setIfInBounds_toArray, List.set_cons_zero, List.set_cons_succ]
          refine wpAnyH_ready (rs := [3]) (by kernel_rfl) (by simp) ?_
          refine AllReadyH.cons (o := ⟨some 79, _, _, _, _, _⟩) rfl (fun K hK => ?_) AllReadyH.nil
          go_simp
          (with_reducible refine (HQ.out _ (HX.out.below (HB11.out.trans (hS.mono HB11.out.size)))).mono ?_)
          rintro e wn3 ⟨rfl, hbn⟩
          have hS1 := hS.trans (hbn.mono hS.size)
          have HKB := Lib.hid (HKB.out.below hbn)
          clear hbn
          go_wp2_with fail
          refine hK.out _ _ (hS1) (fun hS => ?_)
          clear hK K
          try simp only [Act.put, List.setIfInBounds_toArray, List.set_cons_zero, List.set_cons_succ]
          refine wpAnyH_take (i := 4) (oi := ⟨some 75, _, _, _, _, _⟩) (v := ?_) rfl (by kernel_rfl) (by kernel_rfl) (by kernel_rfl) (fun _ _ _ h => h) (Or.inl ⟨by simp only [Region.wanted], ?_⟩) hS ?_
          rotate_left
          · intro wz hSw
            clear hSw
            go_simp
            first | done | with_reducible rfl
          try simp only [Act.put, List.setIfInBounds_toArray, List.set_cons_zero, List.set_cons_succ]
          refine wpAnyH_take (i := 5) (oi := ⟨some 80, _, _, _, _, _⟩) (v := ?_) rfl (by kernel_rfl) (by kernel_rfl) (by kernel_rfl) (fun _ _ _ h => h) (Or.inl ⟨by simp only [Region.wanted], ?_⟩) hS ?_
          rotate_left
          · intro wz hSw
            clear hSw
            go_simp
            first | done | with_reducible rfl
          try simp only [Act.put, List.setIfInBounds_toArray, List.set_cons_zero, List.set_cons_succ]
          refine wpAnyH_take (i := 6) (oi := ⟨some 81, _, _, _, _, _⟩) (v := ?_) rfl (by kernel_rfl) (by kernel_rfl) (by kernel_rfl) (fun _ _ _ h => h) (Or.inl ⟨by simp only [Region.wanted], ?_⟩) hS ?_
          rotate_left
          · intro wz hSw
            clear hSw
            go_simp
            first | done | with_reducible rfl
          try simp only [Act.put, List.setIfInBounds_toArray, List.set_cons_zero, List.set_cons_succ]
          obtain ⟨q0, q1, q2, q3, q4⟩ := HKB.out
          have hS5 := (hS.setCell (p := ⟨_, 0, none⟩) (by simp only []; exact HLE.out) (.int .i64 m)).setCell (p := ⟨_, 1, none⟩) (by simp only []; exact HLE.out) (.int .i64 s)
          refine wpAnyH_ready (rs := [8]) (by kernel_rfl) (by simp) ?_
          refine AllReadyH.cons (o := ⟨none, _, _, _, _, _⟩) rfl (fun K hK => ?_) AllReadyH.nil
          go_simp
          refine hK.out _ _ (hS5) (fun hS => ?_)
          clear hK K
          try simp only [Act.put, List.setIfInBounds_toArray, List.set_cons_zero, List.set_cons_succ]
          refine wpAnyH_take (i := 9) (oi := ⟨some 18, _, _, _, _, _⟩) (v := ?_) rfl (by kernel_rfl) (by kernel_rfl) (by kernel_rfl) (fun _ _ _ h => h) (Or.inl ⟨by simp only [Region.wanted], ?_⟩) hS ?_
          rotate_left
          · intro wz hSw
            clear hSw
            go_simp
            first | done | with_reducible rfl
          try simp only [Act.put, List.setIfInBounds_toArray, List.set_cons_zero, List.set_cons_succ]
          refine wpAnyH_done (by kernel_rfl) ?_ _
          go_wp2_with fail
          go_meet
          exact ⟨_, rfl, rfl, HKB.out.set, hS⟩
      · go_simp
        have HLE := Lib.hid hS.size
        have hSa := hS.alloc hS.size (.cells #[.int .i64 0, .int .i64 0] 27)
        have hSa : Below wm.heap.size wm (World.drew (World.alloc wm (.cells #[.int .i64 0, .int .i64 0] 27))) := hSa
        have HKB := Lib.hid (show DecB (World.drew (World.alloc wm (.cells #[.int .i64 0, .int .i64 0] 27))) wm.heap.size 0 0 from DecB.new (wm.drew) 0 0 27)
        generalize World.drew (World.alloc wm _) = wa at hSa HKB ⊢
        refine hK.out _ _ (hSa) (fun hS => ?_)
        clear hK K
        try simp only [Act.put, List.setIfInBounds_toArray, List.set_cons_zero, List.set_cons_succ]
        refine wpAnyH_ready (rs := [2]) (by kernel_rfl) (by simp) ?_
        refine AllReadyH.cons (o := ⟨some 78, _, _, _, _, _⟩) rfl (fun K hK => ?_) AllReadyH.nil
        go_simp
        (with_reducible refine (HN2.out _).mono ?_)
        rintro e wn2 ⟨rfl, hbn⟩
        have hS1 := hS.trans (hbn.mono hS.size)
        have HKB := Lib.hid (HKB.out.below hbn)
        clear hbn
        go_wp2_with fail
        refine hK.out _ _ (hS1) (fun hS => ?_)
        clear hK K
        try simp only [Act.put, List.setIfInBounds_toArray, List.set_cons_zero, List.set_cons_succ]
        refine wpAnyH_ready (rs := [3]) (by kernel_rfl) (by simp) ?_
        refine AllReadyH.cons (o := ⟨some 79, _, _, _, _, _⟩) rfl (fun K hK => ?_) AllReadyH.nil
        go_simp
        (with_reducible refine (HQ.out _ (HX.out.below (HB11.out.trans (hS.mono HB11.out.size)))).mono ?_)
        rintro e wn3 ⟨rfl, hbn⟩
        have hS1 := hS.trans (hbn.mono hS.size)
        have HKB := Lib.hid (HKB.out.below hbn)
        clear hbn
        go_wp2_with fail
        refine hK.out _ _ (hS1) (fun hS => ?_)
        clear hK K
        try simp only [Act.put, List.setIfInBounds_toArray, List.set_cons_zero, List.set_cons_succ]
        refine wpAnyH_take (i := 4) (oi := ⟨some 75, _, _, _, _, _⟩) (v := ?_) rfl (by kernel_rfl) (by kernel_rfl) (by kernel_rfl) (fun _ _ _ h => h) (Or.inl ⟨by simp only [Region.wanted], ?_⟩) hS ?_
        rotate_left
        · intro wz hSw
          clear hSw
          go_simp
          first | done | with_reducible rfl
        try simp only [Act.put, List.setIfInBounds_toArray, List.set_cons_zero, List.set_cons_succ]
        refine wpAnyH_take (i := 5) (oi := ⟨some 80, _, _, _, _, _⟩) (v := ?_) rfl (by kernel_rfl) (by kernel_rfl) (by kernel_rfl) (fun _ _ _ h => h) (Or.inl ⟨by simp only [Region.wanted], ?_⟩) hS ?_
        rotate_left
        · intro wz hSw
          clear hSw
          go_simp
          first | done | with_reducible rfl
        try simp only [Act.put, List.setIfInBounds_toArray, List.set_cons_zero, List.set_cons_succ]
        refine wpAnyH_take (i := 6) (oi := ⟨some 81, _, _, _, _, _⟩) (v := ?_) rfl (by kernel_rfl) (by kernel_rfl) (by kernel_rfl) (fun _ _ _ h => h) (Or.inl ⟨by simp only [Region.wanted], ?_⟩) hS ?_
        rotate_left
        · intro wz hSw
          clear hSw
          go_simp
          first | done | with_reducible rfl
        try simp only [Act.put, List.setIfInBounds_toArray, List.set_cons_zero, List.set_cons_succ]
        obtain ⟨q0, q1, q2, q3, q4⟩ := HKB.out
        have hS5 := (hS.setCell (p := ⟨_, 0, none⟩) (by simp only []; exact HLE.out) (.int .i64 m)).setCell (p := ⟨_, 1, none⟩) (by simp only []; exact HLE.out) (.int .i64 s)
        refine wpAnyH_ready (rs := [8]) (by kernel_rfl) (by simp) ?_
        refine AllReadyH.cons (o := ⟨none, _, _, _, _, _⟩) rfl (fun K hK => ?_) AllReadyH.nil
        go_simp
        refine hK.out _ _ (hS5) (fun hS => ?_)
        clear hK K
        try simp only [Act.put, List.setIfInBounds_toArray, List.set_cons_zero, List.set_cons_succ]
        refine wpAnyH_take (i := 9) (oi := ⟨some 18, _, _, _, _, _⟩) (v := ?_) rfl (by kernel_rfl) (by kernel_rfl) (by kernel_rfl) (fun _ _ _ h => h) (Or.inl ⟨by simp only [Region.wanted], ?_⟩) hS ?_
        rotate_left
        · intro wz hSw
          clear hSw
          go_simp
          first | done | with_reducible rfl
        try simp only [Act.put, List.setIfInBounds_toArray, List.set_cons_zero, List.set_cons_succ]
        refine wpAnyH_done (by kernel_rfl) ?_ _
        go_wp2_with fail
        go_meet
        exact ⟨_, rfl, rfl, HKB.out.set, hS⟩
    case rest =>
      obtain ⟨bk, rfl, rfl, hD, hB⟩ := hcut
      have HE3 := fun w => equal_dec m s m s w
      have HCB := Lib.hid (HC11.out.below hB)
      have HBx := Lib.hid (HB11.out.trans (hB.mono HB11.out.size))
      have HC1 := Lib.hid (fun w hP => cmp_six w vm vs m s HV.out.1 HGD.out.1 hP)
      have HC2 := Lib.hid (fun w hP => cmp_six w m2 s2 0 0 HGD.out.2 good_nil hP)
      rw [HV.out.2, HVT.out.1, cmp_shift] at HC1
      rw [six_nil] at HC2
      generalize cmpI (sixI m2 s2.toNat) 0 = c at HC1 HC2
      go_upto_region 12 with fail
      refine wp_region_any (by kernel_rfl) ?_
      change wpAny _ _ _ _ _ _ _ (World.drew _)
      refine wpAny_of_held (S := fun v => Below wc.heap.size wc v) _ _ _ _ ?_
      have hS : (fun v => Below wc.heap.size wc v) _ := (Below.refl _ wc).drew
      refine wpAnyH_take (i := 0) (oi := ⟨some 82, _, _, _, _, _⟩) (v := ?_) rfl (by kernel_rfl) (by kernel_rfl) (by kernel_rfl) (fun _ _ _ h => h) (Or.inl ⟨by simp only [Region.wanted], ?_⟩) hS ?_
      rotate_left
      · intro wz hSw
        clear hSw
        go_simp
        first | done | with_reducible rfl
      try simp only [Act.put, List.setIfInBounds_toArray, List.set_cons_zero, List.set_cons_succ]
      refine wpAnyH_take (i := 1) (oi := ⟨some 83, _, _, _, _, _⟩) (v := ?_) rfl (by kernel_rfl) (by kernel_rfl) (by kernel_rfl) (fun _ _ _ h => h) (Or.inl ⟨by simp only [Region.wanted], ?_⟩) hS ?_
      rotate_left
      · intro wz hSw
        clear hSw
        go_simp
        first | done | with_reducible rfl
      try simp only [Act.put, List.setIfInBounds_toArray, List.set_cons_zero, List.set_cons_succ]
      refine wpAnyH_take (i := 2) (oi := ⟨some 84, _, _, _, _, _⟩) (v := ?_) rfl (by kernel_rfl) (by kernel_rfl) (by kernel_rfl) (fun _ _ _ h => h) (Or.inl ⟨by first | rfl | (simp [Region.wanted, yielded]; done), ?_⟩) hS ?_
      rotate_left
      · intro wz hSw; obtain ⟨-, f0, f1, -, -⟩ := hD.below hSw
        clear hSw
        go_simp
        first | done | with_reducible rfl
      try simp only [Act.put, List.setIfInBounds_toArray, List.set_cons_zero, List.set_cons_succ]
      refine wpAnyH_take (i := 3) (oi := ⟨some 85, _, _, _, _, _⟩) (v := ?_) rfl (by kernel_rfl) (by kernel_rfl) (by kernel_rfl) (fun _ _ _ h => h) (Or.inl ⟨by first | rfl | (simp [Region.wanted, yielded]; done), ?_⟩) hS ?_
      rotate_left
      · intro wz hSw; obtain ⟨-, f0, f1, -, -⟩ := HCB.out.tail.tail.tail.tail.head.below hSw
        clear hSw
        go_simp
        first | done | with_reducible rfl
      try simp only [Act.put, List.setIfInBounds_toArray, List.set_cons_zero, List.set_cons_succ]
      refine wpAnyH_take (i := 4) (oi := ⟨some 86, _, _, _, _, _⟩) (v := ?_) rfl (by kernel_rfl) (by kernel_rfl) (by kernel_rfl) (fun _ _ _ h => h) (Or.inl ⟨by first | rfl | (simp [Region.wanted, yielded]; done), ?_⟩) hS ?_
      rotate_left
      · intro wz hSw
        clear hSw
        go_simp
        first | done | with_reducible rfl
      try simp only [Act.put, List.setIfInBounds_toArray, List.set_cons_zero, List.set_cons_succ]
      refine wpAnyH_take (i := 5) (oi := ⟨some 87, _, _, _, _, _⟩) (v := ?_) rfl (by kernel_rfl) (by kernel_rfl) (by kernel_rfl) (fun _ _ _ h => h) (Or.inl ⟨by simp only [Region.wanted], ?_⟩) hS ?_
      rotate_left
      · intro wz hSw
        clear hSw
        go_simp
        first | done | with_reducible rfl
      try simp only [Act.put, List.setIfInBounds_toArray, List.set_cons_zero, List.set_cons_succ]
      refine wpAnyH_take (i := 6) (oi := ⟨some 88, _, _, _, _, _⟩) (v := ?_) rfl (by kernel_rfl) (by kernel_rfl) (by kernel_rfl) (fun _ _ _ h => h) (Or.inl ⟨by simp only [Region.wanted], ?_⟩) hS ?_
      rotate_left
      · intro wz hSw
        clear hSw
        go_simp
        first | done | with_reducible rfl
      try simp only [Act.put, List.setIfInBounds_toArray, List.set_cons_zero, List.set_cons_succ]
      refine wpAnyH_take (i := 7) (oi := ⟨some 89, _, _, _, _, _⟩) (v := ?_) rfl (by kernel_rfl) (by kernel_rfl) (by kernel_rfl) (fun _ _ _ h => h) (Or.inl ⟨by first | rfl | (simp [Region.wanted, yielded]; done), ?_⟩) hS ?_
      rotate_left
      · intro wz hSw; obtain ⟨-, f0, f1, -, -⟩ := HCB.out.tail.tail.head.below hSw
        clear hSw
        go_simp
        first | done | with_reducible rfl
      try simp only [Act.put, List.setIfInBounds_toArray, List.set_cons_zero, List.set_cons_succ]
      refine wpAnyH_take (i := 8) (oi := ⟨some 90, _, _, _, _, _⟩) (v := ?_) rfl (by kernel_rfl) (by kernel_rfl) (by kernel_rfl) (fun _ _ _ h => h) (Or.inl ⟨by first | rfl | (simp [Region.wanted, yielded]; done), ?_⟩) hS ?_
      rotate_left
      · intro wz hSw; obtain ⟨-, f0, f1, -, -⟩ := HCB.out.tail.tail.tail.tail.head.below hSw
        clear hSw
        go_simp
        first | done | with_reducible rfl
      try simp only [Act.put, List.setIfInBounds_toArray, List.set_cons_zero, List.set_cons_succ]
      refine wpAnyH_take (i := 10) (oi := ⟨some 92, _, _, _, _, _⟩) (v := ?_) rfl (by kernel_rfl) (by kernel_rfl) (by kernel_rfl) (fun _ _ _ h => h) (Or.inl ⟨by first | rfl | (simp [Region.wanted, yielded]; done), ?_⟩) hS ?_
      rotate_left
      · intro wz hSw; obtain ⟨-, f0, f1, -, -⟩ := HCB.out.tail.tail.tail.head.below hSw
        clear hSw
        go_simp
        first | done | with_reducible rfl
      try simp only [Act.put, List.setIfInBounds_toArray, List.set_cons_zero, List.set_cons_succ]
      refine wpAnyH_take (i := 11) (oi := ⟨some 93, _, _, _, _, _⟩) (v := ?_) rfl (by kernel_rfl) (by kernel_rfl) (by kernel_rfl) (fun _ _ _ h => h) (Or.inl ⟨by first | rfl | (simp [Region.wanted, yielded]; done), ?_⟩) hS ?_
      rotate_left
      · intro wz hSw
        clear hSw
        go_simp
        first | done | with_reducible rfl
      try simp only [Act.put, List.setIfInBounds_toArray, List.set_cons_zero, List.set_cons_succ]
      refine wpAnyH_ready (rs := [9]) (by kernel_rfl) (by simp) ?_
      refine AllReadyH.cons (o := ⟨some 91, _, _, _, _, _⟩) rfl (fun K hK => ?_) AllReadyH.nil
      go_simp
      (with_reducible refine (HC1.out _ (HX.out.below (HBx.out.trans (hS.mono HBx.out.size)))).mono ?_)
      rintro e wn ⟨rfl, hbn⟩
      have hS1 := hS.trans (hbn.mono hS.size)
      clear hbn
      go_wp2_with fail
      refine hK.out _ _ (hS1) (fun hS => ?_)
      clear hK K
      try simp only [Act.put, List.setIfInBounds_toArray, List.set_cons_zero, List.set_cons_succ]
      refine wpAnyH_ready (rs := [12]) (by kernel_rfl) (by simp) ?_
      refine AllReadyH.cons (o := ⟨some 94, _, _, _, _, _⟩) rfl (fun K hK => ?_) AllReadyH.nil
      go_simp
      (with_reducible refine (HC2.out _ (HX.out.below (HBx.out.trans (hS.mono HBx.out.size)))).mono ?_)
      rintro e wn ⟨rfl, hbn⟩
      have hS1 := hS.trans (hbn.mono hS.size)
      clear hbn
      go_wp2_with fail
      refine hK.out _ _ (hS1) (fun hS => ?_)
      clear hK K
      try simp only [Act.put, List.setIfInBounds_toArray, List.set_cons_zero, List.set_cons_succ]
      refine wpAnyH_take (i := 13) (oi := ⟨some 95, _, _, _, _, _⟩) (v := ?_) rfl (by kernel_rfl) (by kernel_rfl) (by kernel_rfl) (fun _ _ _ h => h) (Or.inl ⟨by first | rfl | (simp [Region.wanted, yielded]; done), ?_⟩) hS ?_
      rotate_left
      · intro wz hSw
        clear hSw
        go_simp
        first | done | with_reducible rfl
      try simp only [Act.put, List.setIfInBounds_toArray, List.set_cons_zero, List.set_cons_succ]
      refine wpAnyH_take (i := 14) (oi := ⟨some 96, _, _, _, _, _⟩) (v := ?_) rfl (by kernel_rfl) (by kernel_rfl) (by kernel_rfl) (fun _ _ _ h => h) (Or.inl ⟨by simp only [Region.wanted], ?_⟩) hS ?_
      rotate_left
      · intro wz hSw
        clear hSw
        go_simp
        first | done | with_reducible rfl
      try simp only [Act.put, List.setIfInBounds_toArray, List.set_cons_zero, List.set_cons_succ]
      refine wpAnyH_take (i := 15) (oi := ⟨some 8, _, _, _, _, _⟩) (v := ?_) rfl (by kernel_rfl) (by kernel_rfl) (by kernel_rfl) (fun _ _ _ h => h) (Or.inl ⟨by simp only [Region.wanted], ?_⟩) hS ?_
      rotate_left
      · intro wz hSw
        clear hSw
        go_simp
        first | done | with_reducible rfl
      try simp only [Act.put, List.setIfInBounds_toArray, List.set_cons_zero, List.set_cons_succ]
      refine wpAnyH_done (by kernel_rfl) ?_ _
      go_wp2_with fail
      go_ret
      exact ⟨rfl, HBx.out.trans (hS.mono HBx.out.size)⟩
end Go.Proofs.YtcaejheaojnmmaaDoor
