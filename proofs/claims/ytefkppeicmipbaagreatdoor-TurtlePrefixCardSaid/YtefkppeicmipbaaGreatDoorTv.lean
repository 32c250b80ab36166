/- Terms: Fits, package term's and triadref6's. -/

import Derived.Test.YtefkppeicmipbaaGreatDoorTc
namespace Go.Proofs.YtefkppeicmipbaaGreatDoor
open Go.RowKit
set_option maxRecDepth 100000

/-- A triple as a value; in a block; what Fits answers. -/
def tri (x y z : Tm) : Value := .agg #[.int .i64 x.k, .string x.s, .string x.l, .string x.t, .int .i64 y.k, .string y.s, .string y.l, .string y.t, .int .i64 z.k, .string z.s, .string z.l, .string z.t]
def fitsT (x y z : Tm) : Int := if checkOf x ≠ 0 then checkOf x else if checkOf y ≠ 0 then checkOf y else if checkOf z ≠ 0 then checkOf z else if x.k = 3 ∨ y.k ≠ 1 then 3 else 0
def Tri (W : World) (b : Nat) (x y z : Tm) : Prop := W.cell? ⟨b, 0, none⟩ = some (.int .i64 x.k) ∧ W.cell? ⟨b, 1, none⟩ = some (.string x.s) ∧ W.cell? ⟨b, 2, none⟩ = some (.string x.l) ∧ W.cell? ⟨b, 3, none⟩ = some (.string x.t) ∧ W.cell? ⟨b, 4, none⟩ = some (.int .i64 y.k) ∧ W.cell? ⟨b, 5, none⟩ = some (.string y.s) ∧ W.cell? ⟨b, 6, none⟩ = some (.string y.l) ∧ W.cell? ⟨b, 7, none⟩ = some (.string y.t) ∧ W.cell? ⟨b, 8, none⟩ = some (.int .i64 z.k) ∧ W.cell? ⟨b, 9, none⟩ = some (.string z.s) ∧ W.cell? ⟨b, 10, none⟩ = some (.string z.l) ∧ W.cell? ⟨b, 11, none⟩ = some (.string z.t)
theorem ret_intT {k : IntKind} {a b : Int} (h : a = b) : Ending.returned (.int k a) = .returned (.int k b) := by rw [h]
theorem Tri.lt {W : World} {b : Nat} {x y z : Tm} (h : Tri W b x y z) : b < W.heap.size := World.block_lt_of_cell? W _ h.1
theorem Tri.below {W W' : World} {b : Nat} {x y z : Tm} (h : Tri W b x y z) (hb : Below W.heap.size W W') : Tri W' b x y z := by
  have hlt := h.lt
  have hc : ∀ o, W'.cell? ⟨b, o, none⟩ = W.cell? ⟨b, o, none⟩ := fun o => hb.cell (p := ⟨b, o, none⟩) hlt
  unfold Tri at h ⊢
  simp only [hc]
  exact h

set_option maxHeartbeats 16000000 in
theorem fits_any (x y z : Tm) (hx : x.Ok) (hy : y.Ok) (hz : z.Ok) (w : World) :
    Calls Tryz.prog 76 #[tri x y z] w fun e w' => e = .returned (.int .i64 (fitsT x y z)) ∧ Below w.heap.size w w' := by
  have hcx := check_any x hx
  have hcy := check_any y hy
  have hcz := check_any z hz
  obtain ⟨f, hf⟩ : ∃ f, f = fitsT x y z := ⟨_, rfl⟩
  rw [← hf]
  unfold fitsT at hf
  clear hx hy hz
  generalize checkOf x = cx at *
  generalize checkOf y = cy at *
  generalize checkOf z = cz at *
  obtain ⟨k, s, l, t⟩ := x
  obtain ⟨k2, s2, l2, t2⟩ := y
  obtain ⟨k3, s3, l3, t3⟩ := z
  unfold Tm.val at hcx hcy hcz
  unfold tri
  dsimp only at hcx hcy hcz ⊢
  dsimp only at hf
  have HF := Lib.hid hf
  clear hf
  have HC0 := Lib.hid hcx
  have HC1 := Lib.hid hcy
  have HC2 := Lib.hid hcz
  clear hcx hcy hcz
  obtain ⟨W, hW⟩ : ∃ W, W = w.alloc (.cells #[.int .i64 k, .string s, .string l, .string t, .int .i64 k2, .string s2, .string l2, .string t2, .int .i64 k3, .string s3, .string l3, .string t3] 35) := ⟨_, rfl⟩
  have hA : Tri W w.heap.size ⟨k, s, l, t⟩ ⟨k2, s2, l2, t2⟩ ⟨k3, s3, l3, t3⟩ ∧ Below w.heap.size w W := by
    subst hW
    refine ⟨?_, (Below.refl _ _).alloc (Nat.le_refl _) _⟩
    unfold Tri
    simp
  have HA := Lib.hid hA
  have HW := Lib.hid hW
  clear hA hW
  have i0 : ∀ w, (Instr.index 35 (.agg #[.int .i64 k, .string s, .string l, .string t, .int .i64 k2, .string s2, .string l2, .string t2, .int .i64 k3, .string s3, .string l3, .string t3]) (.int .i64 0)).run Tryz.prog w = .ok (.agg #[.int .i64 k, .string s, .string l, .string t]) w := fun _ => by kernel_rfl
  have i1 : ∀ w, (Instr.index 35 (.agg #[.int .i64 k, .string s, .string l, .string t, .int .i64 k2, .string s2, .string l2, .string t2, .int .i64 k3, .string s3, .string l3, .string t3]) (.int .i64 1)).run Tryz.prog w = .ok (.agg #[.int .i64 k2, .string s2, .string l2, .string t2]) w := fun _ => by kernel_rfl
  have i2 : ∀ w, (Instr.index 35 (.agg #[.int .i64 k, .string s, .string l, .string t, .int .i64 k2, .string s2, .string l2, .string t2, .int .i64 k3, .string s3, .string l3, .string t3]) (.int .i64 2)).run Tryz.prog w = .ok (.agg #[.int .i64 k3, .string s3, .string l3, .string t3]) w := fun _ => by kernel_rfl
  go_enter Tryz.func76, Tryz.ntmps76
  go_wp2_with fail
  simp only [← HW.out]
  refine wp_loop_rounds 4 ?_
  rw [rounds_succ]
  obtain ⟨c0, c1, c2, c3, c4, c5, c6, c7, c8, c9, c10, c11⟩ := HA.out.1
  dsimp only at c0 c1 c2 c3 c4 c5 c6 c7 c8 c9 c10 c11
  have hb0 : Below W.heap.size W (W.alloc (.cells #[.int .i64 k, .string s, .string l, .string t] 33)) := (Below.refl _ _).alloc (Nat.le_refl _) _
  have HB0 := Lib.hid hb0
  clear hb0
  go_wp2_with fail
  refine (HC0.out _).mono ?_
  rintro e w1 ⟨rfl, hb⟩
  replace hb := HB0.out.trans (hb.mono HB0.out.size)
  have HA1 := Lib.hid (And.intro (HA.out.1.below hb) (HA.out.2.trans (hb.mono HA.out.2.size)))
  clear hb HA
  have HA := HA1
  clear HA1
  clear HB0
  clear HW
  clear c0 c1 c2 c3 c4 c5 c6 c7 c8 c9 c10 c11
  by_cases h0 : cx = 0
  rotate_left
  · have hn : (cx != 0) = true := by simpa using h0
    have H0 := Lib.hid h0
    clear h0
    go_wp2_with fail
    go_ret
    exact ⟨ret_intT (by rw [HF.out]; simp [H0.out]), HA.out.2⟩
  subst h0
  go_wp2_with fail
  rw [rounds_succ]
  obtain ⟨c0, c1, c2, c3, c4, c5, c6, c7, c8, c9, c10, c11⟩ := HA.out.1
  dsimp only at c0 c1 c2 c3 c4 c5 c6 c7 c8 c9 c10 c11
  have hb0 : Below w1.heap.size w1 (w1.alloc (.cells #[.int .i64 k2, .string s2, .string l2, .string t2] 33)) := (Below.refl _ _).alloc (Nat.le_refl _) _
  have HB0 := Lib.hid hb0
  clear hb0
  go_wp2_with fail
  refine (HC1.out _).mono ?_
  rintro e w2 ⟨rfl, hb⟩
  replace hb := HB0.out.trans (hb.mono HB0.out.size)
  have HA2 := Lib.hid (And.intro (HA.out.1.below hb) (HA.out.2.trans (hb.mono HA.out.2.size)))
  clear hb HA
  have HA := HA2
  clear HA2
  clear HB0
  clear c0 c1 c2 c3 c4 c5 c6 c7 c8 c9 c10 c11
  by_cases h1 : cy = 0
  rotate_left
  · have hn : (cy != 0) = true := by simpa using h1
    have H0 := Lib.hid h1
    clear h1
    go_wp2_with fail
    go_ret
    exact ⟨ret_intT (by rw [HF.out]; simp [H0.out]), HA.out.2⟩
  subst h1
  go_wp2_with fail
  rw [rounds_succ]
  obtain ⟨c0, c1, c2, c3, c4, c5, c6, c7, c8, c9, c10, c11⟩ := HA.out.1
  dsimp only at c0 c1 c2 c3 c4 c5 c6 c7 c8 c9 c10 c11
  have hb0 : Below w2.heap.size w2 (w2.alloc (.cells #[.int .i64 k3, .string s3, .string l3, .string t3] 33)) := (Below.refl _ _).alloc (Nat.le_refl _) _
  have HB0 := Lib.hid hb0
  clear hb0
  go_wp2_with fail
  refine (HC2.out _).mono ?_
  rintro e w3 ⟨rfl, hb⟩
  replace hb := HB0.out.trans (hb.mono HB0.out.size)
  have HA3 := Lib.hid (And.intro (HA.out.1.below hb) (HA.out.2.trans (hb.mono HA.out.2.size)))
  clear hb HA
  have HA := HA3
  clear HA3
  clear HB0
  clear c0 c1 c2 c3 c4 c5 c6 c7 c8 c9 c10 c11
  by_cases h2 : cz = 0
  rotate_left
  · have hn : (cz != 0) = true := by simpa using h2
    have H0 := Lib.hid h2
    clear h2
    go_wp2_with fail
    go_ret
    exact ⟨ret_intT (by rw [HF.out]; simp [H0.out]), HA.out.2⟩
  subst h2
  go_wp2_with fail
  rw [rounds_succ]
  obtain ⟨c0, c1, c2, c3, c4, c5, c6, c7, c8, c9, c10, c11⟩ := HA.out.1
  dsimp only at c0 c1 c2 c3 c4 c5 c6 c7 c8 c9 c10 c11
  by_cases hk3 : k = 3
  · subst hk3
    go_wp2_with fail
    go_ret
    exact ⟨ret_intT (by rw [HF.out]; simp), HA.out.2⟩
  have e3 : (k == 3) = false := by simpa using hk3
  have K3 := Lib.hid hk3
  clear hk3
  by_cases hk1 : k2 = 1
  · subst hk1
    go_wp2_with fail
    go_ret
    exact ⟨ret_intT (by rw [HF.out]; simp [K3.out]), HA.out.2⟩
  have e1 : (k2 != 1) = true := by simpa using hk1
  have K1 := Lib.hid hk1
  clear hk1
  go_wp2_with fail
  go_ret
  exact ⟨ret_intT (by rw [HF.out]; simp [K1.out]), HA.out.2⟩

end Go.Proofs.YtefkppeicmipbaaGreatDoor
