/- triadref13: Add, Cmp. -/
import Derived.Test.YtcaejheaojnmmaaDoorRg
namespace Go.Proofs.YtcaejheaojnmmaaDoor
open Go.RowKit Go.Shelf Flo
set_option maxRecDepth 100000
set_option linter.unusedVariables false
set_option linter.unusedSimpArgs false

/-- a decimal's number, led to six digits behind the point. -/
def sixI (m : Int) (k : Nat) : Int := m * (10 ^ (6 - k) : Nat)
theorem six_size (m : Int) (k : Nat) : sixI m k = if m < 0 then -(sizeN m k : Int) else (sizeN m k : Int) := by
  unfold sixI sizeN
  rw [Int.natCast_mul]
  by_cases h : m < 0
  · rw [if_pos h, show (m.natAbs : Int) = -m by omega, Int.neg_mul, Int.neg_neg]
  · rw [if_neg h, show (m.natAbs : Int) = m by omega]

theorem cmp_negs (a b : Int) : cmpI (-a) (-b) = cmpI b a := by
  unfold cmpI
  rcases Int.lt_trichotomy a b with h | h | h
  · rw [if_neg (by omega), if_pos (by omega), if_neg (by omega), if_pos (by omega)]
  · rw [if_neg (by omega), if_neg (by omega), if_neg (by omega), if_neg (by omega)]
  · rw [if_pos (by omega), if_pos (by omega)]
def Under20 (N : Nat) : Prop := N ≤ 1000000000000000000000
theorem wid_eq (N : Nat) (a b : Int) (h : a = ((N / 1000000000 : Nat) : Int)) (h2 : b = ((N % 1000000000 : Nat) : Int)) : (Value.agg #[.int .i64 a, .int .i64 b]) = wid N := by rw [h, h2]; rfl

theorem TwoS.off {w v : World} {m s m2 s2 x y : Int} {b : Nat} (h : TwoS w m s m2 s2 v) (hb : w.heap.size + 1 + 1 < b) : TwoS w m s m2 s2 ((v.setCell ⟨b, 0, none⟩ (.int .i64 x)).setCell ⟨b, 1, none⟩ (.int .i64 y)) := by
  obtain ⟨h1, h2, h3, m3, s3, h4⟩ := h
  exact ⟨(h1.setCell (by simp only []; omega) _).setCell (by simp only []; omega) _, h2.put (by omega), h3.put (by omega), m3, s3, h4.put (by omega)⟩

set_option maxHeartbeats 2000000 in
theorem radd_any (w : World) (m s m2 s2 : Int) (h : GoodD m s) (h2 : GoodD m2 s2) :
    Calls Tryd.prog 17 #[.agg #[.int .i64 m, .int .i64 s], .agg #[.int .i64 m2, .int .i64 s2]] w fun e w' =>
      e = .returned (decP (nrm (sixI m s.toNat + sixI m2 s2.toNat) 6)) ∧ Below w.heap.size w w' := by
  obtain ⟨V, hV⟩ : ∃ V, V = decP (nrm (sixI m s.toNat + sixI m2 s2.toNat) 6) := ⟨_, rfl⟩
  rw [← hV]
  rw [six_size, six_size] at hV
  obtain ⟨vm, vs, vb, hv⟩ := decP_cases (nrm ((if m < 0 then -(sizeN m s.toNat : Int) else (sizeN m s.toNat : Int)) + (if m2 < 0 then -(sizeN m2 s2.toNat : Int) else (sizeN m2 s2.toNat : Int))) 6)
  rw [← hV] at hv
  have HVT := Lib.hid hv
  have HA := Lib.hid (fun w => sized_any w m s h)
  have HB := Lib.hid (fun w => sized_any w m2 s2 h2)
  have hNX := sizeN_le (m := m) (k := s.toNat) h.abs
  have hNY := sizeN_le (m := m2) (k := s2.toNat) h2.abs
  generalize sizeN m s.toNat = NX at *
  generalize sizeN m2 s2.toNat = NY at *
  obtain ⟨p, hp⟩ : ∃ p, p = decide (m < 0) := ⟨_, rfl⟩
  obtain ⟨q, hq⟩ : ∃ q, q = decide (m2 < 0) := ⟨_, rfl⟩
  have hV2 : V = decP (nrm ((if p then -(NX : Int) else (NX : Int)) + (if q then -(NY : Int) else (NY : Int))) 6) := by
    rw [hV, hp, hq]; simp
  rw [← hp] at HA
  rw [← hq] at HB
  have HV := Lib.hid hV2
  have HC := Lib.hid (two_boxes w m s m2 s2 27)
  obtain ⟨x1, hx1⟩ : ∃ a, a = NX / 1000000000 := ⟨_, rfl⟩
  obtain ⟨x0, hx0⟩ : ∃ a, a = NX % 1000000000 := ⟨_, rfl⟩
  obtain ⟨y1, hy1⟩ : ∃ a, a = NY / 1000000000 := ⟨_, rfl⟩
  obtain ⟨y0, hy0⟩ : ∃ a, a = NY % 1000000000 := ⟨_, rfl⟩
  have hwx : wid NX = .agg #[.int .i64 (x1 : Int), .int .i64 (x0 : Int)] := by rw [hx1, hx0]; rfl
  have hwy : wid NY = .agg #[.int .i64 (y1 : Int), .int .i64 (y0 : Int)] := by rw [hy1, hy0]; rfl
  have HAB := Lib.hid (fun w => above_any w NX NY)
  rw [hwx] at HA HAB
  rw [hwy] at HB HAB
  have HXY := Lib.hid (And.intro hx1 (And.intro hx0 (And.intro hy1 (And.intro hy0 (show Under20 NX ∧ Under20 NY by unfold Under20; omega)))))
  have hx1i : (x1 : Int) ≤ 1000000000000 := by omega
  have hy1i : (y1 : Int) ≤ 1000000000000 := by omega
  have hx0i : (x0 : Int) ≤ 999999999 := by omega
  have hy0i : (y0 : Int) ≤ 999999999 := by omega
  clear hV hv hV2 hp hq h h2 hNX hNY hx1 hx0 hy1 hy0 hwx hwy
  go_enter Tryd.func17, Tryd.ntmps17
  go_wp2_with fail
  generalize World.alloc (World.alloc (World.alloc w _) _) _ = w1 at HC ⊢
  obtain ⟨g0, ⟨a0, a1, a2, -, -⟩, ⟨b0, b1, b2, -, -⟩, -⟩ := HC.out
  go_wp2_with fail
  (with_reducible refine (HA.out _).mono ?_)
  rintro e w2 ⟨rfl, hb2⟩
  have HC2 := Lib.hid (HC.out.below hb2)
  clear hb2 g0 a0 a1 a2 b0 b1 b2
  obtain ⟨g0, ⟨a0, a1, a2, -, -⟩, ⟨b0, b1, b2, -, -⟩, -⟩ := HC2.out
  have HDX := Lib.hid (DecB.new w2 (x1 : Int) (x0 : Int) 64)
  have HC3 := Lib.hid (HC2.out.below ((Below.refl w2.heap.size w2).alloc (Nat.le_refl _) (.cells #[.int .i64 (x1 : Int), .int .i64 (x0 : Int)] 64)))
  have HBE := Lib.hid HC3.out.1
  go_wp2_with fail
  (with_reducible refine (HB.out _).mono ?_)
  rintro e w4 ⟨rfl, hb4⟩
  have HC4 := Lib.hid (HC3.out.below hb4)
  have HDX4 := Lib.hid (HDX.out.below hb4)
  have hbx0 : w.heap.size + 1 + 1 < w2.heap.size := by obtain ⟨-, -, -, m9, s9, h9, -⟩ := HC2.out; exact h9
  clear hb4 g0 a0 a1 a2 b0 b1 b2
  obtain ⟨bx, hbx⟩ : ∃ b, b = w2.heap.size := ⟨_, rfl⟩
  rw [← hbx] at HDX4 hbx0 ⊢
  clear hbx
  have HDY5 := Lib.hid (DecB.new w4 (y1 : Int) (y0 : Int) 64)
  have HDX5 := Lib.hid (HDX4.out.below ((Below.refl w4.heap.size w4).alloc (Nat.le_refl _) (.cells #[.int .i64 (y1 : Int), .int .i64 (y0 : Int)] 64)))
  have HC5 := Lib.hid (HC4.out.below ((Below.refl w4.heap.size w4).alloc (Nat.le_refl _) (.cells #[.int .i64 (y1 : Int), .int .i64 (y0 : Int)] 64)))
  have hby0 : bx < w4.heap.size := HDX4.out.1
  have HBX := Lib.hid (And.intro hbx0 hby0)
  obtain ⟨c0, c1, c2, c3, c4⟩ := HDX4.out
  rcases Bool.eq_false_or_eq_true p with rfl | rfl
  · rcases Bool.eq_false_or_eq_true q with rfl | rfl
    · have HW := Lib.hid (fun w => whole_any w (NX + NY) true (by obtain ⟨-, -, -, -, k1, k2⟩ := HXY.out; unfold Under20 at k1 k2; omega))
      rw [← wid_eq (NX + NY) ((x1 : Int) + y1 + ((x0 : Int) + y0) / 1000000000) (((x0 : Int) + y0) % 1000000000) (by obtain ⟨k1, k2, k3, k4, -⟩ := HXY.out; omega) (by obtain ⟨k1, k2, k3, k4, -⟩ := HXY.out; omega)] at HW
      have hvn : V = decP (nrm (if true then -((NX + NY : Nat) : Int) else ((NX + NY : Nat) : Int)) 6) := by
        rw [HV.out]; congr 2 <;> (simp only [Bool.false_eq_true, if_false, if_true]; try omega)
      rw [← hvn, HVT.out] at HW
      clear hvn
      have HCE := Lib.hid HC5.out
      go_wp2_with fail
      (with_reducible refine (HW.out _).mono ?_)
      rintro e w8 ⟨rfl, hb8⟩
      have HB8 := Lib.hid (HCE.out.below hb8)
      obtain ⟨r0, -, -, m3, s3, r1, r2, r3, r4, r5⟩ := HB8.out
      clear hb8
      go_wp2_with fail
      exact bodyPost_ret (v := .tuple #[.agg #[.int .i64 vm, .int .i64 vs], .bool vb]) (by simp [results, Tryd.results17, go_sem, r1, r2, r3]) rfl ⟨by rw [HVT.out], (TwoS.put HB8.out).1⟩
    · rcases Nat.lt_or_ge NX NY with hcmp | hcmp
      · have HLE := Lib.hid hcmp
        clear hcmp
        by_cases hneg : (y0 : Int) < x0
        rotate_left
        · have HW := Lib.hid (fun w => whole_any w (NY - NX) false (by obtain ⟨-, -, -, -, k1, k2⟩ := HXY.out; unfold Under20 at k1 k2; omega))
          rw [← wid_eq (NY - NX) ((y1 : Int) - x1) ((y0 : Int) - x0) (by obtain ⟨k1, k2, k3, k4, -⟩ := HXY.out; have := HLE.out; omega) (by obtain ⟨k1, k2, k3, k4, -⟩ := HXY.out; have := HLE.out; omega)] at HW
          have hvn : V = decP (nrm (if false then -((NY - NX : Nat) : Int) else ((NY - NX : Nat) : Int)) 6) := by
            rw [HV.out]; congr 2; simp only [Bool.false_eq_true, if_false, if_true]; have := HLE.out; omega
          rw [← hvn, HVT.out] at HW
          clear hvn
          go_wp2_with fail
          (with_reducible refine (HAB.out _).mono ?_)
          rintro e w6 ⟨rfl, hb6⟩
          have HC6 := Lib.hid (HC5.out.below hb6)
          have HDX6 := Lib.hid (HDX5.out.below hb6)
          have HDY6 := Lib.hid (HDY5.out.below hb6)
          obtain ⟨u0, u1, u2, u3, u4⟩ := HDX6.out
          obtain ⟨v0, v1, v2, v3, v4⟩ := HDY6.out
          clear hb6 c0 c1 c2 c3 c4
          have hcm : cmpI (NX : Int) (NY : Int) < 0 := by have := HLE.out; unfold cmpI; split <;> (try split) <;> omega
          have HC7 := Lib.hid (show TwoS w m s m2 s2 ((((w6.setCell ⟨bx, 0, none⟩ (.int .i64 (y1 : Int))).setCell ⟨bx, 1, none⟩ (.int .i64 (y0 : Int))).setCell ⟨w4.heap.size, 0, none⟩ (.int .i64 (x1 : Int))).setCell ⟨w4.heap.size, 1, none⟩ (.int .i64 (x0 : Int))) from (HC6.out.off (by have := HBX.out; omega)).off (by have := HBX.out; omega))
          have HCE := Lib.hid (HC7.out.below ((Below.refl _ _).alloc (Nat.le_refl _) (.cells #[.int .i64 ((y1 : Int) - x1), .int .i64 ((y0 : Int) - x0)] 64)))
          have hne : ¬ bx = w4.heap.size := by have := HBX.out; omega
          have hlo : ¬ ((y0 : Int) - x0) < 0 := by omega
          go_wp2_with fail
          (with_reducible refine (HW.out _).mono ?_)
          rintro e w8 ⟨rfl, hb8⟩
          have HB8 := Lib.hid (HCE.out.below hb8)
          obtain ⟨r0, -, -, m3, s3, r1, r2, r3, r4, r5⟩ := HB8.out
          clear hb8
          go_wp2_with fail
          exact bodyPost_ret (v := .tuple #[.agg #[.int .i64 vm, .int .i64 vs], .bool vb]) (by simp [results, Tryd.results17, go_sem, r1, r2, r3]) rfl ⟨by rw [HVT.out], (TwoS.put HB8.out).1⟩
        · have HW := Lib.hid (fun w => whole_any w (NY - NX) false (by obtain ⟨-, -, -, -, k1, k2⟩ := HXY.out; unfold Under20 at k1 k2; omega))
          rw [← wid_eq (NY - NX) ((y1 : Int) - x1 - 1) ((y0 : Int) - x0 + 1000000000) (by obtain ⟨k1, k2, k3, k4, -⟩ := HXY.out; have := HLE.out; omega) (by obtain ⟨k1, k2, k3, k4, -⟩ := HXY.out; have := HLE.out; omega)] at HW
          have hvn : V = decP (nrm (if false then -((NY - NX : Nat) : Int) else ((NY - NX : Nat) : Int)) 6) := by
            rw [HV.out]; congr 2; simp only [Bool.false_eq_true, if_false, if_true]; have := HLE.out; omega
          rw [← hvn, HVT.out] at HW
          clear hvn
          go_wp2_with fail
          (with_reducible refine (HAB.out _).mono ?_)
          rintro e w6 ⟨rfl, hb6⟩
          have HC6 := Lib.hid (HC5.out.below hb6)
          have HDX6 := Lib.hid (HDX5.out.below hb6)
          have HDY6 := Lib.hid (HDY5.out.below hb6)
          obtain ⟨u0, u1, u2, u3, u4⟩ := HDX6.out
          obtain ⟨v0, v1, v2, v3, v4⟩ := HDY6.out
          clear hb6 c0 c1 c2 c3 c4
          have hcm : cmpI (NX : Int) (NY : Int) < 0 := by have := HLE.out; unfold cmpI; split <;> (try split) <;> omega
          have HC7 := Lib.hid (show TwoS w m s m2 s2 ((((w6.setCell ⟨bx, 0, none⟩ (.int .i64 (y1 : Int))).setCell ⟨bx, 1, none⟩ (.int .i64 (y0 : Int))).setCell ⟨w4.heap.size, 0, none⟩ (.int .i64 (x1 : Int))).setCell ⟨w4.heap.size, 1, none⟩ (.int .i64 (x0 : Int))) from (HC6.out.off (by have := HBX.out; omega)).off (by have := HBX.out; omega))
          have HCE := Lib.hid (HC7.out.below ((Below.refl _ _).alloc (Nat.le_refl _) (.cells #[.int .i64 ((y1 : Int) - x1 - 1), .int .i64 ((y0 : Int) - x0 + 1000000000)] 64)))
          have hne : ¬ bx = w4.heap.size := by have := HBX.out; omega
          have hlo : ((y0 : Int) - x0) < 0 := by omega
          go_wp2_with fail
          (with_reducible refine (HW.out _).mono ?_)
          rintro e w8 ⟨rfl, hb8⟩
          have HB8 := Lib.hid (HCE.out.below hb8)
          obtain ⟨r0, -, -, m3, s3, r1, r2, r3, r4, r5⟩ := HB8.out
          clear hb8
          go_wp2_with fail
          exact bodyPost_ret (v := .tuple #[.agg #[.int .i64 vm, .int .i64 vs], .bool vb]) (by simp [results, Tryd.results17, go_sem, r1, r2, r3]) rfl ⟨by rw [HVT.out], (TwoS.put HB8.out).1⟩
      · have HLE := Lib.hid hcmp
        clear hcmp
        by_cases hneg : (x0 : Int) < y0
        rotate_left
        · have HW := Lib.hid (fun w => whole_any w (NX - NY) true (by obtain ⟨-, -, -, -, k1, k2⟩ := HXY.out; unfold Under20 at k1 k2; omega))
          rw [← wid_eq (NX - NY) ((x1 : Int) - y1) ((x0 : Int) - y0) (by obtain ⟨k1, k2, k3, k4, -⟩ := HXY.out; have := HLE.out; omega) (by obtain ⟨k1, k2, k3, k4, -⟩ := HXY.out; have := HLE.out; omega)] at HW
          have hvn : V = decP (nrm (if true then -((NX - NY : Nat) : Int) else ((NX - NY : Nat) : Int)) 6) := by
            rw [HV.out]; congr 2; simp only [Bool.false_eq_true, if_false, if_true]; have := HLE.out; omega
          rw [← hvn, HVT.out] at HW
          clear hvn
          go_wp2_with fail
          (with_reducible refine (HAB.out _).mono ?_)
          rintro e w6 ⟨rfl, hb6⟩
          have HC6 := Lib.hid (HC5.out.below hb6)
          have HDX6 := Lib.hid (HDX5.out.below hb6)
          have HDY6 := Lib.hid (HDY5.out.below hb6)
          obtain ⟨u0, u1, u2, u3, u4⟩ := HDX6.out
          obtain ⟨v0, v1, v2, v3, v4⟩ := HDY6.out
          clear hb6 c0 c1 c2 c3 c4
          have hcm : ¬ cmpI (NX : Int) (NY : Int) < 0 := by have := HLE.out; unfold cmpI; split <;> (try split) <;> omega
          have HCE := Lib.hid (HC6.out.below ((Below.refl w6.heap.size w6).alloc (Nat.le_refl _) (.cells #[.int .i64 ((x1 : Int) - y1), .int .i64 ((x0 : Int) - y0)] 64)))
          have hlo : ¬ ((x0 : Int) - y0) < 0 := by omega
          go_wp2_with fail
          (with_reducible refine (HW.out _).mono ?_)
          rintro e w8 ⟨rfl, hb8⟩
          have HB8 := Lib.hid (HCE.out.below hb8)
          obtain ⟨r0, -, -, m3, s3, r1, r2, r3, r4, r5⟩ := HB8.out
          clear hb8
          go_wp2_with fail
          exact bodyPost_ret (v := .tuple #[.agg #[.int .i64 vm, .int .i64 vs], .bool vb]) (by simp [results, Tryd.results17, go_sem, r1, r2, r3]) rfl ⟨by rw [HVT.out], (TwoS.put HB8.out).1⟩
        · have HW := Lib.hid (fun w => whole_any w (NX - NY) true (by obtain ⟨-, -, -, -, k1, k2⟩ := HXY.out; unfold Under20 at k1 k2; omega))
          rw [← wid_eq (NX - NY) ((x1 : Int) - y1 - 1) ((x0 : Int) - y0 + 1000000000) (by obtain ⟨k1, k2, k3, k4, -⟩ := HXY.out; have := HLE.out; omega) (by obtain ⟨k1, k2, k3, k4, -⟩ := HXY.out; have := HLE.out; omega)] at HW
          have hvn : V = decP (nrm (if true then -((NX - NY : Nat) : Int) else ((NX - NY : Nat) : Int)) 6) := by
            rw [HV.out]; congr 2; simp only [Bool.false_eq_true, if_false, if_true]; have := HLE.out; omega
          rw [← hvn, HVT.out] at HW
          clear hvn
          go_wp2_with fail
          (with_reducible refine (HAB.out _).mono ?_)
          rintro e w6 ⟨rfl, hb6⟩
          have HC6 := Lib.hid (HC5.out.below hb6)
          have HDX6 := Lib.hid (HDX5.out.below hb6)
          have HDY6 := Lib.hid (HDY5.out.below hb6)
          obtain ⟨u0, u1, u2, u3, u4⟩ := HDX6.out
          obtain ⟨v0, v1, v2, v3, v4⟩ := HDY6.out
          clear hb6 c0 c1 c2 c3 c4
          have hcm : ¬ cmpI (NX : Int) (NY : Int) < 0 := by have := HLE.out; unfold cmpI; split <;> (try split) <;> omega
          have HCE := Lib.hid (HC6.out.below ((Below.refl w6.heap.size w6).alloc (Nat.le_refl _) (.cells #[.int .i64 ((x1 : Int) - y1 - 1), .int .i64 ((x0 : Int) - y0 + 1000000000)] 64)))
          have hlo : ((x0 : Int) - y0) < 0 := by omega
          go_wp2_with fail
          (with_reducible refine (HW.out _).mono ?_)
          rintro e w8 ⟨rfl, hb8⟩
          have HB8 := Lib.hid (HCE.out.below hb8)
          obtain ⟨r0, -, -, m3, s3, r1, r2, r3, r4, r5⟩ := HB8.out
          clear hb8
          go_wp2_with fail
          exact bodyPost_ret (v := .tuple #[.agg #[.int .i64 vm, .int .i64 vs], .bool vb]) (by simp [results, Tryd.results17, go_sem, r1, r2, r3]) rfl ⟨by rw [HVT.out], (TwoS.put HB8.out).1⟩
  · rcases Bool.eq_false_or_eq_true q with rfl | rfl
    · rcases Nat.lt_or_ge NX NY with hcmp | hcmp
      · have HLE := Lib.hid hcmp
        clear hcmp
        by_cases hneg : (y0 : Int) < x0
        rotate_left
        · have HW := Lib.hid (fun w => whole_any w (NY - NX) true (by obtain ⟨-, -, -, -, k1, k2⟩ := HXY.out; unfold Under20 at k1 k2; omega))
          rw [← wid_eq (NY - NX) ((y1 : Int) - x1) ((y0 : Int) - x0) (by obtain ⟨k1, k2, k3, k4, -⟩ := HXY.out; have := HLE.out; omega) (by obtain ⟨k1, k2, k3, k4, -⟩ := HXY.out; have := HLE.out; omega)] at HW
          have hvn : V = decP (nrm (if true then -((NY - NX : Nat) : Int) else ((NY - NX : Nat) : Int)) 6) := by
            rw [HV.out]; congr 2; simp only [Bool.false_eq_true, if_false, if_true]; have := HLE.out; omega
          rw [← hvn, HVT.out] at HW
          clear hvn
          go_wp2_with fail
          (with_reducible refine (HAB.out _).mono ?_)
          rintro e w6 ⟨rfl, hb6⟩
          have HC6 := Lib.hid (HC5.out.below hb6)
          have HDX6 := Lib.hid (HDX5.out.below hb6)
          have HDY6 := Lib.hid (HDY5.out.below hb6)
          obtain ⟨u0, u1, u2, u3, u4⟩ := HDX6.out
          obtain ⟨v0, v1, v2, v3, v4⟩ := HDY6.out
          clear hb6 c0 c1 c2 c3 c4
          have hcm : cmpI (NX : Int) (NY : Int) < 0 := by have := HLE.out; unfold cmpI; split <;> (try split) <;> omega
          have HC7 := Lib.hid (show TwoS w m s m2 s2 ((((w6.setCell ⟨bx, 0, none⟩ (.int .i64 (y1 : Int))).setCell ⟨bx, 1, none⟩ (.int .i64 (y0 : Int))).setCell ⟨w4.heap.size, 0, none⟩ (.int .i64 (x1 : Int))).setCell ⟨w4.heap.size, 1, none⟩ (.int .i64 (x0 : Int))) from (HC6.out.off (by have := HBX.out; omega)).off (by have := HBX.out; omega))
          have HCE := Lib.hid (HC7.out.below ((Below.refl _ _).alloc (Nat.le_refl _) (.cells #[.int .i64 ((y1 : Int) - x1), .int .i64 ((y0 : Int) - x0)] 64)))
          have hne : ¬ bx = w4.heap.size := by have := HBX.out; omega
          have hlo : ¬ ((y0 : Int) - x0) < 0 := by omega
          go_wp2_with fail
          (with_reducible refine (HW.out _).mono ?_)
          rintro e w8 ⟨rfl, hb8⟩
          have HB8 := Lib.hid (HCE.out.below hb8)
          obtain ⟨r0, -, -, m3, s3, r1, r2, r3, r4, r5⟩ := HB8.out
          clear hb8
          go_wp2_with fail
          exact bodyPost_ret (v := .tuple #[.agg #[.int .i64 vm, .int .i64 vs], .bool vb]) (by simp [results, Tryd.results17, go_sem, r1, r2, r3]) rfl ⟨by rw [HVT.out], (TwoS.put HB8.out).1⟩
        · have HW := Lib.hid (fun w => whole_any w (NY - NX) true (by obtain ⟨-, -, -, -, k1, k2⟩ := HXY.out; unfold Under20 at k1 k2; omega))
          rw [← wid_eq (NY - NX) ((y1 : Int) - x1 - 1) ((y0 : Int) - x0 + 1000000000) (by obtain ⟨k1, k2, k3, k4, -⟩ := HXY.out; have := HLE.out; omega) (by obtain ⟨k1, k2, k3, k4, -⟩ := HXY.out; have := HLE.out; omega)] at HW
          have hvn : V = decP (nrm (if true then -((NY - NX : Nat) : Int) else ((NY - NX : Nat) : Int)) 6) := by
            rw [HV.out]; congr 2; simp only [Bool.false_eq_true, if_false, if_true]; have := HLE.out; omega
          rw [← hvn, HVT.out] at HW
          clear hvn
          go_wp2_with fail
          (with_reducible refine (HAB.out _).mono ?_)
          rintro e w6 ⟨rfl, hb6⟩
          have HC6 := Lib.hid (HC5.out.below hb6)
          have HDX6 := Lib.hid (HDX5.out.below hb6)
          have HDY6 := Lib.hid (HDY5.out.below hb6)
          obtain ⟨u0, u1, u2, u3, u4⟩ := HDX6.out
          obtain ⟨v0, v1, v2, v3, v4⟩ := HDY6.out
          clear hb6 c0 c1 c2 c3 c4
          have hcm : cmpI (NX : Int) (NY : Int) < 0 := by have := HLE.out; unfold cmpI; split <;> (try split) <;> omega
          have HC7 := Lib.hid (show TwoS w m s m2 s2 ((((w6.setCell ⟨bx, 0, none⟩ (.int .i64 (y1 : Int))).setCell ⟨bx, 1, none⟩ (.int .i64 (y0 : Int))).setCell ⟨w4.heap.size, 0, none⟩ (.int .i64 (x1 : Int))).setCell ⟨w4.heap.size, 1, none⟩ (.int .i64 (x0 : Int))) from (HC6.out.off (by have := HBX.out; omega)).off (by have := HBX.out; omega))
          have HCE := Lib.hid (HC7.out.below ((Below.refl _ _).alloc (Nat.le_refl _) (.cells #[.int .i64 ((y1 : Int) - x1 - 1), .int .i64 ((y0 : Int) - x0 + 1000000000)] 64)))
          have hne : ¬ bx = w4.heap.size := by have := HBX.out; omega
          have hlo : ((y0 : Int) - x0) < 0 := by omega
          go_wp2_with fail
          (with_reducible refine (HW.out _).mono ?_)
          rintro e w8 ⟨rfl, hb8⟩
          have HB8 := Lib.hid (HCE.out.below hb8)
          obtain ⟨r0, -, -, m3, s3, r1, r2, r3, r4, r5⟩ := HB8.out
          clear hb8
          go_wp2_with fail
          exact bodyPost_ret (v := .tuple #[.agg #[.int .i64 vm, .int .i64 vs], .bool vb]) (by simp [results, Tryd.results17, go_sem, r1, r2, r3]) rfl ⟨by rw [HVT.out], (TwoS.put HB8.out).1⟩
      · have HLE := Lib.hid hcmp
        clear hcmp
        by_cases hneg : (x0 : Int) < y0
        rotate_left
        · have HW := Lib.hid (fun w => whole_any w (NX - NY) false (by obtain ⟨-, -, -, -, k1, k2⟩ := HXY.out; unfold Under20 at k1 k2; omega))
          rw [← wid_eq (NX - NY) ((x1 : Int) - y1) ((x0 : Int) - y0) (by obtain ⟨k1, k2, k3, k4, -⟩ := HXY.out; have := HLE.out; omega) (by obtain ⟨k1, k2, k3, k4, -⟩ := HXY.out; have := HLE.out; omega)] at HW
          have hvn : V = decP (nrm (if false then -((NX - NY : Nat) : Int) else ((NX - NY : Nat) : Int)) 6) := by
            rw [HV.out]; congr 2; simp only [Bool.false_eq_true, if_false, if_true]; have := HLE.out; omega
          rw [← hvn, HVT.out] at HW
          clear hvn
          go_wp2_with fail
          (with_reducible refine (HAB.out _).mono ?_)
          rintro e w6 ⟨rfl, hb6⟩
          have HC6 := Lib.hid (HC5.out.below hb6)
          have HDX6 := Lib.hid (HDX5.out.below hb6)
          have HDY6 := Lib.hid (HDY5.out.below hb6)
          obtain ⟨u0, u1, u2, u3, u4⟩ := HDX6.out
          obtain ⟨v0, v1, v2, v3, v4⟩ := HDY6.out
          clear hb6 c0 c1 c2 c3 c4
          have hcm : ¬ cmpI (NX : Int) (NY : Int) < 0 := by have := HLE.out; unfold cmpI; split <;> (try split) <;> omega
          have HCE := Lib.hid (HC6.out.below ((Below.refl w6.heap.size w6).alloc (Nat.le_refl _) (.cells #[.int .i64 ((x1 : Int) - y1), .int .i64 ((x0 : Int) - y0)] 64)))
          have hlo : ¬ ((x0 : Int) - y0) < 0 := by omega
          go_wp2_with fail
          (with_reducible refine (HW.out _).mono ?_)
          rintro e w8 ⟨rfl, hb8⟩
          have HB8 := Lib.hid (HCE.out.below hb8)
          obtain ⟨r0, -, -, m3, s3, r1, r2, r3, r4, r5⟩ := HB8.out
          clear hb8
          go_wp2_with fail
          exact bodyPost_ret (v := .tuple #[.agg #[.int .i64 vm, .int .i64 vs], .bool vb]) (by simp [results, Tryd.results17, go_sem, r1, r2, r3]) rfl ⟨by rw [HVT.out], (TwoS.put HB8.out).1⟩
        · have HW := Lib.hid (fun w => whole_any w (NX - NY) false (by obtain ⟨-, -, -, -, k1, k2⟩ := HXY.out; unfold Under20 at k1 k2; omega))
          rw [← wid_eq (NX - NY) ((x1 : Int) - y1 - 1) ((x0 : Int) - y0 + 1000000000) (by obtain ⟨k1, k2, k3, k4, -⟩ := HXY.out; have := HLE.out; omega) (by obtain ⟨k1, k2, k3, k4, -⟩ := HXY.out; have := HLE.out; omega)] at HW
          have hvn : V = decP (nrm (if false then -((NX - NY : Nat) : Int) else ((NX - NY : Nat) : Int)) 6) := by
            rw [HV.out]; congr 2; simp only [Bool.false_eq_true, if_false, if_true]; have := HLE.out; omega
          rw [← hvn, HVT.out] at HW
          clear hvn
          go_wp2_with fail
          (with_reducible refine (HAB.out _).mono ?_)
          rintro e w6 ⟨rfl, hb6⟩
          have HC6 := Lib.hid (HC5.out.below hb6)
          have HDX6 := Lib.hid (HDX5.out.below hb6)
          have HDY6 := Lib.hid (HDY5.out.below hb6)
          obtain ⟨u0, u1, u2, u3, u4⟩ := HDX6.out
          obtain ⟨v0, v1, v2, v3, v4⟩ := HDY6.out
          clear hb6 c0 c1 c2 c3 c4
          have hcm : ¬ cmpI (NX : Int) (NY : Int) < 0 := by have := HLE.out; unfold cmpI; split <;> (try split) <;> omega
          have HCE := Lib.hid (HC6.out.below ((Below.refl w6.heap.size w6).alloc (Nat.le_refl _) (.cells #[.int .i64 ((x1 : Int) - y1 - 1), .int .i64 ((x0 : Int) - y0 + 1000000000)] 64)))
          have hlo : ((x0 : Int) - y0) < 0 := by omega
          go_wp2_with fail
          (with_reducible refine (HW.out _).mono ?_)
          rintro e w8 ⟨rfl, hb8⟩
          have HB8 := Lib.hid (HCE.out.below hb8)
          obtain ⟨r0, -, -, m3, s3, r1, r2, r3, r4, r5⟩ := HB8.out
          clear hb8
          go_wp2_with fail
          exact bodyPost_ret (v := .tuple #[.agg #[.int .i64 vm, .int .i64 vs], .bool vb]) (by simp [results, Tryd.results17, go_sem, r1, r2, r3]) rfl ⟨by rw [HVT.out], (TwoS.put HB8.out).1⟩
    · have HW := Lib.hid (fun w => whole_any w (NX + NY) false (by obtain ⟨-, -, -, -, k1, k2⟩ := HXY.out; unfold Under20 at k1 k2; omega))
      rw [← wid_eq (NX + NY) ((x1 : Int) + y1 + ((x0 : Int) + y0) / 1000000000) (((x0 : Int) + y0) % 1000000000) (by obtain ⟨k1, k2, k3, k4, -⟩ := HXY.out; omega) (by obtain ⟨k1, k2, k3, k4, -⟩ := HXY.out; omega)] at HW
      have hvn : V = decP (nrm (if false then -((NX + NY : Nat) : Int) else ((NX + NY : Nat) : Int)) 6) := by
        rw [HV.out]; congr 2 <;> (simp only [Bool.false_eq_true, if_false, if_true]; try omega)
      rw [← hvn, HVT.out] at HW
      clear hvn
      have HCE := Lib.hid HC5.out
      go_wp2_with fail
      (with_reducible refine (HW.out _).mono ?_)
      rintro e w8 ⟨rfl, hb8⟩
      have HB8 := Lib.hid (HCE.out.below hb8)
      obtain ⟨r0, -, -, m3, s3, r1, r2, r3, r4, r5⟩ := HB8.out
      clear hb8
      go_wp2_with fail
      exact bodyPost_ret (v := .tuple #[.agg #[.int .i64 vm, .int .i64 vs], .bool vb]) (by simp [results, Tryd.results17, go_sem, r1, r2, r3]) rfl ⟨by rw [HVT.out], (TwoS.put HB8.out).1⟩

set_option maxHeartbeats 2000000 in
theorem rcmp_any (w : World) (m s m2 s2 : Int) (h : GoodD m s) (h2 : GoodD m2 s2) :
    Calls Tryd.prog 26 #[.agg #[.int .i64 m, .int .i64 s], .agg #[.int .i64 m2, .int .i64 s2]] w fun e w' =>
      e = .returned (.int .i64 (cmpI (sixI m s.toNat) (sixI m2 s2.toNat))) ∧ Below w.heap.size w w' := by
  obtain ⟨V, hV⟩ : ∃ V, V = cmpI (sixI m s.toNat) (sixI m2 s2.toNat) := ⟨_, rfl⟩
  rw [← hV]
  rw [six_size, six_size] at hV
  have HA := Lib.hid (fun w => sized_any w m s h)
  have HB := Lib.hid (fun w => sized_any w m2 s2 h2)
  obtain ⟨p, hp⟩ : ∃ p, p = decide (m < 0) := ⟨_, rfl⟩
  obtain ⟨q, hq⟩ : ∃ q, q = decide (m2 < 0) := ⟨_, rfl⟩
  have hz : (p = true → 0 < sizeN m s.toNat) ∧ (q = true → 0 < sizeN m2 s2.toNat) := by
    constructor
    · intro e
      have : m < 0 := by rw [hp] at e; exact of_decide_eq_true e
      exact Nat.mul_pos (by omega) (Nat.pow_pos (by decide))
    · intro e
      have : m2 < 0 := by rw [hq] at e; exact of_decide_eq_true e
      exact Nat.mul_pos (by omega) (Nat.pow_pos (by decide))
  generalize sizeN m s.toNat = NX at *
  generalize sizeN m2 s2.toNat = NY at *
  have hV2 : V = cmpI (if p then -(NX : Int) else (NX : Int)) (if q then -(NY : Int) else (NY : Int)) := by
    rw [hV, hp, hq]; simp
  rw [← hp] at HA
  rw [← hq] at HB
  have HV := Lib.hid hV2
  have HZ := Lib.hid hz
  have HC := Lib.hid (cmp_boxes w m s m2 s2 27)
  obtain ⟨x1, hx1⟩ : ∃ a, a = NX / 1000000000 := ⟨_, rfl⟩
  obtain ⟨x0, hx0⟩ : ∃ a, a = NX % 1000000000 := ⟨_, rfl⟩
  obtain ⟨y1, hy1⟩ : ∃ a, a = NY / 1000000000 := ⟨_, rfl⟩
  obtain ⟨y0, hy0⟩ : ∃ a, a = NY % 1000000000 := ⟨_, rfl⟩
  have hwx : wid NX = .agg #[.int .i64 (x1 : Int), .int .i64 (x0 : Int)] := by rw [hx1, hx0]; rfl
  have hwy : wid NY = .agg #[.int .i64 (y1 : Int), .int .i64 (y0 : Int)] := by rw [hy1, hy0]; rfl
  rw [hwx] at HA
  rw [hwy] at HB
  clear hV hV2 hp hq h h2 hx1 hx0 hy1 hy0 hz
  go_enter Tryd.func26, Tryd.ntmps26
  go_wp2_with fail
  generalize World.alloc (World.alloc w _) _ = w1 at HC ⊢
  obtain ⟨g0, ⟨a0, a1, a2, -, -⟩, ⟨b0, b1, b2, -, -⟩⟩ := HC.out
  go_wp2_with fail
  (with_reducible refine (HA.out _).mono ?_)
  rintro e w2 ⟨rfl, hb2⟩
  have HC2 := Lib.hid (HC.out.below hb2)
  clear hb2 g0 a0 a1 a2 b0 b1 b2
  obtain ⟨g0, ⟨a0, a1, a2, -, -⟩, ⟨b0, b1, b2, -, -⟩⟩ := HC2.out
  have HDX := Lib.hid (DecB.new w2 (x1 : Int) (x0 : Int) 64)
  have HC3 := Lib.hid (HC2.out.below ((Below.refl w2.heap.size w2).alloc (Nat.le_refl _) (.cells #[.int .i64 (x1 : Int), .int .i64 (x0 : Int)] 64)))
  go_wp2_with fail
  (with_reducible refine (HB.out _).mono ?_)
  rintro e w4 ⟨rfl, hb4⟩
  have HC4 := Lib.hid (HC3.out.below hb4)
  have HDX4 := Lib.hid (HDX.out.below hb4)
  clear hb4 g0 a0 a1 a2 b0 b1 b2
  obtain ⟨bx, hbx⟩ : ∃ b, b = w2.heap.size := ⟨_, rfl⟩
  rw [← hbx] at HDX4 ⊢
  clear hbx
  have HC5 := Lib.hid (HC4.out.below ((Below.refl w4.heap.size w4).alloc (Nat.le_refl _) (.cells #[.int .i64 (y1 : Int), .int .i64 (y0 : Int)] 64)))
  obtain ⟨c0, c1, c2, c3, c4⟩ := HDX4.out
  rcases Bool.eq_false_or_eq_true p with rfl | rfl
  · rcases Bool.eq_false_or_eq_true q with rfl | rfl
    · have HVN := Lib.hid (show V = cmpI (NY : Int) (NX : Int) by rw [HV.out]; simp only [Bool.false_eq_true, if_false, if_true]; exact cmp_negs _ _)
      have HAB := Lib.hid (fun w => above_any w NY NX)
      rw [hwx, hwy] at HAB
      go_wp2_with fail
      (with_reducible refine (HAB.out _).mono ?_)
      rintro e w6 ⟨rfl, hb6⟩
      have HC6 := Lib.hid (HC5.out.below hb6)
      clear hb6
      go_wp2_with fail
      go_ret
      exact ⟨by rw [HVN.out]; rfl, HC6.out.1⟩
    · go_wp2_with fail
      go_ret
      exact ⟨by rw [HV.out]; unfold cmpI; simp only [Bool.false_eq_true, if_false, if_true]; rw [if_pos (by have := HZ.out; simp at this; omega)]; rfl, HC5.out.1⟩
  · rcases Bool.eq_false_or_eq_true q with rfl | rfl
    · go_wp2_with fail
      go_ret
      exact ⟨by rw [HV.out]; unfold cmpI; simp only [Bool.false_eq_true, if_false, if_true]; rw [if_neg (by have := HZ.out; simp at this; omega), if_pos (by have := HZ.out; simp at this; omega)]; rfl, HC5.out.1⟩
    · have HVN := Lib.hid (show V = cmpI (NX : Int) (NY : Int) by rw [HV.out]; simp only [Bool.false_eq_true, if_false, if_true])
      have HAB := Lib.hid (fun w => above_any w NX NY)
      rw [hwx, hwy] at HAB
      go_wp2_with fail
      (with_reducible refine (HAB.out _).mono ?_)
      rintro e w6 ⟨rfl, hb6⟩
      have HC6 := Lib.hid (HC5.out.below hb6)
      clear hb6
      go_wp2_with fail
      go_ret
      exact ⟨by rw [HVN.out]; rfl, HC6.out.1⟩
end Go.Proofs.YtcaejheaojnmmaaDoor
