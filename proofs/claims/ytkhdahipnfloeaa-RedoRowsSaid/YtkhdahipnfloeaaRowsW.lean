/- The walk of the law RedoRows. -/
import Derived.Test.YtkhdahipnfloeaaSx
namespace Go.Proofs.Ytkhdahipnfloeaa
open Go.RowKit
set_option maxRecDepth 100000

theorem two_pus {w : World} {g g1 g2 : Nat} {v1 v2 : Value} {a1 a2 : Int} {b1 b2 : List UInt8} {S : Nat → Prop} (h : Blk w g #[.int .i64 a1, v1, .int .i64 a2, v2] 56) (h1 : Bs w v1 b1) (h2 : Bs w v2 b2) (e1 : v1.ownBlock = some g1) (e2 : v2.ownBlock = some g2) (s0 : S g) (s1 : S g1) (s2 : S g2) :
    Pus w S (.slice (some ⟨g, 0, none⟩) 2 2) [(a1, b1), (a2, b2)] := by
  refine ⟨_, 2, rfl, Nat.le_refl _, by simp [maxLen], fun k hk => ⟨g, 0, rfl, s0, ?_⟩⟩
  match k, hk with
  | 0, _ => exact ⟨h.cell 0, v1, h.cell 1, h1, fun q hq => by rw [e1] at hq; simp at hq; subst hq; exact s1⟩
  | 1, _ => exact ⟨h.cell 2, v2, h.cell 3, h2, fun q hq => by rw [e2] at hq; simp at hq; subst hq; exact s2⟩

theorem Sx.set {w0 w : World} {X : Nat → Prop} {r : Nat} {A : Ab} (h : Sx w0 w X r A) (p : Addr) (u : Value) (hX : X p.block) (hb : w0.heap.size ≤ p.block) : Sx w0 (w.setCell p u) X r A := by
  obtain ⟨h1, h2, P, h3, h4⟩ := h
  have hm : Moved (· = p.block) w (w.setCell p u) := (Moved.refl (· = p.block) w).setCell p u (.inl rfl)
  exact ⟨h1.trans (hm.below (fun j hj => by rw [hj]; exact hb) h1.size), fun k hk => Nat.lt_of_lt_of_le (h2 k hk) hm.size, P, h3.moved hm (fun k hk e => (h4 k hk).2.2 (by rw [e]; exact hX)), fun k hk => ⟨(h4 k hk).1, Nat.lt_of_lt_of_le (h4 k hk).2.1 hm.size, (h4 k hk).2.2⟩⟩

theorem bad820 {l : Pages} {A : Ab} (hA : A = Ab.new 820) (h : fitsOf 820 l = 1) : A.commit l = (1, A) := by
  subst hA
  have e : fitsOf (Ab.new 820).now.length l = 1 := by rw [show (Ab.new 820).now.length = 820 by simp [Ab.new]]; exact h
  rw [commit_bad (by rw [e]; decide), e]
def runOf (k : Nat) : Pages := (List.range k).map fun j : Nat => ((401 + j : Int), [])
theorem runOf_length (k : Nat) : (runOf k).length = k := by simp [runOf]
theorem runOf_succ (k : Nat) : runOf (k + 1) = runOf k ++ [(401 + (k : Int), [])] := by unfold runOf; rw [List.range_succ, List.map_append]; rfl
theorem fits_at {l : Pages} (i : Nat) (hi : i < l.length) (h4 : l.length ≤ 400) (h : ¬ (401 ≤ l[i].1 ∧ l[i].1 < 820 ∧ l[i].2.length ≤ 504)) : fitsOf 820 l = 1 := fits_bad hi h4 (by simpa using h)

set_option maxHeartbeats 4000000 in
theorem rows3_walk (x y : Int) (w : World) :
    Calls Try.prog 6 #[.int .i64 x, .int .i64 y] w fun e w' => e = .returned (.bool true) ∧ Below w.heap.size w w' := by
  obtain ⟨m, hm, hm9⟩ : ∃ m : Nat, withinOf y 9 = m ∧ m < 9 := ⟨(withinOf y 9).toNat, by have := within_range y 9 (by decide); omega, by have := within_range y 9 (by decide); omega⟩
  obtain ⟨c, hc, hc7⟩ : ∃ c : Nat, withinOf x 7 = c ∧ c < 7 := ⟨(withinOf x 7).toNat, by have := within_range x 7 (by decide); omega, by have := within_range x 7 (by decide); omega⟩
  have wy := within3_any y 9 (by decide) (by decide)
  have wx := within3_any x 7 (by decide) (by decide)
  rw [hm] at wy
  rw [hc] at wx
  have HX := Lib.hid wx
  have HY := Lib.hid wy
  clear wx wy hm hc
  go_enter Try.func6, Try.ntmps6
  go_wp2_with fail
  refine (l3_known _).mono ?_
  rintro e w1 ⟨rfl, hb1⟩
  go_wp2_with fail
  refine (HY.out _).mono ?_
  rintro e _ ⟨rfl, rfl⟩
  go_wp2_with fail
  refine (sx_new (w0 := w) (X := fun _ => False) 820 hb1 (fun _ h => h.elim)).mono ?_
  rintro e w2 ⟨r, rfl, h2, -⟩
  rw [show sizeOf' 820 = 820 from rfl] at h2
  have H2 := Lib.hid h2
  clear h2 hb1 HY
  obtain ⟨A, hA⟩ : ∃ A, A = Ab.new 820 := ⟨_, rfl⟩
  rw [← hA] at H2
  have HA := Lib.hid hA
  clear hA
  go_wp2_with fail
  refine (HX.out _).mono ?_
  rintro e wz ⟨rfl, hwz⟩
  subst hwz
  clear HX
  have hal1 : Below w2.heap.size w2 (w2.alloc (.cells #[.int .u8 1] 5)) := (Below.refl _ w2).alloc (Nat.le_refl _) _
  have hal2 := hal1.alloc (Nat.le_trans (Nat.le_refl _) hal1.size) (.cells #[.int .u8 2] 5)
  have hal3 := hal2.alloc (Nat.le_trans (Nat.le_refl _) hal2.size) (.cells #[.int .i64 401, .slice (some ⟨w2.heap.size, 0, none⟩) 1 1, .int .i64 402, .slice (some ⟨w2.heap.size + 1, 0, none⟩) 1 1] 56)
  have b1 : Bs (((w2.alloc (.cells #[.int .u8 1] 5)).alloc (.cells #[.int .u8 2] 5)).alloc (.cells #[.int .i64 401, .slice (some ⟨w2.heap.size, 0, none⟩) 1 1, .int .i64 402, .slice (some ⟨w2.heap.size + 1, 0, none⟩) 1 1] 56)) (.slice (some ⟨w2.heap.size, 0, none⟩) 1 1) [1] :=
    ((Bs.one w2 1 _ rfl).below ((Below.refl _ _).alloc (Nat.le_refl _) _)).below ((Below.refl _ _).alloc (Nat.le_refl _) _)
  have b2 : Bs (((w2.alloc (.cells #[.int .u8 1] 5)).alloc (.cells #[.int .u8 2] 5)).alloc (.cells #[.int .i64 401, .slice (some ⟨w2.heap.size, 0, none⟩) 1 1, .int .i64 402, .slice (some ⟨w2.heap.size + 1, 0, none⟩) 1 1] 56)) (.slice (some ⟨w2.heap.size + 1, 0, none⟩) 1 1) [2] := by
    have := (Bs.one (w2.alloc (.cells #[.int .u8 1] 5)) 2 (.int .u8 2) rfl).below ((Below.refl _ _).alloc (Nat.le_refl _) (.cells #[.int .i64 401, .slice (some ⟨w2.heap.size, 0, none⟩) 1 1, .int .i64 402, .slice (some ⟨w2.heap.size + 1, 0, none⟩) 1 1] 56))
    simpa using this
  have b3 : Blk (((w2.alloc (.cells #[.int .u8 1] 5)).alloc (.cells #[.int .u8 2] 5)).alloc (.cells #[.int .i64 401, .slice (some ⟨w2.heap.size, 0, none⟩) 1 1, .int .i64 402, .slice (some ⟨w2.heap.size + 1, 0, none⟩) 1 1] 56)) (w2.heap.size + 1 + 1) #[.int .i64 401, .slice (some ⟨w2.heap.size, 0, none⟩) 1 1, .int .i64 402, .slice (some ⟨w2.heap.size + 1, 0, none⟩) 1 1] 56 := by
    have := Blk.new ((w2.alloc (.cells #[.int .u8 1] 5)).alloc (.cells #[.int .u8 2] 5)) #[.int .i64 401, .slice (some ⟨w2.heap.size, 0, none⟩) 1 1, .int .i64 402, .slice (some ⟨w2.heap.size + 1, 0, none⟩) 1 1] 56
    simpa using this
  have h3 := H2.out.take hal3
  have hsz3 : (((w2.alloc (.cells #[.int .u8 1] 5)).alloc (.cells #[.int .u8 2] 5)).alloc (.cells #[.int .i64 401, .slice (some ⟨w2.heap.size, 0, none⟩) 1 1, .int .i64 402, .slice (some ⟨w2.heap.size + 1, 0, none⟩) 1 1] 56)).heap.size = w2.heap.size + 3 := by simp
  have hw2 := H2.out.size
  rw [hsz3] at h3
  generalize hw3 : (((w2.alloc (.cells #[.int .u8 1] 5)).alloc (.cells #[.int .u8 2] 5)).alloc (.cells #[.int .i64 401, .slice (some ⟨w2.heap.size, 0, none⟩) 1 1, .int .i64 402, .slice (some ⟨w2.heap.size + 1, 0, none⟩) 1 1] 56)) = w3 at b1 b2 b3 h3 hsz3 ⊢
  obtain ⟨g1, hg1⟩ : ∃ g, g = w2.heap.size := ⟨_, rfl⟩
  obtain ⟨g2, hg2⟩ : ∃ g, g = g1 + 1 := ⟨_, rfl⟩
  obtain ⟨g, hg⟩ : ∃ g, g = g2 + 1 := ⟨_, rfl⟩
  rw [← hg1] at b1 b2 b3 h3 hsz3 hw2 ⊢
  rw [← hg2] at b2 b3 ⊢
  rw [← hg] at b3 ⊢
  obtain ⟨X, hX⟩ : ∃ X : Nat → Prop, X = fun k => False ∨ (g1 ≤ k ∧ k < g1 + 3) := ⟨_, rfl⟩
  rw [← hX] at h3
  have x1 : X g1 := by rw [hX]; exact .inr ⟨by omega, by omega⟩
  have x2 : X g2 := by rw [hX]; exact .inr ⟨by omega, by omega⟩
  have x3 : X g := by rw [hX]; exact .inr ⟨by omega, by omega⟩
  have hsm : Small A 100000 := by rw [HA.out]; exact new_small _ _
  have hop : A.ops = 0 := by rw [HA.out]; rfl
  have HSM := Lib.hid hsm
  have HOP := Lib.hid hop
  have H3 := Lib.hid h3
  have B1 := Lib.hid b1
  have B2 := Lib.hid b2
  have B3 := Lib.hid b3
  have X1 := Lib.hid x1
  have X2 := Lib.hid x2
  have X3 := Lib.hid x3
  have hng : g1 ≠ g ∧ g2 ≠ g ∧ w.heap.size ≤ g := by omega
  have HNG := Lib.hid hng
  clear hal1 hal2 hal3 b1 b2 h3 H2 hw3 x1 x2 x3 hsm hop hng hX hg hg2 hg1 hsz3 hw2
  have hc : c = 0 ∨ c = 1 ∨ c = 2 ∨ c = 3 ∨ c = 4 ∨ c = 5 ∨ c = 6 := by omega
  have cf := fun j => b3.frozen j
  have c0 : w3.cell? ⟨g, 0, none⟩ = some (.int .i64 401) := b3.cell 0
  have c1 : w3.cell? ⟨g, 1, none⟩ = some (.slice (some ⟨g1, 0, none⟩) 1 1) := b3.cell 1
  have c2 : w3.cell? ⟨g, 2, none⟩ = some (.int .i64 402) := b3.cell 2
  clear b3
  rcases hc with rfl | rfl | rfl | rfl | rfl | rfl | rfl
  · have hbad := bad820 HA.out (l := []) (by decide)
    have HBAD := Lib.hid hbad
    clear hbad c0 c1 c2 cf
    go_wp2_with fail
    refine (sx_commit _ [] (fun _ => False) H3.out (Pus.nil _ _) (fun _ h => h.elim) HSM.out).mono ?_
    rw [HBAD.out]
    rintro e w4 ⟨rfl, h4, -⟩
    go_wp2_with (go_at_call 31; refine (sx_ops h4).mono ?_; rw [HOP.out]; rintro e _ ⟨rfl, rfl⟩)
    go_ret
    exact ⟨rfl, h4.below⟩
  · obtain ⟨z, hz⟩ : ∃ z : Int, z = 400 - (m : Int) := ⟨_, rfl⟩
    have hbad := bad820 HA.out (l := [(401, [1]), (z, [2])]) (by subst hz; exact fits_at 1 (by simp) (by simp) (by simp; omega))
    have hm : Moved (· = g) w3 (w3.setCell ⟨g, 2, none⟩ (.int .i64 z)) := (Moved.refl (· = g) w3).setCell ⟨g, 2, none⟩ _ (.inl rfl)
    have hpu := two_pus (S := X) (B3.out.set 2 (.int .i64 z)) (B1.out.moved hm (fun k hk e => by simp [Value.ownBlock] at hk; have := HNG.out; omega)) (B2.out.moved hm (fun k hk e => by simp [Value.ownBlock] at hk; have := HNG.out; omega)) rfl rfl X3.out X1.out X2.out
    have hs4 := H3.out.set ⟨g, 2, none⟩ (.int .i64 z) X3.out HNG.out.2.2
    have HBAD := Lib.hid hbad
    have HPU := Lib.hid hpu
    have HS := Lib.hid hs4
    clear hbad hm hpu hs4
    subst hz
    go_wp2_with fail
    refine (sx_commit _ [(401, [1]), (400 - (m : Int), [2])] X HS.out HPU.out (fun g hg => .inr hg) HSM.out).mono ?_
    rw [HBAD.out]
    rintro e w4 ⟨rfl, h4, -⟩
    go_wp2_with (go_at_call 31; refine (sx_ops h4).mono ?_; rw [HOP.out]; rintro e _ ⟨rfl, rfl⟩)
    go_ret
    exact ⟨rfl, h4.below⟩
  · obtain ⟨z, hz⟩ : ∃ z : Int, z = 820 + (m : Int) := ⟨_, rfl⟩
    have hbad := bad820 HA.out (l := [(401, [1]), (z, [2])]) (by subst hz; exact fits_at 1 (by simp) (by simp) (by simp; omega))
    have hm : Moved (· = g) w3 (w3.setCell ⟨g, 2, none⟩ (.int .i64 z)) := (Moved.refl (· = g) w3).setCell ⟨g, 2, none⟩ _ (.inl rfl)
    have hpu := two_pus (S := X) (B3.out.set 2 (.int .i64 z)) (B1.out.moved hm (fun k hk e => by simp [Value.ownBlock] at hk; have := HNG.out; omega)) (B2.out.moved hm (fun k hk e => by simp [Value.ownBlock] at hk; have := HNG.out; omega)) rfl rfl X3.out X1.out X2.out
    have hs4 := H3.out.set ⟨g, 2, none⟩ (.int .i64 z) X3.out HNG.out.2.2
    have HBAD := Lib.hid hbad
    have HPU := Lib.hid hpu
    have HS := Lib.hid hs4
    clear hbad hm hpu hs4
    subst hz
    go_wp2_with fail
    refine (sx_commit _ [(401, [1]), (820 + (m : Int), [2])] X HS.out HPU.out (fun g hg => .inr hg) HSM.out).mono ?_
    rw [HBAD.out]
    rintro e w4 ⟨rfl, h4, -⟩
    go_wp2_with (go_at_call 31; refine (sx_ops h4).mono ?_; rw [HOP.out]; rintro e _ ⟨rfl, rfl⟩)
    go_ret
    exact ⟨rfl, h4.below⟩
  · obtain ⟨z, hz⟩ : ∃ z : Int, z = 401 := ⟨_, rfl⟩
    have hbad := bad820 HA.out (l := [(401, [1]), (z, [2])]) (by subst hz; exact fits_twice (i := 1) (j := 0) (by simp) (by omega) (by simp) rfl)
    have hm : Moved (· = g) w3 (w3.setCell ⟨g, 2, none⟩ (.int .i64 z)) := (Moved.refl (· = g) w3).setCell ⟨g, 2, none⟩ _ (.inl rfl)
    have hpu := two_pus (S := X) (B3.out.set 2 (.int .i64 z)) (B1.out.moved hm (fun k hk e => by simp [Value.ownBlock] at hk; have := HNG.out; omega)) (B2.out.moved hm (fun k hk e => by simp [Value.ownBlock] at hk; have := HNG.out; omega)) rfl rfl X3.out X1.out X2.out
    have hs4 := H3.out.set ⟨g, 2, none⟩ (.int .i64 z) X3.out HNG.out.2.2
    have HBAD := Lib.hid hbad
    have HPU := Lib.hid hpu
    have HS := Lib.hid hs4
    clear hbad hm hpu hs4
    subst hz
    go_wp2_with fail
    refine (sx_commit _ [(401, [1]), (401, [2])] X HS.out HPU.out (fun g hg => .inr hg) HSM.out).mono ?_
    rw [HBAD.out]
    rintro e w4 ⟨rfl, h4, -⟩
    go_wp2_with (go_at_call 31; refine (sx_ops h4).mono ?_; rw [HOP.out]; rintro e _ ⟨rfl, rfl⟩)
    go_ret
    exact ⟨rfl, h4.below⟩
  · have hmk := run_make_bytes (505 + m) (505 + m) (by omega) (by omega)
    have hnb := Blk.new w3 (vbs (zeros (505 + m))).toArray 5
    have hba : Bs (w3.alloc (.cells (vbs (zeros (505 + m))).toArray 5)) (.slice (some ⟨w3.heap.size, 0, none⟩) (505 + m) (505 + m)) (zeros (505 + m)) := Bs.made _ _ (by omega)
    have hal : Below w3.heap.size w3 (w3.alloc (.cells (vbs (zeros (505 + m))).toArray 5)) := (Below.refl _ _).alloc (Nat.le_refl _) _
    have hbad := bad820 HA.out (l := [(401, zeros (505 + m)), (402, [2])]) (fits_at 0 (by simp) (by simp) (by show ¬ (_ ∧ _ ∧ (zeros (505 + m)).length ≤ 504); rw [zeros_length]; omega))
    have hlt3 := B3.out.lt
    have h4 := H3.out.take hal
    have b3 := B3.out.moved (Moved.of_below hal (fun _ => False)) (fun h => h)
    have b2 := B2.out.below hal
    have cf' := fun j => b3.frozen j
    have d1 : (w3.alloc (.cells (vbs (zeros (505 + m))).toArray 5)).cell? ⟨g, 1, none⟩ = some (.slice (some ⟨g1, 0, none⟩) 1 1) := b3.cell 1
    have hsz4 : (w3.alloc (.cells (vbs (zeros (505 + m))).toArray 5)).heap.size = w3.heap.size + 1 := by simp
    rw [hsz4] at h4
    obtain ⟨Y, hY⟩ : ∃ Y : Nat → Prop, Y = fun k => X k ∨ (w3.heap.size ≤ k ∧ k < w3.heap.size + 1) := ⟨_, rfl⟩
    rw [← hY] at h4
    have y1 : Y w3.heap.size := by rw [hY]; exact .inr ⟨Nat.le_refl _, by omega⟩
    have y2 : Y g2 := by rw [hY]; exact .inl X2.out
    have y3 : Y g := by rw [hY]; exact .inl X3.out
    have hm : Moved (· = g) (w3.alloc (.cells (vbs (zeros (505 + m))).toArray 5)) ((w3.alloc (.cells (vbs (zeros (505 + m))).toArray 5)).setCell ⟨g, 1, none⟩ (.slice (some ⟨w3.heap.size, 0, none⟩) (505 + m) (505 + m))) := (Moved.refl (· = g) _).setCell ⟨g, 1, none⟩ _ (.inl rfl)
    have hpu := two_pus (S := Y) (b3.set 1 (.slice (some ⟨w3.heap.size, 0, none⟩) (505 + m) (505 + m))) (hba.moved hm (fun k hk e => by simp [Value.ownBlock] at hk; omega)) (b2.moved hm (fun k hk e => by simp [Value.ownBlock] at hk; have := HNG.out; omega)) rfl rfl y3 y1 y2
    have hs4 := h4.set ⟨g, 1, none⟩ (.slice (some ⟨w3.heap.size, 0, none⟩) (505 + m) (505 + m)) y3 HNG.out.2.2
    have HBAD := Lib.hid hbad
    have HPU := Lib.hid hpu
    have HS := Lib.hid hs4
    clear hbad hm hpu hs4 hnb hba hal b3 b2 h4 hsz4 hlt3 hY y1 y2 y3 cf c0 c1 c2
    go_wp2_with fail
    refine (sx_commit _ [(401, zeros (505 + m)), (402, [2])] Y HS.out HPU.out (fun g hg => .inr hg) HSM.out).mono ?_
    rw [HBAD.out]
    rintro e w4 ⟨rfl, h4, -⟩
    go_wp2_with (go_at_call 31; refine (sx_ops h4).mono ?_; rw [HOP.out]; rintro e _ ⟨rfl, rfl⟩)
    go_ret
    exact ⟨rfl, h4.below⟩
  · clear c0 c1 c2 cf
    go_wp2_with fail
    go_loopw [6, 8] (fun lv i wr => ∃ k : Nat, k ≤ 401 + m ∧ i = .int .i64 k ∧ Below w3.heap.size w3 wr ∧ PRow (fun _ => False) w3.heap.size wr lv (runOf k)) (fun _ i _ => 401 + m - (intOf i).toNat)
    case atStart => exact ⟨0, Nat.zero_le _, rfl, Below.refl _ _, PRow.nil _ _ _⟩
    case round =>
      obtain ⟨k, hk, rfl, hb, hrow⟩ := hrel
      have HB := Lib.hid hb
      obtain ⟨so, cp, rfl, hcp1, hcp2⟩ := hrow.form
      have hlen : (runOf k).length = k := runOf_length k
      rw [hlen] at hcp1 hrow ⊢
      have HROW := Lib.hid hrow
      have hcp2' : cp ≤ 9223372036854775807 := hcp2
      clear hb hrow hcp2
      by_cases hlt : k < 401 + m
      · have hnext : (runOf (k + 1)) = (runOf k) ++ [(401 + (k : Int), [])] := runOf_succ k
        have HNX := Lib.hid hnext
        have hl30 : (runOf k).length ≤ 1073741824 := by rw [hlen]; omega
        have hal : Below wr.heap.size wr (wr.alloc (.cells #[.int .i64 (401 + (k : Int)), .slice none 0 0] 56)) := (Below.refl _ wr).alloc (Nat.le_refl _) _
        have hrowa := HROW.out.below hal
        have hbla := Blk.new wr #[.int .i64 (401 + (k : Int)), .slice none 0 0] 56
        have hba := HB.out.trans (hal.mono HB.out.size)
        have HROWA := Lib.hid hrowa
        have HBLA := Lib.hid hbla
        have HBA := Lib.hid hba
        have HL30 := Lib.hid hl30
        have HLEN := Lib.hid hlen
        have hlt' : (k : Int) < 401 + m := by omega
        clear hal hrowa hbla hba hnext hl30 hlen HROW
        go_wp2_with (at_builtin; refine wpList_append_pu rfl _ _ rfl (fun _ => False) w3.heap.size (fun _ h => h.elim) ?s1 (.slice so k cp) _ rfl HROWA.out _ rfl (401 + (k : Int)) _ [] (Bs.nil _) ?s2 HBLA.out HL30.out ?_)
        case s1 => exact HBA.out.size
        case s2 => intro q hq; simp [Value.ownBlock] at hq
        intro v8 w8 hv8 hg8 hq8
        have HB8 := Lib.hid (HBA.out.grown hg8 HBA.out.size hq8)
        have HV8 := Lib.hid hv8
        clear hv8 hg8 hq8 HROWA HBLA HBA
        go_wp2_with fail
        go_roundw
        case rel => exact ⟨k + 1, by omega, by go_num, HB8.out, by rw [HNX.out]; exact HV8.out⟩
        case measure => simp [intOf]; omega
      · obtain rfl : k = 401 + m := by omega
        have hft : fitsOf 820 (runOf (401 + m)) = 4 := by unfold fitsOf; rw [hlen, if_neg (by omega), if_pos (by omega)]
        have hbad : A.commit (runOf (401 + m)) = (4, A) := by
          have e : fitsOf A.now.length (runOf (401 + m)) = 4 := by rw [HA.out, show (Ab.new 820).now.length = 820 by simp [Ab.new]]; exact hft
          rw [commit_bad (by rw [e]; decide), e]
        have HBAD := Lib.hid hbad
        have HS := Lib.hid (H3.out.take HB.out)
        clear hft hbad hlen
        have hlt' : ¬ ((401 + m : Nat) : Int) < 401 + m := by omega
        go_wp2_with fail
        refine (sx_commit _ _ _ HS.out HROW.out.pus (fun g hg => .inr (.inr (hg.resolve_left id))) HSM.out).mono ?_
        rw [HBAD.out]
        rintro e w4 ⟨rfl, h4, -⟩
        go_wp2_with (go_at_call 31; refine (sx_ops h4).mono ?_; rw [HOP.out]; rintro e _ ⟨rfl, rfl⟩)
        go_ret
        exact ⟨rfl, h4.below⟩
  · have hlp : Pagess 820 [((401 : Int), ([1] : List UInt8)), (402, [2])] := (fits_iff _ _).1 (by decide)
    have hK : (List.replicate 820 (zeros 512)).length = 820 := List.length_replicate ..
    obtain ⟨q1, -, q2, -⟩ := commit_good (A := A) (K := List.replicate 820 (zeros 512)) (l := [(401, [1]), (402, [2])]) (by rw [HA.out]; exact new_synced _) (new_head _ (by omega)) (by rw [hK]; exact hlp) (by rw [HA.out]; rfl)
    rw [HOP.out] at q2
    have HQ1 := Lib.hid q1
    have HQ2 := Lib.hid (show (A.commit [(401, [1]), (402, [2])]).2.ops = 10 from q2)
    have hpu := two_pus (S := X) B3.out B1.out B2.out rfl rfl X3.out X1.out X2.out
    have HPU := Lib.hid hpu
    clear hlp hK q1 q2 hpu
    go_wp2_with fail
    refine (sx_commit _ [(401, [1]), (402, [2])] X H3.out HPU.out (fun g hg => .inr hg) HSM.out).mono ?_
    rw [HQ1.out]
    rintro e w4 ⟨rfl, h4, -⟩
    go_wp2_with (go_at_call 31; refine (sx_ops h4).mono ?_; rw [HQ2.out]; rintro e _ ⟨rfl, rfl⟩)
    go_ret
    exact ⟨rfl, h4.below⟩
end Go.Proofs.Ytkhdahipnfloeaa
