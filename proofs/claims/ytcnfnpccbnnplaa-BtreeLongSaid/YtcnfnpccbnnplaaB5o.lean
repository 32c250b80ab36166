/- place in a leaf; down to a leaf. -/
import Derived.Test.YtcnfnpccbnnplaaB5n
namespace Go.Proofs.Ytcnfnpccbnnplaa
open Go.RowKit Go.Maps
set_option maxRecDepth 100000
set_option linter.unusedVariables false

/-- Where a key stands in a leaf, or would. -/
def PlaceOf (es : List Ent) (key : ByteArray) (m : Nat) : Prop := m ≤ es.length ∧ (m = es.length ∨ geK es key m = true) ∧ (m = 0 ∨ geK es key (m - 1) = false)

set_option maxHeartbeats 2000000 in
theorem place_leaf (pv : Value) (at' : Int) (v : Value) (es : List Ent) (key : ByteArray) (w : World) (hes : Ens w v es) (hn : es.length ≤ 10000) :
    Calls Try.prog 133 #[pv, nodeV at' 0 v, .string key] w fun e w' => ∃ m : Nat, e = .returned (.tuple #[.int .i64 m, .int .i64 0]) ∧ PlaceOf es key m ∧ Below w.heap.size w w' := by
  obtain ⟨ao, cap, rfl, hc1, hc2⟩ := hes.form
  obtain ⟨n, hn'⟩ : ∃ n, n = es.length := ⟨_, rfl⟩
  rw [← hn'] at hes hc1 hn ⊢
  have hal1 : Below w.heap.size w (w.alloc (.cells #[.int .i64 at', .int .i64 0, .slice ao n cap] 111)) := (Below.refl _ w).alloc (Nat.le_refl _) _
  have hb1 := Blk.new w #[.int .i64 at', .int .i64 0, .slice ao n cap] 111
  have hs1 : (w.alloc (.cells #[.int .i64 at', .int .i64 0, .slice ao n cap] 111)).heap.size = w.heap.size + 1 := by simp
  obtain ⟨w1, hw1⟩ : ∃ w1, w1 = w.alloc (.cells #[.int .i64 at', .int .i64 0, .slice ao n cap] 111) := ⟨_, rfl⟩
  rw [← hw1] at hal1 hb1 hs1
  have hal2 : Below w1.heap.size w1 (w1.alloc (.cells #[.string key] 9)) := (Below.refl _ w1).alloc (Nat.le_refl _) _
  have hb2 := Blk.new w1 #[.string key] 9
  obtain ⟨w2, hw2⟩ : ∃ w2, w2 = w1.alloc (.cells #[.string key] 9) := ⟨_, rfl⟩
  rw [← hw2] at hal2 hb2
  have hb12 := hb1.moved (Moved.of_below hal2 (fun _ => False)) (fun h => h)
  rw [hs1] at hb2
  have d1 : w2.cell? ⟨w.heap.size, 1, none⟩ = some (.int .i64 0) := by rw [hb12.cell]; rfl
  have d2 : w2.cell? ⟨w.heap.size, 2, none⟩ = some (.slice ao n cap) := by rw [hb12.cell]; rfl
  have d5 : w2.cell? ⟨w.heap.size + 1, 0, none⟩ = some (.string key) := by rw [hb2.cell]; rfl
  have HB := Lib.hid (hal1.trans (hal2.mono hal1.size))
  have hens2 : Ens w2 (.slice ao n cap) es := Ens.below (Ens.below hes hal1) hal2
  have hse := search_place n (by omega) (geK es key) (.pointer (some ⟨w.heap.size, 0, none⟩)) (.pointer (some ⟨w.heap.size + 1, 0, none⟩)) w2 (fun h hh w3 hb3 =>
    placeq_any _ _ _ es key h (by rw [← hn']; exact hh) w3 ((hb3.cell (World.block_lt_of_cell? w2 _ d2)).trans d2) ((hb3.cell (World.block_lt_of_cell? w2 _ d5)).trans d5) (Ens.below hens2 hb3))
  have HSE := Lib.hid hse
  have HW := Lib.hid (show w2 = (w.alloc (.cells #[.int .i64 at', .int .i64 0, .slice ao n cap] 111)).alloc (.cells #[.string key] 9) by rw [hw2, hw1])
  have HN := Lib.hid hn'
  have HS1 := Lib.hid hs1
  rw [HW.out] at d1 d2 d5
  unfold nodeV
  clear hes hn' hal1 hb1 hs1 hal2 hb2 hb12 hens2 hse hw1 hw2
  go_enter Try.func133, Try.ntmps133
  go_wp2_with fail
  rw [← HW.out]
  refine HSE.out.mono ?_
  rintro en w3 ⟨m, rfl, hm1, hm2, hm3, hb3⟩
  have HP := Lib.hid (show PlaceOf es key m from ⟨by rw [← HN.out]; exact hm1, by rw [← HN.out]; exact hm2, hm3⟩)
  have HB3 := Lib.hid (HB.out.trans (hb3.mono HB.out.size))
  clear hm1 hm2 hm3 hb3 HSE d1 d2 d5
  go_wp2_with fail
  go_ret2
  exact ⟨m, rfl, HP.out, HB3.out⟩

theorem Try.infoStep : (Try.prog.info? 113).map (fun i => (i.zero, i.size, i.bytes)) = some (some (.agg #[.int .i64 0, .int .i64 0, .slice none 0 0, .int .i64 0]), 4, 48) := by kernel_rfl

set_option maxHeartbeats 4000000 in
/-- down, where the node is a leaf. -/
theorem down_leaf (pv : Value) (at' : Int) (v : Value) (es : List Ent) (key : ByteArray) (w : World) (hes : Ens w v es) (hn : es.length ≤ 10000) :
    Calls Try.prog 119 #[pv, .slice none 0 0, nodeV at' 0 v, .string key] w fun e w' => ∃ (m g cap : Nat), e = .returned (.tuple #[.slice (some ⟨g, 0, none⟩) 1 cap, .int .i64 0]) ∧ PlaceOf es key m ∧ 1 ≤ cap ∧ cap ≤ 9223372036854775807 ∧
      w'.ownsRow w.heap.size 113 4 (.slice (some ⟨g, 0, none⟩) 1 cap) 1 [.int .i64 at', .int .i64 0, v, .int .i64 m] ∧ Below w.heap.size w w' := by
  obtain ⟨ao, cap, rfl, hc1, hc2⟩ := hes.form
  obtain ⟨n, hn'⟩ : ∃ n, n = es.length := ⟨_, rfl⟩
  have hal1 : Below w.heap.size w (w.alloc (.cells #[.int .i64 at', .int .i64 0, .slice ao n cap] 111)) := (Below.refl _ w).alloc (Nat.le_refl _) _
  have hb1 := Blk.new w #[.int .i64 at', .int .i64 0, .slice ao n cap] 111
  have hpl := place_leaf pv at' _ es key _ (Ens.below hes hal1) hn
  rw [← hn'] at hes hc1 hn hpl ⊢
  have HPL := Lib.hid hpl
  have HAL := Lib.hid hal1
  have HB1 := Lib.hid hb1
  unfold nodeV at *
  clear hes hn' hal1 hpl
  have d0 : (w.alloc (.cells #[.int .i64 at', .int .i64 0, .slice ao n cap] 111)).cell? ⟨w.heap.size, 0, none⟩ = some (.int .i64 at') := by rw [hb1.cell]; rfl
  have d1 : (w.alloc (.cells #[.int .i64 at', .int .i64 0, .slice ao n cap] 111)).cell? ⟨w.heap.size, 1, none⟩ = some (.int .i64 0) := by rw [hb1.cell]; rfl
  have d2 : (w.alloc (.cells #[.int .i64 at', .int .i64 0, .slice ao n cap] 111)).cell? ⟨w.heap.size, 2, none⟩ = some (.slice ao n cap) := by rw [hb1.cell]; rfl
  clear hb1
  go_enter Try.func119, Try.ntmps119
  go_wp2_with fail
  go_step3
  go_wp2_with fail
  go_step3
  go_wp2_with fail
  refine HPL.out.mono ?_
  rintro en w2 ⟨m, rfl, hm, hb2⟩
  have hb := HB1.out.moved (Moved.of_below hb2 (fun _ => False)) (fun h => h)
  have e0 : w2.cell? ⟨w.heap.size, 0, none⟩ = some (.int .i64 at') := by rw [hb.cell]; rfl
  have e1 : w2.cell? ⟨w.heap.size, 1, none⟩ = some (.int .i64 0) := by rw [hb.cell]; rfl
  have e2 : w2.cell? ⟨w.heap.size, 2, none⟩ = some (.slice ao n cap) := by rw [hb.cell]; rfl
  have E1 := Lib.hid e1
  have HM := Lib.hid hm
  have HB2 := Lib.hid (HAL.out.trans (hb2.mono HAL.out.size))
  have hal3 : Below w2.heap.size w2 (w2.alloc (.cells #[.int .i64 at', .int .i64 0, .slice ao n cap, .int .i64 m] 113)) := (Below.refl _ w2).alloc (Nat.le_refl _) _
  have HB3 := Lib.hid (HB2.out.trans (hal3.mono HB2.out.size))
  have HBK := Lib.hid (Blk.new w2 #[.int .i64 at', .int .i64 0, .slice ao n cap, .int .i64 m] 113)
  have HLT := Lib.hid hb.lt
  have E13 := Lib.hid (show (w2.alloc (.cells #[.int .i64 at', .int .i64 0, .slice ao n cap, .int .i64 m] 113)).cell? ⟨w.heap.size, 1, none⟩ = some (.int .i64 0) from (hal3.cell (show (⟨w.heap.size, 1, none⟩ : Addr).block < _ from hb.lt)).trans e1)
  have hapd : ∀ (ty : TypeId), ∃ g cp w', (Builtin.append_ #[105, 105] ty #[.slice none 0 0, .slice (some ⟨w2.heap.size, 0, none⟩) 1 1]).run Try.prog (w2.alloc (.cells #[.int .i64 at', .int .i64 0, .slice ao n cap, .int .i64 m] 113)) = .ok (.slice (some ⟨g, 0, none⟩) 1 cp) w' ∧
      w'.ownsRow w.heap.size 113 4 (.slice (some ⟨g, 0, none⟩) 1 cp) 1 [.int .i64 at', .int .i64 0, .slice ao n cap, .int .i64 m] ∧ (w2.alloc (.cells #[.int .i64 at', .int .i64 0, .slice ao n cap, .int .i64 m] 113)).grownBy w' none ∧ 1 ≤ cp ∧ cp ≤ 9223372036854775807 := by
    intro ty
    obtain ⟨i0, hi, hz0, hz1, hz2⟩ := info_parts Try.infoStep
    obtain ⟨g, cp, w', hr, k1, k2, -, -⟩ := run_append_lies (P := Try.prog) (w2.alloc (.cells #[.int .i64 at', .int .i64 0, .slice ao n cap, .int .i64 m] 113)) 105 ty w.heap.size 113 i0 _ 4 48 Try.underlying105 hi hz0 hz1 hz2 rfl (by decide) (.slice none 0 0) 0 [] (World.ownsRow_nil _ _ _ _) ⟨w2.heap.size, 0, none⟩ 1 1 [.int .i64 at', .int .i64 0, .slice ao n cap, .int .i64 m] rfl
      (fun j u hj => by
        rw [show (⟨w2.heap.size, 0, none⟩ : Addr).add j = ⟨w2.heap.size, j, none⟩ from by unfold Addr.add; split <;> simp_all, HBK.out.cell]
        simpa using hj) (fun u hu => by simp at hu; rcases hu with rfl | rfl | rfl | rfl <;> rfl) (by decide) (by decide) (by decide) HB3.out.size _ rfl
    obtain ⟨aox, capx, ex, hx1, hx2⟩ := owns_form k1
    simp only [Value.slice.injEq] at ex
    obtain ⟨-, -, rfl⟩ := ex
    exact ⟨g, cp, w', hr, k1, k2, hx1, hx2⟩
  have HAPD := Lib.hid hapd
  clear hm hb2 hb hal3 hapd d0 d1 d2
  obtain ⟨g, cp, w5, hr5, ho5, hg5, hx5, hy5⟩ := HAPD.out 105
  have HR5 := Lib.hid hr5
  have f1 : w5.cell? ⟨w.heap.size, 1, none⟩ = some (.int .i64 0) := (hg5.cell_far ⟨w.heap.size, 1, none⟩ (Nat.lt_of_lt_of_le HLT.out (by simp)) (by simp)).trans E13.out
  have HO5 := Lib.hid ho5
  have HB5 := Lib.hid (HB3.out.grown hg5 HB3.out.size (fun q hq => by cases hq))
  clear hr5 ho5 hg5
  go_wp2_with (at_builtin; refine Lib.wpList_append_run _ rfl _ _ _ _ rfl _ _ rfl rfl _ _ HR5.out ?_)
  repeat rw [Exit.noGoto_ret]
  go_ret2
  exact ⟨m, g, cp, rfl, HM.out, hx5, hy5, HO5.out, HB5.out⟩
end Go.Proofs.Ytcnfnpccbnnplaa
