/- triadref4's Put. -/
import Derived.Test.YtcnfnpccbnnplaaMapIS
namespace Go.Proofs.Ytcnfnpccbnnplaa
open Go.RowKit Go.Maps
set_option maxRecDepth 100000

theorem und_k : Try.prog.underlying 3 = some (.int .i64) := by kernel_rfl
theorem und_e : Try.prog.underlying 9 = some .string := by kernel_rfl
theorem und_m : Try.prog.underlying 43 = some (.map 3 9) := by kernel_rfl
theorem zero_e (w : World) : (zeroValue 9).run Try.prog w = .ok (.string ByteArray.empty) w := by kernel_rfl

set_option maxHeartbeats 1000000 in
/-- Put at a page in use, of 504 bytes at most, within a transaction: the map alone has turned. -/
theorem rput_any (x : Nat) (cur : Array Value) (bT : Nat) (f : Int → Option ByteArray) (n : Nat) (i : Int) (v : Value) (l : List UInt8) (w : World) (hb : Blk w x cur 48) (h5 : cur[5]? = some (.map (some bT))) (h9 : cur[9]? = some (.bool true))
    (hm : Im Try.prog 3 9 w bT f n) (hv : Bs w v l) (hi : (Lit.int .i64 i).wf = true) (hl : l.length ≤ 504) (hf : (f i).isSome = true) (hn : n < maxLen) (hx : x ≠ bT) :
    Calls Try.prog 47 #[.pointer (some ⟨x, 0, none⟩), .int .i64 i, v] w fun e w' => e = .returned (.int .i64 0) ∧ Im Try.prog 3 9 w' bT (fun j => if j = i then some ⟨(l ++ zeros (504 - l.length)).toArray⟩ else f j) n ∧ Moved (· = bT) w w' := by
  obtain ⟨vo, vc, rfl, hv1, hv2, -⟩ := id hv
  have hv2' : vc ≤ 9223372036854775807 := hv2
  have hlx := hb.lt
  have c5 : w.cell? ⟨x, 5, none⟩ = some (.map (some bT)) := by rw [hb.cell]; exact h5
  have c9 : w.cell? ⟨x, 9, none⟩ = some (.bool true) := by rw [hb.cell]; exact h9
  have hlk := hm.look und_k und_e und_m (zero_e w) hi
  rw [hf] at hlk
  obtain ⟨S0, hS0⟩ : ∃ s, s = (f i).getD ByteArray.empty := ⟨_, rfl⟩
  rw [← hS0] at hlk
  have hmk := run_make_bytes 504 504 rfl (by omega)
  have hnb := Blk.new w (vbs (zeros 504)).toArray 5
  have hal : Below w.heap.size w (w.alloc (.cells (vbs (zeros 504)).toArray 5)) := (Below.refl _ w).alloc (Nat.le_refl _) _
  have hb' := hv.below hal
  have hps : (⟨(page l).toArray⟩ : ByteArray).size ≤ maxLen := by
    show (page l).toArray.size ≤ maxLen
    rw [List.size_toArray, page_length l hl]
    simp [maxLen]
  have HPS := Lib.hid hps
  have HAL := Lib.hid hal
  have HM := Lib.hid hm
  have HF := Lib.hid hf
  have HC5 := Lib.hid c5
  have HLX := Lib.hid hlx
  have HN := Lib.hid hn
  have HI := Lib.hid hi
  have HX := Lib.hid hx
  have hl' : (l.length : Int) ≤ 504 := by omega
  clear hps hS0 hb h5 h9 hm hv hf hal hlx hn hi hx
  go_enter Try.func47, Try.ntmps47
  go_wp2_with (with_reducible refine wpList_copy_new 504 rfl _ _ rfl _ (.slice vo l.length vc) l rfl rfl hb' hl hnb ?_; intro w1 hb1 hg1)
  have hbe := Lib.hid (HAL.out.grown hg1 (by simp) (fun q hq => by simp at hq; omega))
  have hown := hb1.own (base := w.heap.size) (Nat.le_refl _) (by rw [← page, page_length l hl]; simp [maxLen])
  rw [← page, page_length l hl] at hown
  have HOWN := Lib.hid hown
  have c5' : w1.cell? ⟨x, 5, none⟩ = some (.map (some bT)) := (World.cell?_of_block (a := ⟨x, 5, none⟩) (hbe.out.block x HLX.out)).trans HC5.out
  obtain ⟨w2, hup, him, htu⟩ := (HM.out.moved (Moved.of_below hbe.out.drew (fun _ => False)) (fun h => h)).store und_k und_e und_m HI.out ⟨(page l).toArray⟩ HPS.out HN.out
  rw [if_pos HF.out] at him
  have HIM := Lib.hid him
  have HTM := Lib.hid (turned_moved htu)
  have HTU := Lib.hid ((Moved.of_below hbe.out.drew (· = bT)).trans (turned_moved htu) (fun j hj => .inl hj))
  have HBT := Lib.hid HM.out.lt
  obtain ⟨Z, hZ⟩ : ∃ Z : ByteArray, Z = ⟨(page l).toArray⟩ := ⟨_, rfl⟩
  rw [← hZ] at hup HIM
  have HZ := Lib.hid hZ
  clear hZ him htu hown hb1 hg1 hlk hmk hnb hb'
  refine wp_region_any (by kernel_rfl) ?_
  change wpAny _ _ _ _ _ _ _ (World.drew _)
  refine wpAny_of_held (S := fun (w' : World) => w'.cell? ⟨x, 5, none⟩ = some (.map (some bT)) ∧ Bs w' (.slice (some ⟨w.heap.size, 0, none⟩) 504 504) (page l)) _ _ _ _ ?_
  have hS : (fun (w' : World) => w'.cell? ⟨x, 5, none⟩ = some (.map (some bT)) ∧ Bs w' (.slice (some ⟨w.heap.size, 0, none⟩) 504 504) (page l)) _ := ⟨c5', HOWN.out.bs.drew⟩
  try simp only [Act.put, List.setIfInBounds_toArray, List.set_cons_zero, List.set_cons_succ]
  refine wpAnyH_take (i := 0) (oi := ⟨some 34, _, _, _, _, _⟩) (v := ?_) rfl (by kernel_rfl) (by kernel_rfl) (by kernel_rfl) (fun _ _ _ h => h) (Or.inl ⟨by rfl, ?_⟩) hS ?_
  rotate_left
  · intro wz hSw
    clear hSw
    go_simp
    first | done | with_reducible rfl
  try simp only [Act.put, List.setIfInBounds_toArray, List.set_cons_zero, List.set_cons_succ]
  refine wpAnyH_take (i := 1) (oi := ⟨some 35, _, _, _, _, _⟩) (v := ?_) rfl (by kernel_rfl) (by kernel_rfl) (by kernel_rfl) (fun _ _ _ h => h) (Or.inl ⟨by rfl, ?_⟩) hS ?_
  rotate_left
  · intro wz hSw
    clear hSw
    go_simp
    first | done | with_reducible rfl
  try simp only [Act.put, List.setIfInBounds_toArray, List.set_cons_zero, List.set_cons_succ]
  refine wpAnyH_take (i := 2) (oi := ⟨some 36, _, _, _, _, _⟩) (v := ?_) rfl (by kernel_rfl) (by kernel_rfl) (by kernel_rfl) (fun _ _ _ h => h) (Or.inl ⟨by rfl, ?_⟩) hS ?_
  rotate_left
  · intro wz hSw
    clear hSw
    go_simp
    first | done | with_reducible rfl
  try simp only [Act.put, List.setIfInBounds_toArray, List.set_cons_zero, List.set_cons_succ]
  refine wpAnyH_take (i := 3) (oi := ⟨some 37, _, _, _, _, _⟩) (v := ?_) rfl (by kernel_rfl) (by kernel_rfl) (by kernel_rfl) (fun _ _ _ h => h) (Or.inl ⟨by rfl, ?_⟩) hS ?_
  rotate_left
  · intro wz hSw
    clear hSw
    go_simp
    first | done | with_reducible rfl
  try simp only [Act.put, List.setIfInBounds_toArray, List.set_cons_zero, List.set_cons_succ]
  refine wpAnyH_take (i := 4) (oi := ⟨some 38, _, _, _, _, _⟩) (v := ?_) rfl (by kernel_rfl) (by kernel_rfl) (by kernel_rfl) (fun _ _ _ h => h) (Or.inl ⟨by rfl, ?_⟩) hS ?_
  rotate_left
  · intro wz hSw
    (try dsimp only at hSw)
    (try go_split_ands)
    go_simp
    first | done | with_reducible rfl
  try simp only [Act.put, List.setIfInBounds_toArray, List.set_cons_zero, List.set_cons_succ]
  refine wpAnyH_take (i := 5) (oi := ⟨some 39, _, _, _, _, _⟩) (v := ?_) rfl (by kernel_rfl) (by kernel_rfl) (by kernel_rfl) (fun _ _ _ h => h) (Or.inl ⟨by rfl, ?_⟩) hS ?_
  rotate_left
  · intro wz hSw
    clear hSw
    go_simp
    first | done | with_reducible rfl
  try simp only [Act.put, List.setIfInBounds_toArray, List.set_cons_zero, List.set_cons_succ]
  refine wpAnyH_take (i := 6) (oi := ⟨some 40, _, _, _, _, _⟩) (v := ?_) rfl (by kernel_rfl) (by kernel_rfl) (by kernel_rfl) (fun _ _ _ h => h) (Or.inl ⟨by rfl, ?_⟩) hS ?_
  rotate_left
  · intro wz hSw
    clear hSw
    go_simp
    first | done | with_reducible rfl
  try simp only [Act.put, List.setIfInBounds_toArray, List.set_cons_zero, List.set_cons_succ]
  refine wpAnyH_take (i := 7) (oi := ⟨some 41, _, _, _, _, _⟩) (v := ?_) rfl (by kernel_rfl) (by kernel_rfl) (by kernel_rfl) (fun _ _ _ h => h) (Or.inl ⟨by rfl, ?_⟩) hS ?_
  rotate_left
  · intro wz hSw; have hcz := run_conv_bytes hSw.2; rw [← HZ.out] at hcz
    clear hSw
    go_simp
    first | done | with_reducible rfl
  try simp only [Act.put, List.setIfInBounds_toArray, List.set_cons_zero, List.set_cons_succ]
  refine wpAnyH_ready (rs := [8]) (by kernel_rfl) (by simp) ?_
  refine AllReadyH.cons (o := ⟨none, _, _, _, _, _⟩) rfl (fun K hK => ?_) AllReadyH.nil
  go_simp
  refine hK.out _ _ (⟨(World.cell?_of_block (a := ⟨x, 5, none⟩) (HTM.out.block x (Nat.lt_of_lt_of_le HLX.out hbe.out.size) HX.out)).trans c5', HOWN.out.bs.drew.moved HTM.out (fun q hq e => by have := (HOWN.out.lt q hq).1; have := HBT.out; omega)⟩) (fun hS => ?_)
  clear hK K
  try simp only [Act.put, List.setIfInBounds_toArray, List.set_cons_zero, List.set_cons_succ]
  refine wpAnyH_done (by kernel_rfl) ?_ _
  go_wp2_with fail
  go_ret
  refine ⟨rfl, ?_, HTU.out⟩
  have := HIM.out
  rw [HZ.out] at this
  exact this
end Go.Proofs.Ytcnfnpccbnnplaa
