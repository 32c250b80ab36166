/- Three numbers in an order. -/
import Derived.Test.YtpfjbcfnpfgidaaDoorDa
namespace Go.Proofs.YtpfjbcfnpfgidaaDoor
open Go.RowKit
set_option maxRecDepth 100000
set_option linter.unusedVariables false
/-- What stands at a place of three. -/
def at3 (a b c : Int) (i : Nat) : Int := if i = 0 then a else if i = 1 then b else c
def at3i (a b c i : Int) : Int := at3 a b c i.toNat
/-- The six orders. -/
def Perm3 (i j k : Int) : Prop := (i = 0 ∧ j = 1 ∧ k = 2) ∨ (i = 0 ∧ j = 2 ∧ k = 1) ∨ (i = 1 ∧ j = 0 ∧ k = 2) ∨ (i = 1 ∧ j = 2 ∧ k = 0) ∨ (i = 2 ∧ j = 0 ∧ k = 1) ∨ (i = 2 ∧ j = 1 ∧ k = 0)
set_option maxHeartbeats 4000000 in
theorem of_012 (a b c : Int) (w : World) :
    Calls Tryd.prog 13 #[tri 0 1 2, tri a b c] w fun e w' => e = .returned (tri a b c) ∧ Below w.heap.size w w' := by
  unfold tri
  have b1 := ((Blk.new w #[.int .i64 0, .int .i64 1, .int .i64 2] 30).alloc (.cells #[.int .i64 a, .int .i64 b, .int .i64 c] 22)).alloc (.cells #[.int .i64 0, .int .i64 0, .int .i64 0] 22)
  have b2 := (Blk.new (w.alloc (.cells #[.int .i64 0, .int .i64 1, .int .i64 2] 30)) #[.int .i64 a, .int .i64 b, .int .i64 c] 22).alloc (.cells #[.int .i64 0, .int .i64 0, .int .i64 0] 22)
  have b3 := Blk.new ((w.alloc (.cells #[.int .i64 0, .int .i64 1, .int .i64 2] 30)).alloc (.cells #[.int .i64 a, .int .i64 b, .int .i64 c] 22)) #[.int .i64 0, .int .i64 0, .int .i64 0] 22
  have hb0 : Below w.heap.size w (((w.alloc (.cells #[.int .i64 0, .int .i64 1, .int .i64 2] 30)).alloc (.cells #[.int .i64 a, .int .i64 b, .int .i64 c] 22)).alloc (.cells #[.int .i64 0, .int .i64 0, .int .i64 0] 22)) :=
    (((Below.refl _ w).alloc (Nat.le_refl _) _).alloc (by simp) _).alloc (by simp; omega) _
  have hx2 : (w.alloc (.cells #[.int .i64 0, .int .i64 1, .int .i64 2] 30)).heap.size = w.heap.size + 1 := by simp
  have hx3 : ((w.alloc (.cells #[.int .i64 0, .int .i64 1, .int .i64 2] 30)).alloc (.cells #[.int .i64 a, .int .i64 b, .int .i64 c] 22)).heap.size = w.heap.size + 1 + 1 := by simp
  rw [hx2] at b2
  rw [hx3] at b3
  go_enter Tryd.func13, Tryd.ntmps13
  go_wp2_with fail
  generalize World.alloc (World.alloc (World.alloc w _) _) _ = w3 at b1 b2 b3 hb0 ⊢
  refine wp_region_any (by kernel_rfl) ?_
  change wpAny _ _ _ _ _ _ _ (World.drew _)
  refine wpAny_of_held (S := fun (w' : World) => Blk w' w.heap.size #[.int .i64 0, .int .i64 1, .int .i64 2] 30 ∧ Blk w' (w.heap.size + 1) #[.int .i64 a, .int .i64 b, .int .i64 c] 22) _ _ _ _ ?_
  have hS : (fun (w' : World) => Blk w' w.heap.size #[.int .i64 0, .int .i64 1, .int .i64 2] 30 ∧ Blk w' (w.heap.size + 1) #[.int .i64 a, .int .i64 b, .int .i64 c] 22) (World.drew w3) := ⟨b1.drew, b2.drew⟩
  have b3d := b3.drew
  have hb0d := hb0.drew
  generalize World.drew w3 = v3 at b3d hb0d hS ⊢
  try simp only [Act.put, List.setIfInBounds_toArray, List.set_cons_zero, List.set_cons_succ]
  refine wpAnyH_take (i := 0) (oi := ⟨some 5, _, _, _, _, _⟩) (v := ?_) rfl (by kernel_rfl) (by kernel_rfl) (by kernel_rfl) (fun _ _ _ h => h) (Or.inl ⟨by simp only [Region.wanted], ?_⟩) hS ?_
  rotate_left
  · intro wz hSw
    clear hSw
    go_simp
    first | done | with_reducible rfl
  try simp only [Act.put, List.setIfInBounds_toArray, List.set_cons_zero, List.set_cons_succ]
  refine wpAnyH_take (i := 1) (oi := ⟨some 6, _, _, _, _, _⟩) (v := ?_) rfl (by kernel_rfl) (by kernel_rfl) (by kernel_rfl) (fun _ _ _ h => h) (Or.inl ⟨by simp only [Region.wanted], ?_⟩) hS ?_
  rotate_left
  · intro wz hSw; have hc0 := hSw.1.cell 0; have hc1 := hSw.1.cell 1; have hc2 := hSw.1.cell 2; have hd0 := hSw.2.cell 0; have hd1 := hSw.2.cell 1; have hd2 := hSw.2.cell 2; simp only [List.getElem?_toArray, List.getElem?_cons_zero, List.getElem?_cons_succ] at hc0 hc1 hc2 hd0 hd1 hd2
    clear hSw
    go_simp
    first | done | with_reducible rfl
  try simp only [Act.put, List.setIfInBounds_toArray, List.set_cons_zero, List.set_cons_succ]
  refine wpAnyH_take (i := 2) (oi := ⟨some 7, _, _, _, _, _⟩) (v := ?_) rfl (by kernel_rfl) (by kernel_rfl) (by kernel_rfl) (fun _ _ _ h => h) (Or.inl ⟨by simp only [Region.wanted], ?_⟩) hS ?_
  rotate_left
  · intro wz hSw
    clear hSw
    go_simp
    first | done | with_reducible rfl
  try simp only [Act.put, List.setIfInBounds_toArray, List.set_cons_zero, List.set_cons_succ]
  refine wpAnyH_take (i := 3) (oi := ⟨some 8, _, _, _, _, _⟩) (v := ?_) rfl (by kernel_rfl) (by kernel_rfl) (by kernel_rfl) (fun _ _ _ h => h) (Or.inl ⟨by simp only [Region.wanted], ?_⟩) hS ?_
  rotate_left
  · intro wz hSw; have hc0 := hSw.1.cell 0; have hc1 := hSw.1.cell 1; have hc2 := hSw.1.cell 2; have hd0 := hSw.2.cell 0; have hd1 := hSw.2.cell 1; have hd2 := hSw.2.cell 2; simp only [List.getElem?_toArray, List.getElem?_cons_zero, List.getElem?_cons_succ] at hc0 hc1 hc2 hd0 hd1 hd2
    clear hSw
    go_simp
    first | done | with_reducible rfl
  try simp only [Act.put, List.setIfInBounds_toArray, List.set_cons_zero, List.set_cons_succ]
  refine wpAnyH_take (i := 4) (oi := ⟨some 9, _, _, _, _, _⟩) (v := ?_) rfl (by kernel_rfl) (by kernel_rfl) (by kernel_rfl) (fun _ _ _ h => h) (Or.inl ⟨by simp only [Region.wanted], ?_⟩) hS ?_
  rotate_left
  · intro wz hSw
    clear hSw
    go_simp
    first | done | with_reducible rfl
  try simp only [Act.put, List.setIfInBounds_toArray, List.set_cons_zero, List.set_cons_succ]
  refine wpAnyH_take (i := 5) (oi := ⟨some 10, _, _, _, _, _⟩) (v := ?_) rfl (by kernel_rfl) (by kernel_rfl) (by kernel_rfl) (fun _ _ _ h => h) (Or.inl ⟨by simp only [Region.wanted], ?_⟩) hS ?_
  rotate_left
  · intro wz hSw; have hc0 := hSw.1.cell 0; have hc1 := hSw.1.cell 1; have hc2 := hSw.1.cell 2; have hd0 := hSw.2.cell 0; have hd1 := hSw.2.cell 1; have hd2 := hSw.2.cell 2; simp only [List.getElem?_toArray, List.getElem?_cons_zero, List.getElem?_cons_succ] at hc0 hc1 hc2 hd0 hd1 hd2
    clear hSw
    go_simp
    first | done | with_reducible rfl
  try simp only [Act.put, List.setIfInBounds_toArray, List.set_cons_zero, List.set_cons_succ]
  refine wpAnyH_take (i := 6) (oi := ⟨some 11, _, _, _, _, _⟩) (v := ?_) rfl (by kernel_rfl) (by kernel_rfl) (by kernel_rfl) (fun _ _ _ h => h) (Or.inl ⟨by simp only [Region.wanted], ?_⟩) hS ?_
  rotate_left
  · intro wz hSw
    clear hSw
    go_simp
    first | done | with_reducible rfl
  try simp only [Act.put, List.setIfInBounds_toArray, List.set_cons_zero, List.set_cons_succ]
  refine wpAnyH_take (i := 7) (oi := ⟨some 12, _, _, _, _, _⟩) (v := ?_) rfl (by kernel_rfl) (by kernel_rfl) (by kernel_rfl) (fun _ _ _ h => h) (Or.inl ⟨by simp only [Region.wanted], ?_⟩) hS ?_
  rotate_left
  · intro wz hSw; have hc0 := hSw.1.cell 0; have hc1 := hSw.1.cell 1; have hc2 := hSw.1.cell 2; have hd0 := hSw.2.cell 0; have hd1 := hSw.2.cell 1; have hd2 := hSw.2.cell 2; simp only [List.getElem?_toArray, List.getElem?_cons_zero, List.getElem?_cons_succ] at hc0 hc1 hc2 hd0 hd1 hd2
    clear hSw
    go_simp
    first | done | with_reducible rfl
  try simp only [Act.put, List.setIfInBounds_toArray, List.set_cons_zero, List.set_cons_succ]
  refine wpAnyH_take (i := 8) (oi := ⟨some 13, _, _, _, _, _⟩) (v := ?_) rfl (by kernel_rfl) (by kernel_rfl) (by kernel_rfl) (fun _ _ _ h => h) (Or.inl ⟨by simp only [Region.wanted], ?_⟩) hS ?_
  rotate_left
  · intro wz hSw
    clear hSw
    go_simp
    first | done | with_reducible rfl
  try simp only [Act.put, List.setIfInBounds_toArray, List.set_cons_zero, List.set_cons_succ]
  refine wpAnyH_take (i := 9) (oi := ⟨some 14, _, _, _, _, _⟩) (v := ?_) rfl (by kernel_rfl) (by kernel_rfl) (by kernel_rfl) (fun _ _ _ h => h) (Or.inl ⟨by simp only [Region.wanted], ?_⟩) hS ?_
  rotate_left
  · intro wz hSw; have hc0 := hSw.1.cell 0; have hc1 := hSw.1.cell 1; have hc2 := hSw.1.cell 2; have hd0 := hSw.2.cell 0; have hd1 := hSw.2.cell 1; have hd2 := hSw.2.cell 2; simp only [List.getElem?_toArray, List.getElem?_cons_zero, List.getElem?_cons_succ] at hc0 hc1 hc2 hd0 hd1 hd2
    clear hSw
    go_simp
    first | done | with_reducible rfl
  try simp only [Act.put, List.setIfInBounds_toArray, List.set_cons_zero, List.set_cons_succ]
  refine wpAnyH_take (i := 10) (oi := ⟨some 15, _, _, _, _, _⟩) (v := ?_) rfl (by kernel_rfl) (by kernel_rfl) (by kernel_rfl) (fun _ _ _ h => h) (Or.inl ⟨by simp only [Region.wanted], ?_⟩) hS ?_
  rotate_left
  · intro wz hSw
    clear hSw
    go_simp
    first | done | with_reducible rfl
  try simp only [Act.put, List.setIfInBounds_toArray, List.set_cons_zero, List.set_cons_succ]
  refine wpAnyH_take (i := 11) (oi := ⟨some 16, _, _, _, _, _⟩) (v := ?_) rfl (by kernel_rfl) (by kernel_rfl) (by kernel_rfl) (fun _ _ _ h => h) (Or.inl ⟨by simp only [Region.wanted], ?_⟩) hS ?_
  rotate_left
  · intro wz hSw; have hc0 := hSw.1.cell 0; have hc1 := hSw.1.cell 1; have hc2 := hSw.1.cell 2; have hd0 := hSw.2.cell 0; have hd1 := hSw.2.cell 1; have hd2 := hSw.2.cell 2; simp only [List.getElem?_toArray, List.getElem?_cons_zero, List.getElem?_cons_succ] at hc0 hc1 hc2 hd0 hd1 hd2
    clear hSw
    go_simp
    first | done | with_reducible rfl
  try simp only [Act.put, List.setIfInBounds_toArray, List.set_cons_zero, List.set_cons_succ]
  refine wpAnyH_take (i := 12) (oi := ⟨some 17, _, _, _, _, _⟩) (v := ?_) rfl (by kernel_rfl) (by kernel_rfl) (by kernel_rfl) (fun _ _ _ h => h) (Or.inl ⟨by simp only [Region.wanted], ?_⟩) hS ?_
  rotate_left
  · intro wz hSw
    clear hSw
    go_simp
    first | done | with_reducible rfl
  try simp only [Act.put, List.setIfInBounds_toArray, List.set_cons_zero, List.set_cons_succ]
  refine wpAnyH_ready (rs := [13]) (by kernel_rfl) (by simp) ?_
  refine AllReadyH.cons (o := ⟨none, _, _, _, _, _⟩) rfl (fun K hK => ?_) AllReadyH.nil
  have n1 : w.heap.size ≠ w.heap.size + 1 + 1 := by omega
  have n2 : w.heap.size + 1 ≠ w.heap.size + 1 + 1 := by omega
  have b4 := b3d.set 0 (.int .i64 a)
  have b5 := b4.set 1 (.int .i64 b)
  have b6 := b5.set 2 (.int .i64 c)
  have q0 := b3d.cell 0
  have q1 := b4.cell 1
  have q2 := b5.cell 2
  have f0 := b3d.frozen 0
  have f1 := b4.frozen 1
  have f2 := b5.frozen 2
  simp only [List.setIfInBounds_toArray, List.set_cons_zero, List.set_cons_succ, List.getElem?_toArray, List.getElem?_cons_zero, List.getElem?_cons_succ] at b4 b5 b6 q0 q1 q2
  go_simp
  refine hK.out _ _ (⟨((hS.1.other _ _ n1).other _ _ n1).other _ _ n1, ((hS.2.other _ _ n2).other _ _ n2).other _ _ n2⟩) (fun hS => ?_)
  clear hK K
  try simp only [Act.put, List.setIfInBounds_toArray, List.set_cons_zero, List.set_cons_succ]
  have hbz : Below w.heap.size w (((v3.setCell ⟨w.heap.size + 1 + 1, 0, none⟩ (.int .i64 a)).setCell ⟨w.heap.size + 1 + 1, 1, none⟩ (.int .i64 b)).setCell ⟨w.heap.size + 1 + 1, 2, none⟩ (.int .i64 c)) := ((hb0d.setCell (by simp; omega) _).setCell (by simp; omega) _).setCell (by simp; omega) _
  clear q0 q1 q2 f0 f1 f2 b4 b5 hS
  generalize World.setCell _ _ _ = v6 at b6 hbz ⊢
  refine wpAnyH_done (by kernel_rfl) ?_ _
  have q0 := b6.cell 0
  have q1 := b6.cell 1
  have q2 := b6.cell 2
  simp only [List.getElem?_toArray, List.getElem?_cons_zero, List.getElem?_cons_succ] at q0 q1 q2
  go_wp2_with fail
  refine bodyPost_ret (v := .agg #[.int .i64 a, .int .i64 b, .int .i64 c]) ?_ rfl ⟨rfl, hbz⟩
  have hres : Tryd.f13.results = #[.cell 4 22] := by kernel_rfl
  simp only [results, hres]
  go_simp
set_option maxHeartbeats 4000000 in
theorem of_021 (a b c : Int) (w : World) :
    Calls Tryd.prog 13 #[tri 0 2 1, tri a b c] w fun e w' => e = .returned (tri a c b) ∧ Below w.heap.size w w' := by
  unfold tri
  have b1 := ((Blk.new w #[.int .i64 0, .int .i64 2, .int .i64 1] 30).alloc (.cells #[.int .i64 a, .int .i64 b, .int .i64 c] 22)).alloc (.cells #[.int .i64 0, .int .i64 0, .int .i64 0] 22)
  have b2 := (Blk.new (w.alloc (.cells #[.int .i64 0, .int .i64 2, .int .i64 1] 30)) #[.int .i64 a, .int .i64 b, .int .i64 c] 22).alloc (.cells #[.int .i64 0, .int .i64 0, .int .i64 0] 22)
  have b3 := Blk.new ((w.alloc (.cells #[.int .i64 0, .int .i64 2, .int .i64 1] 30)).alloc (.cells #[.int .i64 a, .int .i64 b, .int .i64 c] 22)) #[.int .i64 0, .int .i64 0, .int .i64 0] 22
  have hb0 : Below w.heap.size w (((w.alloc (.cells #[.int .i64 0, .int .i64 2, .int .i64 1] 30)).alloc (.cells #[.int .i64 a, .int .i64 b, .int .i64 c] 22)).alloc (.cells #[.int .i64 0, .int .i64 0, .int .i64 0] 22)) :=
    (((Below.refl _ w).alloc (Nat.le_refl _) _).alloc (by simp) _).alloc (by simp; omega) _
  have hx2 : (w.alloc (.cells #[.int .i64 0, .int .i64 2, .int .i64 1] 30)).heap.size = w.heap.size + 1 := by simp
  have hx3 : ((w.alloc (.cells #[.int .i64 0, .int .i64 2, .int .i64 1] 30)).alloc (.cells #[.int .i64 a, .int .i64 b, .int .i64 c] 22)).heap.size = w.heap.size + 1 + 1 := by simp
  rw [hx2] at b2
  rw [hx3] at b3
  go_enter Tryd.func13, Tryd.ntmps13
  go_wp2_with fail
  generalize World.alloc (World.alloc (World.alloc w _) _) _ = w3 at b1 b2 b3 hb0 ⊢
  refine wp_region_any (by kernel_rfl) ?_
  change wpAny _ _ _ _ _ _ _ (World.drew _)
  refine wpAny_of_held (S := fun (w' : World) => Blk w' w.heap.size #[.int .i64 0, .int .i64 2, .int .i64 1] 30 ∧ Blk w' (w.heap.size + 1) #[.int .i64 a, .int .i64 b, .int .i64 c] 22) _ _ _ _ ?_
  have hS : (fun (w' : World) => Blk w' w.heap.size #[.int .i64 0, .int .i64 2, .int .i64 1] 30 ∧ Blk w' (w.heap.size + 1) #[.int .i64 a, .int .i64 b, .int .i64 c] 22) (World.drew w3) := ⟨b1.drew, b2.drew⟩
  have b3d := b3.drew
  have hb0d := hb0.drew
  generalize World.drew w3 = v3 at b3d hb0d hS ⊢
  try simp only [Act.put, List.setIfInBounds_toArray, List.set_cons_zero, List.set_cons_succ]
  refine wpAnyH_take (i := 0) (oi := ⟨some 5, _, _, _, _, _⟩) (v := ?_) rfl (by kernel_rfl) (by kernel_rfl) (by kernel_rfl) (fun _ _ _ h => h) (Or.inl ⟨by simp only [Region.wanted], ?_⟩) hS ?_
  rotate_left
  · intro wz hSw
    clear hSw
    go_simp
    first | done | with_reducible rfl
  try simp only [Act.put, List.setIfInBounds_toArray, List.set_cons_zero, List.set_cons_succ]
  refine wpAnyH_take (i := 1) (oi := ⟨some 6, _, _, _, _, _⟩) (v := ?_) rfl (by kernel_rfl) (by kernel_rfl) (by kernel_rfl) (fun _ _ _ h => h) (Or.inl ⟨by simp only [Region.wanted], ?_⟩) hS ?_
  rotate_left
  · intro wz hSw; have hc0 := hSw.1.cell 0; have hc1 := hSw.1.cell 1; have hc2 := hSw.1.cell 2; have hd0 := hSw.2.cell 0; have hd1 := hSw.2.cell 1; have hd2 := hSw.2.cell 2; simp only [List.getElem?_toArray, List.getElem?_cons_zero, List.getElem?_cons_succ] at hc0 hc1 hc2 hd0 hd1 hd2
    clear hSw
    go_simp
    first | done | with_reducible rfl
  try simp only [Act.put, List.setIfInBounds_toArray, List.set_cons_zero, List.set_cons_succ]
  refine wpAnyH_take (i := 2) (oi := ⟨some 7, _, _, _, _, _⟩) (v := ?_) rfl (by kernel_rfl) (by kernel_rfl) (by kernel_rfl) (fun _ _ _ h => h) (Or.inl ⟨by simp only [Region.wanted], ?_⟩) hS ?_
  rotate_left
  · intro wz hSw
    clear hSw
    go_simp
    first | done | with_reducible rfl
  try simp only [Act.put, List.setIfInBounds_toArray, List.set_cons_zero, List.set_cons_succ]
  refine wpAnyH_take (i := 3) (oi := ⟨some 8, _, _, _, _, _⟩) (v := ?_) rfl (by kernel_rfl) (by kernel_rfl) (by kernel_rfl) (fun _ _ _ h => h) (Or.inl ⟨by simp only [Region.wanted], ?_⟩) hS ?_
  rotate_left
  · intro wz hSw; have hc0 := hSw.1.cell 0; have hc1 := hSw.1.cell 1; have hc2 := hSw.1.cell 2; have hd0 := hSw.2.cell 0; have hd1 := hSw.2.cell 1; have hd2 := hSw.2.cell 2; simp only [List.getElem?_toArray, List.getElem?_cons_zero, List.getElem?_cons_succ] at hc0 hc1 hc2 hd0 hd1 hd2
    clear hSw
    go_simp
    first | done | with_reducible rfl
  try simp only [Act.put, List.setIfInBounds_toArray, List.set_cons_zero, List.set_cons_succ]
  refine wpAnyH_take (i := 4) (oi := ⟨some 9, _, _, _, _, _⟩) (v := ?_) rfl (by kernel_rfl) (by kernel_rfl) (by kernel_rfl) (fun _ _ _ h => h) (Or.inl ⟨by simp only [Region.wanted], ?_⟩) hS ?_
  rotate_left
  · intro wz hSw
    clear hSw
    go_simp
    first | done | with_reducible rfl
  try simp only [Act.put, List.setIfInBounds_toArray, List.set_cons_zero, List.set_cons_succ]
  refine wpAnyH_take (i := 5) (oi := ⟨some 10, _, _, _, _, _⟩) (v := ?_) rfl (by kernel_rfl) (by kernel_rfl) (by kernel_rfl) (fun _ _ _ h => h) (Or.inl ⟨by simp only [Region.wanted], ?_⟩) hS ?_
  rotate_left
  · intro wz hSw; have hc0 := hSw.1.cell 0; have hc1 := hSw.1.cell 1; have hc2 := hSw.1.cell 2; have hd0 := hSw.2.cell 0; have hd1 := hSw.2.cell 1; have hd2 := hSw.2.cell 2; simp only [List.getElem?_toArray, List.getElem?_cons_zero, List.getElem?_cons_succ] at hc0 hc1 hc2 hd0 hd1 hd2
    clear hSw
    go_simp
    first | done | with_reducible rfl
  try simp only [Act.put, List.setIfInBounds_toArray, List.set_cons_zero, List.set_cons_succ]
  refine wpAnyH_take (i := 6) (oi := ⟨some 11, _, _, _, _, _⟩) (v := ?_) rfl (by kernel_rfl) (by kernel_rfl) (by kernel_rfl) (fun _ _ _ h => h) (Or.inl ⟨by simp only [Region.wanted], ?_⟩) hS ?_
  rotate_left
  · intro wz hSw
    clear hSw
    go_simp
    first | done | with_reducible rfl
  try simp only [Act.put, List.setIfInBounds_toArray, List.set_cons_zero, List.set_cons_succ]
  refine wpAnyH_take (i := 7) (oi := ⟨some 12, _, _, _, _, _⟩) (v := ?_) rfl (by kernel_rfl) (by kernel_rfl) (by kernel_rfl) (fun _ _ _ h => h) (Or.inl ⟨by simp only [Region.wanted], ?_⟩) hS ?_
  rotate_left
  · intro wz hSw; have hc0 := hSw.1.cell 0; have hc1 := hSw.1.cell 1; have hc2 := hSw.1.cell 2; have hd0 := hSw.2.cell 0; have hd1 := hSw.2.cell 1; have hd2 := hSw.2.cell 2; simp only [List.getElem?_toArray, List.getElem?_cons_zero, List.getElem?_cons_succ] at hc0 hc1 hc2 hd0 hd1 hd2
    clear hSw
    go_simp
    first | done | with_reducible rfl
  try simp only [Act.put, List.setIfInBounds_toArray, List.set_cons_zero, List.set_cons_succ]
  refine wpAnyH_take (i := 8) (oi := ⟨some 13, _, _, _, _, _⟩) (v := ?_) rfl (by kernel_rfl) (by kernel_rfl) (by kernel_rfl) (fun _ _ _ h => h) (Or.inl ⟨by simp only [Region.wanted], ?_⟩) hS ?_
  rotate_left
  · intro wz hSw
    clear hSw
    go_simp
    first | done | with_reducible rfl
  try simp only [Act.put, List.setIfInBounds_toArray, List.set_cons_zero, List.set_cons_succ]
  refine wpAnyH_take (i := 9) (oi := ⟨some 14, _, _, _, _, _⟩) (v := ?_) rfl (by kernel_rfl) (by kernel_rfl) (by kernel_rfl) (fun _ _ _ h => h) (Or.inl ⟨by simp only [Region.wanted], ?_⟩) hS ?_
  rotate_left
  · intro wz hSw; have hc0 := hSw.1.cell 0; have hc1 := hSw.1.cell 1; have hc2 := hSw.1.cell 2; have hd0 := hSw.2.cell 0; have hd1 := hSw.2.cell 1; have hd2 := hSw.2.cell 2; simp only [List.getElem?_toArray, List.getElem?_cons_zero, List.getElem?_cons_succ] at hc0 hc1 hc2 hd0 hd1 hd2
    clear hSw
    go_simp
    first | done | with_reducible rfl
  try simp only [Act.put, List.setIfInBounds_toArray, List.set_cons_zero, List.set_cons_succ]
  refine wpAnyH_take (i := 10) (oi := ⟨some 15, _, _, _, _, _⟩) (v := ?_) rfl (by kernel_rfl) (by kernel_rfl) (by kernel_rfl) (fun _ _ _ h => h) (Or.inl ⟨by simp only [Region.wanted], ?_⟩) hS ?_
  rotate_left
  · intro wz hSw
    clear hSw
    go_simp
    first | done | with_reducible rfl
  try simp only [Act.put, List.setIfInBounds_toArray, List.set_cons_zero, List.set_cons_succ]
  refine wpAnyH_take (i := 11) (oi := ⟨some 16, _, _, _, _, _⟩) (v := ?_) rfl (by kernel_rfl) (by kernel_rfl) (by kernel_rfl) (fun _ _ _ h => h) (Or.inl ⟨by simp only [Region.wanted], ?_⟩) hS ?_
  rotate_left
  · intro wz hSw; have hc0 := hSw.1.cell 0; have hc1 := hSw.1.cell 1; have hc2 := hSw.1.cell 2; have hd0 := hSw.2.cell 0; have hd1 := hSw.2.cell 1; have hd2 := hSw.2.cell 2; simp only [List.getElem?_toArray, List.getElem?_cons_zero, List.getElem?_cons_succ] at hc0 hc1 hc2 hd0 hd1 hd2
    clear hSw
    go_simp
    first | done | with_reducible rfl
  try simp only [Act.put, List.setIfInBounds_toArray, List.set_cons_zero, List.set_cons_succ]
  refine wpAnyH_take (i := 12) (oi := ⟨some 17, _, _, _, _, _⟩) (v := ?_) rfl (by kernel_rfl) (by kernel_rfl) (by kernel_rfl) (fun _ _ _ h => h) (Or.inl ⟨by simp only [Region.wanted], ?_⟩) hS ?_
  rotate_left
  · intro wz hSw
    clear hSw
    go_simp
    first | done | with_reducible rfl
  try simp only [Act.put, List.setIfInBounds_toArray, List.set_cons_zero, List.set_cons_succ]
  refine wpAnyH_ready (rs := [13]) (by kernel_rfl) (by simp) ?_
  refine AllReadyH.cons (o := ⟨none, _, _, _, _, _⟩) rfl (fun K hK => ?_) AllReadyH.nil
  have n1 : w.heap.size ≠ w.heap.size + 1 + 1 := by omega
  have n2 : w.heap.size + 1 ≠ w.heap.size + 1 + 1 := by omega
  have b4 := b3d.set 0 (.int .i64 a)
  have b5 := b4.set 1 (.int .i64 c)
  have b6 := b5.set 2 (.int .i64 b)
  have q0 := b3d.cell 0
  have q1 := b4.cell 1
  have q2 := b5.cell 2
  have f0 := b3d.frozen 0
  have f1 := b4.frozen 1
  have f2 := b5.frozen 2
  simp only [List.setIfInBounds_toArray, List.set_cons_zero, List.set_cons_succ, List.getElem?_toArray, List.getElem?_cons_zero, List.getElem?_cons_succ] at b4 b5 b6 q0 q1 q2
  go_simp
  refine hK.out _ _ (⟨((hS.1.other _ _ n1).other _ _ n1).other _ _ n1, ((hS.2.other _ _ n2).other _ _ n2).other _ _ n2⟩) (fun hS => ?_)
  clear hK K
  try simp only [Act.put, List.setIfInBounds_toArray, List.set_cons_zero, List.set_cons_succ]
  have hbz : Below w.heap.size w (((v3.setCell ⟨w.heap.size + 1 + 1, 0, none⟩ (.int .i64 a)).setCell ⟨w.heap.size + 1 + 1, 1, none⟩ (.int .i64 c)).setCell ⟨w.heap.size + 1 + 1, 2, none⟩ (.int .i64 b)) := ((hb0d.setCell (by simp; omega) _).setCell (by simp; omega) _).setCell (by simp; omega) _
  clear q0 q1 q2 f0 f1 f2 b4 b5 hS
  generalize World.setCell _ _ _ = v6 at b6 hbz ⊢
  refine wpAnyH_done (by kernel_rfl) ?_ _
  have q0 := b6.cell 0
  have q1 := b6.cell 1
  have q2 := b6.cell 2
  simp only [List.getElem?_toArray, List.getElem?_cons_zero, List.getElem?_cons_succ] at q0 q1 q2
  go_wp2_with fail
  refine bodyPost_ret (v := .agg #[.int .i64 a, .int .i64 c, .int .i64 b]) ?_ rfl ⟨rfl, hbz⟩
  have hres : Tryd.f13.results = #[.cell 4 22] := by kernel_rfl
  simp only [results, hres]
  go_simp
set_option maxHeartbeats 4000000 in
theorem of_102 (a b c : Int) (w : World) :
    Calls Tryd.prog 13 #[tri 1 0 2, tri a b c] w fun e w' => e = .returned (tri b a c) ∧ Below w.heap.size w w' := by
  unfold tri
  have b1 := ((Blk.new w #[.int .i64 1, .int .i64 0, .int .i64 2] 30).alloc (.cells #[.int .i64 a, .int .i64 b, .int .i64 c] 22)).alloc (.cells #[.int .i64 0, .int .i64 0, .int .i64 0] 22)
  have b2 := (Blk.new (w.alloc (.cells #[.int .i64 1, .int .i64 0, .int .i64 2] 30)) #[.int .i64 a, .int .i64 b, .int .i64 c] 22).alloc (.cells #[.int .i64 0, .int .i64 0, .int .i64 0] 22)
  have b3 := Blk.new ((w.alloc (.cells #[.int .i64 1, .int .i64 0, .int .i64 2] 30)).alloc (.cells #[.int .i64 a, .int .i64 b, .int .i64 c] 22)) #[.int .i64 0, .int .i64 0, .int .i64 0] 22
  have hb0 : Below w.heap.size w (((w.alloc (.cells #[.int .i64 1, .int .i64 0, .int .i64 2] 30)).alloc (.cells #[.int .i64 a, .int .i64 b, .int .i64 c] 22)).alloc (.cells #[.int .i64 0, .int .i64 0, .int .i64 0] 22)) :=
    (((Below.refl _ w).alloc (Nat.le_refl _) _).alloc (by simp) _).alloc (by simp; omega) _
  have hx2 : (w.alloc (.cells #[.int .i64 1, .int .i64 0, .int .i64 2] 30)).heap.size = w.heap.size + 1 := by simp
  have hx3 : ((w.alloc (.cells #[.int .i64 1, .int .i64 0, .int .i64 2] 30)).alloc (.cells #[.int .i64 a, .int .i64 b, .int .i64 c] 22)).heap.size = w.heap.size + 1 + 1 := by simp
  rw [hx2] at b2
  rw [hx3] at b3
  go_enter Tryd.func13, Tryd.ntmps13
  go_wp2_with fail
  generalize World.alloc (World.alloc (World.alloc w _) _) _ = w3 at b1 b2 b3 hb0 ⊢
  refine wp_region_any (by kernel_rfl) ?_
  change wpAny _ _ _ _ _ _ _ (World.drew _)
  refine wpAny_of_held (S := fun (w' : World) => Blk w' w.heap.size #[.int .i64 1, .int .i64 0, .int .i64 2] 30 ∧ Blk w' (w.heap.size + 1) #[.int .i64 a, .int .i64 b, .int .i64 c] 22) _ _ _ _ ?_
  have hS : (fun (w' : World) => Blk w' w.heap.size #[.int .i64 1, .int .i64 0, .int .i64 2] 30 ∧ Blk w' (w.heap.size + 1) #[.int .i64 a, .int .i64 b, .int .i64 c] 22) (World.drew w3) := ⟨b1.drew, b2.drew⟩
  have b3d := b3.drew
  have hb0d := hb0.drew
  generalize World.drew w3 = v3 at b3d hb0d hS ⊢
  try simp only [Act.put, List.setIfInBounds_toArray, List.set_cons_zero, List.set_cons_succ]
  refine wpAnyH_take (i := 0) (oi := ⟨some 5, _, _, _, _, _⟩) (v := ?_) rfl (by kernel_rfl) (by kernel_rfl) (by kernel_rfl) (fun _ _ _ h => h) (Or.inl ⟨by simp only [Region.wanted], ?_⟩) hS ?_
  rotate_left
  · intro wz hSw
    clear hSw
    go_simp
    first | done | with_reducible rfl
  try simp only [Act.put, List.setIfInBounds_toArray, List.set_cons_zero, List.set_cons_succ]
  refine wpAnyH_take (i := 1) (oi := ⟨some 6, _, _, _, _, _⟩) (v := ?_) rfl (by kernel_rfl) (by kernel_rfl) (by kernel_rfl) (fun _ _ _ h => h) (Or.inl ⟨by simp only [Region.wanted], ?_⟩) hS ?_
  rotate_left
  · intro wz hSw; have hc0 := hSw.1.cell 0; have hc1 := hSw.1.cell 1; have hc2 := hSw.1.cell 2; have hd0 := hSw.2.cell 0; have hd1 := hSw.2.cell 1; have hd2 := hSw.2.cell 2; simp only [List.getElem?_toArray, List.getElem?_cons_zero, List.getElem?_cons_succ] at hc0 hc1 hc2 hd0 hd1 hd2
    clear hSw
    go_simp
    first | done | with_reducible rfl
  try simp only [Act.put, List.setIfInBounds_toArray, List.set_cons_zero, List.set_cons_succ]
  refine wpAnyH_take (i := 2) (oi := ⟨some 7, _, _, _, _, _⟩) (v := ?_) rfl (by kernel_rfl) (by kernel_rfl) (by kernel_rfl) (fun _ _ _ h => h) (Or.inl ⟨by simp only [Region.wanted], ?_⟩) hS ?_
  rotate_left
  · intro wz hSw
    clear hSw
    go_simp
    first | done | with_reducible rfl
  try simp only [Act.put, List.setIfInBounds_toArray, List.set_cons_zero, List.set_cons_succ]
  refine wpAnyH_take (i := 3) (oi := ⟨some 8, _, _, _, _, _⟩) (v := ?_) rfl (by kernel_rfl) (by kernel_rfl) (by kernel_rfl) (fun _ _ _ h => h) (Or.inl ⟨by simp only [Region.wanted], ?_⟩) hS ?_
  rotate_left
  · intro wz hSw; have hc0 := hSw.1.cell 0; have hc1 := hSw.1.cell 1; have hc2 := hSw.1.cell 2; have hd0 := hSw.2.cell 0; have hd1 := hSw.2.cell 1; have hd2 := hSw.2.cell 2; simp only [List.getElem?_toArray, List.getElem?_cons_zero, List.getElem?_cons_succ] at hc0 hc1 hc2 hd0 hd1 hd2
    clear hSw
    go_simp
    first | done | with_reducible rfl
  try simp only [Act.put, List.setIfInBounds_toArray, List.set_cons_zero, List.set_cons_succ]
  refine wpAnyH_take (i := 4) (oi := ⟨some 9, _, _, _, _, _⟩) (v := ?_) rfl (by kernel_rfl) (by kernel_rfl) (by kernel_rfl) (fun _ _ _ h => h) (Or.inl ⟨by simp only [Region.wanted], ?_⟩) hS ?_
  rotate_left
  · intro wz hSw
    clear hSw
    go_simp
    first | done | with_reducible rfl
  try simp only [Act.put, List.setIfInBounds_toArray, List.set_cons_zero, List.set_cons_succ]
  refine wpAnyH_take (i := 5) (oi := ⟨some 10, _, _, _, _, _⟩) (v := ?_) rfl (by kernel_rfl) (by kernel_rfl) (by kernel_rfl) (fun _ _ _ h => h) (Or.inl ⟨by simp only [Region.wanted], ?_⟩) hS ?_
  rotate_left
  · intro wz hSw; have hc0 := hSw.1.cell 0; have hc1 := hSw.1.cell 1; have hc2 := hSw.1.cell 2; have hd0 := hSw.2.cell 0; have hd1 := hSw.2.cell 1; have hd2 := hSw.2.cell 2; simp only [List.getElem?_toArray, List.getElem?_cons_zero, List.getElem?_cons_succ] at hc0 hc1 hc2 hd0 hd1 hd2
    clear hSw
    go_simp
    first | done | with_reducible rfl
  try simp only [Act.put, List.setIfInBounds_toArray, List.set_cons_zero, List.set_cons_succ]
  refine wpAnyH_take (i := 6) (oi := ⟨some 11, _, _, _, _, _⟩) (v := ?_) rfl (by kernel_rfl) (by kernel_rfl) (by kernel_rfl) (fun _ _ _ h => h) (Or.inl ⟨by simp only [Region.wanted], ?_⟩) hS ?_
  rotate_left
  · intro wz hSw
    clear hSw
    go_simp
    first | done | with_reducible rfl
  try simp only [Act.put, List.setIfInBounds_toArray, List.set_cons_zero, List.set_cons_succ]
  refine wpAnyH_take (i := 7) (oi := ⟨some 12, _, _, _, _, _⟩) (v := ?_) rfl (by kernel_rfl) (by kernel_rfl) (by kernel_rfl) (fun _ _ _ h => h) (Or.inl ⟨by simp only [Region.wanted], ?_⟩) hS ?_
  rotate_left
  · intro wz hSw; have hc0 := hSw.1.cell 0; have hc1 := hSw.1.cell 1; have hc2 := hSw.1.cell 2; have hd0 := hSw.2.cell 0; have hd1 := hSw.2.cell 1; have hd2 := hSw.2.cell 2; simp only [List.getElem?_toArray, List.getElem?_cons_zero, List.getElem?_cons_succ] at hc0 hc1 hc2 hd0 hd1 hd2
    clear hSw
    go_simp
    first | done | with_reducible rfl
  try simp only [Act.put, List.setIfInBounds_toArray, List.set_cons_zero, List.set_cons_succ]
  refine wpAnyH_take (i := 8) (oi := ⟨some 13, _, _, _, _, _⟩) (v := ?_) rfl (by kernel_rfl) (by kernel_rfl) (by kernel_rfl) (fun _ _ _ h => h) (Or.inl ⟨by simp only [Region.wanted], ?_⟩) hS ?_
  rotate_left
  · intro wz hSw
    clear hSw
    go_simp
    first | done | with_reducible rfl
  try simp only [Act.put, List.setIfInBounds_toArray, List.set_cons_zero, List.set_cons_succ]
  refine wpAnyH_take (i := 9) (oi := ⟨some 14, _, _, _, _, _⟩) (v := ?_) rfl (by kernel_rfl) (by kernel_rfl) (by kernel_rfl) (fun _ _ _ h => h) (Or.inl ⟨by simp only [Region.wanted], ?_⟩) hS ?_
  rotate_left
  · intro wz hSw; have hc0 := hSw.1.cell 0; have hc1 := hSw.1.cell 1; have hc2 := hSw.1.cell 2; have hd0 := hSw.2.cell 0; have hd1 := hSw.2.cell 1; have hd2 := hSw.2.cell 2; simp only [List.getElem?_toArray, List.getElem?_cons_zero, List.getElem?_cons_succ] at hc0 hc1 hc2 hd0 hd1 hd2
    clear hSw
    go_simp
    first | done | with_reducible rfl
  try simp only [Act.put, List.setIfInBounds_toArray, List.set_cons_zero, List.set_cons_succ]
  refine wpAnyH_take (i := 10) (oi := ⟨some 15, _, _, _, _, _⟩) (v := ?_) rfl (by kernel_rfl) (by kernel_rfl) (by kernel_rfl) (fun _ _ _ h => h) (Or.inl ⟨by simp only [Region.wanted], ?_⟩) hS ?_
  rotate_left
  · intro wz hSw
    clear hSw
    go_simp
    first | done | with_reducible rfl
  try simp only [Act.put, List.setIfInBounds_toArray, List.set_cons_zero, List.set_cons_succ]
  refine wpAnyH_take (i := 11) (oi := ⟨some 16, _, _, _, _, _⟩) (v := ?_) rfl (by kernel_rfl) (by kernel_rfl) (by kernel_rfl) (fun _ _ _ h => h) (Or.inl ⟨by simp only [Region.wanted], ?_⟩) hS ?_
  rotate_left
  · intro wz hSw; have hc0 := hSw.1.cell 0; have hc1 := hSw.1.cell 1; have hc2 := hSw.1.cell 2; have hd0 := hSw.2.cell 0; have hd1 := hSw.2.cell 1; have hd2 := hSw.2.cell 2; simp only [List.getElem?_toArray, List.getElem?_cons_zero, List.getElem?_cons_succ] at hc0 hc1 hc2 hd0 hd1 hd2
    clear hSw
    go_simp
    first | done | with_reducible rfl
  try simp only [Act.put, List.setIfInBounds_toArray, List.set_cons_zero, List.set_cons_succ]
  refine wpAnyH_take (i := 12) (oi := ⟨some 17, _, _, _, _, _⟩) (v := ?_) rfl (by kernel_rfl) (by kernel_rfl) (by kernel_rfl) (fun _ _ _ h => h) (Or.inl ⟨by simp only [Region.wanted], ?_⟩) hS ?_
  rotate_left
  · intro wz hSw
    clear hSw
    go_simp
    first | done | with_reducible rfl
  try simp only [Act.put, List.setIfInBounds_toArray, List.set_cons_zero, List.set_cons_succ]
  refine wpAnyH_ready (rs := [13]) (by kernel_rfl) (by simp) ?_
  refine AllReadyH.cons (o := ⟨none, _, _, _, _, _⟩) rfl (fun K hK => ?_) AllReadyH.nil
  have n1 : w.heap.size ≠ w.heap.size + 1 + 1 := by omega
  have n2 : w.heap.size + 1 ≠ w.heap.size + 1 + 1 := by omega
  have b4 := b3d.set 0 (.int .i64 b)
  have b5 := b4.set 1 (.int .i64 a)
  have b6 := b5.set 2 (.int .i64 c)
  have q0 := b3d.cell 0
  have q1 := b4.cell 1
  have q2 := b5.cell 2
  have f0 := b3d.frozen 0
  have f1 := b4.frozen 1
  have f2 := b5.frozen 2
  simp only [List.setIfInBounds_toArray, List.set_cons_zero, List.set_cons_succ, List.getElem?_toArray, List.getElem?_cons_zero, List.getElem?_cons_succ] at b4 b5 b6 q0 q1 q2
  go_simp
  refine hK.out _ _ (⟨((hS.1.other _ _ n1).other _ _ n1).other _ _ n1, ((hS.2.other _ _ n2).other _ _ n2).other _ _ n2⟩) (fun hS => ?_)
  clear hK K
  try simp only [Act.put, List.setIfInBounds_toArray, List.set_cons_zero, List.set_cons_succ]
  have hbz : Below w.heap.size w (((v3.setCell ⟨w.heap.size + 1 + 1, 0, none⟩ (.int .i64 b)).setCell ⟨w.heap.size + 1 + 1, 1, none⟩ (.int .i64 a)).setCell ⟨w.heap.size + 1 + 1, 2, none⟩ (.int .i64 c)) := ((hb0d.setCell (by simp; omega) _).setCell (by simp; omega) _).setCell (by simp; omega) _
  clear q0 q1 q2 f0 f1 f2 b4 b5 hS
  generalize World.setCell _ _ _ = v6 at b6 hbz ⊢
  refine wpAnyH_done (by kernel_rfl) ?_ _
  have q0 := b6.cell 0
  have q1 := b6.cell 1
  have q2 := b6.cell 2
  simp only [List.getElem?_toArray, List.getElem?_cons_zero, List.getElem?_cons_succ] at q0 q1 q2
  go_wp2_with fail
  refine bodyPost_ret (v := .agg #[.int .i64 b, .int .i64 a, .int .i64 c]) ?_ rfl ⟨rfl, hbz⟩
  have hres : Tryd.f13.results = #[.cell 4 22] := by kernel_rfl
  simp only [results, hres]
  go_simp
set_option maxHeartbeats 4000000 in
theorem of_120 (a b c : Int) (w : World) :
    Calls Tryd.prog 13 #[tri 1 2 0, tri a b c] w fun e w' => e = .returned (tri b c a) ∧ Below w.heap.size w w' := by
  unfold tri
  have b1 := ((Blk.new w #[.int .i64 1, .int .i64 2, .int .i64 0] 30).alloc (.cells #[.int .i64 a, .int .i64 b, .int .i64 c] 22)).alloc (.cells #[.int .i64 0, .int .i64 0, .int .i64 0] 22)
  have b2 := (Blk.new (w.alloc (.cells #[.int .i64 1, .int .i64 2, .int .i64 0] 30)) #[.int .i64 a, .int .i64 b, .int .i64 c] 22).alloc (.cells #[.int .i64 0, .int .i64 0, .int .i64 0] 22)
  have b3 := Blk.new ((w.alloc (.cells #[.int .i64 1, .int .i64 2, .int .i64 0] 30)).alloc (.cells #[.int .i64 a, .int .i64 b, .int .i64 c] 22)) #[.int .i64 0, .int .i64 0, .int .i64 0] 22
  have hb0 : Below w.heap.size w (((w.alloc (.cells #[.int .i64 1, .int .i64 2, .int .i64 0] 30)).alloc (.cells #[.int .i64 a, .int .i64 b, .int .i64 c] 22)).alloc (.cells #[.int .i64 0, .int .i64 0, .int .i64 0] 22)) :=
    (((Below.refl _ w).alloc (Nat.le_refl _) _).alloc (by simp) _).alloc (by simp; omega) _
  have hx2 : (w.alloc (.cells #[.int .i64 1, .int .i64 2, .int .i64 0] 30)).heap.size = w.heap.size + 1 := by simp
  have hx3 : ((w.alloc (.cells #[.int .i64 1, .int .i64 2, .int .i64 0] 30)).alloc (.cells #[.int .i64 a, .int .i64 b, .int .i64 c] 22)).heap.size = w.heap.size + 1 + 1 := by simp
  rw [hx2] at b2
  rw [hx3] at b3
  go_enter Tryd.func13, Tryd.ntmps13
  go_wp2_with fail
  generalize World.alloc (World.alloc (World.alloc w _) _) _ = w3 at b1 b2 b3 hb0 ⊢
  refine wp_region_any (by kernel_rfl) ?_
  change wpAny _ _ _ _ _ _ _ (World.drew _)
  refine wpAny_of_held (S := fun (w' : World) => Blk w' w.heap.size #[.int .i64 1, .int .i64 2, .int .i64 0] 30 ∧ Blk w' (w.heap.size + 1) #[.int .i64 a, .int .i64 b, .int .i64 c] 22) _ _ _ _ ?_
  have hS : (fun (w' : World) => Blk w' w.heap.size #[.int .i64 1, .int .i64 2, .int .i64 0] 30 ∧ Blk w' (w.heap.size + 1) #[.int .i64 a, .int .i64 b, .int .i64 c] 22) (World.drew w3) := ⟨b1.drew, b2.drew⟩
  have b3d := b3.drew
  have hb0d := hb0.drew
  generalize World.drew w3 = v3 at b3d hb0d hS ⊢
  try simp only [Act.put, List.setIfInBounds_toArray, List.set_cons_zero, List.set_cons_succ]
  refine wpAnyH_take (i := 0) (oi := ⟨some 5, _, _, _, _, _⟩) (v := ?_) rfl (by kernel_rfl) (by kernel_rfl) (by kernel_rfl) (fun _ _ _ h => h) (Or.inl ⟨by simp only [Region.wanted], ?_⟩) hS ?_
  rotate_left
  · intro wz hSw
    clear hSw
    go_simp
    first | done | with_reducible rfl
  try simp only [Act.put, List.setIfInBounds_toArray, List.set_cons_zero, List.set_cons_succ]
  refine wpAnyH_take (i := 1) (oi := ⟨some 6, _, _, _, _, _⟩) (v := ?_) rfl (by kernel_rfl) (by kernel_rfl) (by kernel_rfl) (fun _ _ _ h => h) (Or.inl ⟨by simp only [Region.wanted], ?_⟩) hS ?_
  rotate_left
  · intro wz hSw; have hc0 := hSw.1.cell 0; have hc1 := hSw.1.cell 1; have hc2 := hSw.1.cell 2; have hd0 := hSw.2.cell 0; have hd1 := hSw.2.cell 1; have hd2 := hSw.2.cell 2; simp only [List.getElem?_toArray, List.getElem?_cons_zero, List.getElem?_cons_succ] at hc0 hc1 hc2 hd0 hd1 hd2
    clear hSw
    go_simp
    first | done | with_reducible rfl
  try simp only [Act.put, List.setIfInBounds_toArray, List.set_cons_zero, List.set_cons_succ]
  refine wpAnyH_take (i := 2) (oi := ⟨some 7, _, _, _, _, _⟩) (v := ?_) rfl (by kernel_rfl) (by kernel_rfl) (by kernel_rfl) (fun _ _ _ h => h) (Or.inl ⟨by simp only [Region.wanted], ?_⟩) hS ?_
  rotate_left
  · intro wz hSw
    clear hSw
    go_simp
    first | done | with_reducible rfl
  try simp only [Act.put, List.setIfInBounds_toArray, List.set_cons_zero, List.set_cons_succ]
  refine wpAnyH_take (i := 3) (oi := ⟨some 8, _, _, _, _, _⟩) (v := ?_) rfl (by kernel_rfl) (by kernel_rfl) (by kernel_rfl) (fun _ _ _ h => h) (Or.inl ⟨by simp only [Region.wanted], ?_⟩) hS ?_
  rotate_left
  · intro wz hSw; have hc0 := hSw.1.cell 0; have hc1 := hSw.1.cell 1; have hc2 := hSw.1.cell 2; have hd0 := hSw.2.cell 0; have hd1 := hSw.2.cell 1; have hd2 := hSw.2.cell 2; simp only [List.getElem?_toArray, List.getElem?_cons_zero, List.getElem?_cons_succ] at hc0 hc1 hc2 hd0 hd1 hd2
    clear hSw
    go_simp
    first | done | with_reducible rfl
  try simp only [Act.put, List.setIfInBounds_toArray, List.set_cons_zero, List.set_cons_succ]
  refine wpAnyH_take (i := 4) (oi := ⟨some 9, _, _, _, _, _⟩) (v := ?_) rfl (by kernel_rfl) (by kernel_rfl) (by kernel_rfl) (fun _ _ _ h => h) (Or.inl ⟨by simp only [Region.wanted], ?_⟩) hS ?_
  rotate_left
  · intro wz hSw
    clear hSw
    go_simp
    first | done | with_reducible rfl
  try simp only [Act.put, List.setIfInBounds_toArray, List.set_cons_zero, List.set_cons_succ]
  refine wpAnyH_take (i := 5) (oi := ⟨some 10, _, _, _, _, _⟩) (v := ?_) rfl (by kernel_rfl) (by kernel_rfl) (by kernel_rfl) (fun _ _ _ h => h) (Or.inl ⟨by simp only [Region.wanted], ?_⟩) hS ?_
  rotate_left
  · intro wz hSw; have hc0 := hSw.1.cell 0; have hc1 := hSw.1.cell 1; have hc2 := hSw.1.cell 2; have hd0 := hSw.2.cell 0; have hd1 := hSw.2.cell 1; have hd2 := hSw.2.cell 2; simp only [List.getElem?_toArray, List.getElem?_cons_zero, List.getElem?_cons_succ] at hc0 hc1 hc2 hd0 hd1 hd2
    clear hSw
    go_simp
    first | done | with_reducible rfl
  try simp only [Act.put, List.setIfInBounds_toArray, List.set_cons_zero, List.set_cons_succ]
  refine wpAnyH_take (i := 6) (oi := ⟨some 11, _, _, _, _, _⟩) (v := ?_) rfl (by kernel_rfl) (by kernel_rfl) (by kernel_rfl) (fun _ _ _ h => h) (Or.inl ⟨by simp only [Region.wanted], ?_⟩) hS ?_
  rotate_left
  · intro wz hSw
    clear hSw
    go_simp
    first | done | with_reducible rfl
  try simp only [Act.put, List.setIfInBounds_toArray, List.set_cons_zero, List.set_cons_succ]
  refine wpAnyH_take (i := 7) (oi := ⟨some 12, _, _, _, _, _⟩) (v := ?_) rfl (by kernel_rfl) (by kernel_rfl) (by kernel_rfl) (fun _ _ _ h => h) (Or.inl ⟨by simp only [Region.wanted], ?_⟩) hS ?_
  rotate_left
  · intro wz hSw; have hc0 := hSw.1.cell 0; have hc1 := hSw.1.cell 1; have hc2 := hSw.1.cell 2; have hd0 := hSw.2.cell 0; have hd1 := hSw.2.cell 1; have hd2 := hSw.2.cell 2; simp only [List.getElem?_toArray, List.getElem?_cons_zero, List.getElem?_cons_succ] at hc0 hc1 hc2 hd0 hd1 hd2
    clear hSw
    go_simp
    first | done | with_reducible rfl
  try simp only [Act.put, List.setIfInBounds_toArray, List.set_cons_zero, List.set_cons_succ]
  refine wpAnyH_take (i := 8) (oi := ⟨some 13, _, _, _, _, _⟩) (v := ?_) rfl (by kernel_rfl) (by kernel_rfl) (by kernel_rfl) (fun _ _ _ h => h) (Or.inl ⟨by simp only [Region.wanted], ?_⟩) hS ?_
  rotate_left
  · intro wz hSw
    clear hSw
    go_simp
    first | done | with_reducible rfl
  try simp only [Act.put, List.setIfInBounds_toArray, List.set_cons_zero, List.set_cons_succ]
  refine wpAnyH_take (i := 9) (oi := ⟨some 14, _, _, _, _, _⟩) (v := ?_) rfl (by kernel_rfl) (by kernel_rfl) (by kernel_rfl) (fun _ _ _ h => h) (Or.inl ⟨by simp only [Region.wanted], ?_⟩) hS ?_
  rotate_left
  · intro wz hSw; have hc0 := hSw.1.cell 0; have hc1 := hSw.1.cell 1; have hc2 := hSw.1.cell 2; have hd0 := hSw.2.cell 0; have hd1 := hSw.2.cell 1; have hd2 := hSw.2.cell 2; simp only [List.getElem?_toArray, List.getElem?_cons_zero, List.getElem?_cons_succ] at hc0 hc1 hc2 hd0 hd1 hd2
    clear hSw
    go_simp
    first | done | with_reducible rfl
  try simp only [Act.put, List.setIfInBounds_toArray, List.set_cons_zero, List.set_cons_succ]
  refine wpAnyH_take (i := 10) (oi := ⟨some 15, _, _, _, _, _⟩) (v := ?_) rfl (by kernel_rfl) (by kernel_rfl) (by kernel_rfl) (fun _ _ _ h => h) (Or.inl ⟨by simp only [Region.wanted], ?_⟩) hS ?_
  rotate_left
  · intro wz hSw
    clear hSw
    go_simp
    first | done | with_reducible rfl
  try simp only [Act.put, List.setIfInBounds_toArray, List.set_cons_zero, List.set_cons_succ]
  refine wpAnyH_take (i := 11) (oi := ⟨some 16, _, _, _, _, _⟩) (v := ?_) rfl (by kernel_rfl) (by kernel_rfl) (by kernel_rfl) (fun _ _ _ h => h) (Or.inl ⟨by simp only [Region.wanted], ?_⟩) hS ?_
  rotate_left
  · intro wz hSw; have hc0 := hSw.1.cell 0; have hc1 := hSw.1.cell 1; have hc2 := hSw.1.cell 2; have hd0 := hSw.2.cell 0; have hd1 := hSw.2.cell 1; have hd2 := hSw.2.cell 2; simp only [List.getElem?_toArray, List.getElem?_cons_zero, List.getElem?_cons_succ] at hc0 hc1 hc2 hd0 hd1 hd2
    clear hSw
    go_simp
    first | done | with_reducible rfl
  try simp only [Act.put, List.setIfInBounds_toArray, List.set_cons_zero, List.set_cons_succ]
  refine wpAnyH_take (i := 12) (oi := ⟨some 17, _, _, _, _, _⟩) (v := ?_) rfl (by kernel_rfl) (by kernel_rfl) (by kernel_rfl) (fun _ _ _ h => h) (Or.inl ⟨by simp only [Region.wanted], ?_⟩) hS ?_
  rotate_left
  · intro wz hSw
    clear hSw
    go_simp
    first | done | with_reducible rfl
  try simp only [Act.put, List.setIfInBounds_toArray, List.set_cons_zero, List.set_cons_succ]
  refine wpAnyH_ready (rs := [13]) (by kernel_rfl) (by simp) ?_
  refine AllReadyH.cons (o := ⟨none, _, _, _, _, _⟩) rfl (fun K hK => ?_) AllReadyH.nil
  have n1 : w.heap.size ≠ w.heap.size + 1 + 1 := by omega
  have n2 : w.heap.size + 1 ≠ w.heap.size + 1 + 1 := by omega
  have b4 := b3d.set 0 (.int .i64 b)
  have b5 := b4.set 1 (.int .i64 c)
  have b6 := b5.set 2 (.int .i64 a)
  have q0 := b3d.cell 0
  have q1 := b4.cell 1
  have q2 := b5.cell 2
  have f0 := b3d.frozen 0
  have f1 := b4.frozen 1
  have f2 := b5.frozen 2
  simp only [List.setIfInBounds_toArray, List.set_cons_zero, List.set_cons_succ, List.getElem?_toArray, List.getElem?_cons_zero, List.getElem?_cons_succ] at b4 b5 b6 q0 q1 q2
  go_simp
  refine hK.out _ _ (⟨((hS.1.other _ _ n1).other _ _ n1).other _ _ n1, ((hS.2.other _ _ n2).other _ _ n2).other _ _ n2⟩) (fun hS => ?_)
  clear hK K
  try simp only [Act.put, List.setIfInBounds_toArray, List.set_cons_zero, List.set_cons_succ]
  have hbz : Below w.heap.size w (((v3.setCell ⟨w.heap.size + 1 + 1, 0, none⟩ (.int .i64 b)).setCell ⟨w.heap.size + 1 + 1, 1, none⟩ (.int .i64 c)).setCell ⟨w.heap.size + 1 + 1, 2, none⟩ (.int .i64 a)) := ((hb0d.setCell (by simp; omega) _).setCell (by simp; omega) _).setCell (by simp; omega) _
  clear q0 q1 q2 f0 f1 f2 b4 b5 hS
  generalize World.setCell _ _ _ = v6 at b6 hbz ⊢
  refine wpAnyH_done (by kernel_rfl) ?_ _
  have q0 := b6.cell 0
  have q1 := b6.cell 1
  have q2 := b6.cell 2
  simp only [List.getElem?_toArray, List.getElem?_cons_zero, List.getElem?_cons_succ] at q0 q1 q2
  go_wp2_with fail
  refine bodyPost_ret (v := .agg #[.int .i64 b, .int .i64 c, .int .i64 a]) ?_ rfl ⟨rfl, hbz⟩
  have hres : Tryd.f13.results = #[.cell 4 22] := by kernel_rfl
  simp only [results, hres]
  go_simp
set_option maxHeartbeats 4000000 in
theorem of_201 (a b c : Int) (w : World) :
    Calls Tryd.prog 13 #[tri 2 0 1, tri a b c] w fun e w' => e = .returned (tri c a b) ∧ Below w.heap.size w w' := by
  unfold tri
  have b1 := ((Blk.new w #[.int .i64 2, .int .i64 0, .int .i64 1] 30).alloc (.cells #[.int .i64 a, .int .i64 b, .int .i64 c] 22)).alloc (.cells #[.int .i64 0, .int .i64 0, .int .i64 0] 22)
  have b2 := (Blk.new (w.alloc (.cells #[.int .i64 2, .int .i64 0, .int .i64 1] 30)) #[.int .i64 a, .int .i64 b, .int .i64 c] 22).alloc (.cells #[.int .i64 0, .int .i64 0, .int .i64 0] 22)
  have b3 := Blk.new ((w.alloc (.cells #[.int .i64 2, .int .i64 0, .int .i64 1] 30)).alloc (.cells #[.int .i64 a, .int .i64 b, .int .i64 c] 22)) #[.int .i64 0, .int .i64 0, .int .i64 0] 22
  have hb0 : Below w.heap.size w (((w.alloc (.cells #[.int .i64 2, .int .i64 0, .int .i64 1] 30)).alloc (.cells #[.int .i64 a, .int .i64 b, .int .i64 c] 22)).alloc (.cells #[.int .i64 0, .int .i64 0, .int .i64 0] 22)) :=
    (((Below.refl _ w).alloc (Nat.le_refl _) _).alloc (by simp) _).alloc (by simp; omega) _
  have hx2 : (w.alloc (.cells #[.int .i64 2, .int .i64 0, .int .i64 1] 30)).heap.size = w.heap.size + 1 := by simp
  have hx3 : ((w.alloc (.cells #[.int .i64 2, .int .i64 0, .int .i64 1] 30)).alloc (.cells #[.int .i64 a, .int .i64 b, .int .i64 c] 22)).heap.size = w.heap.size + 1 + 1 := by simp
  rw [hx2] at b2
  rw [hx3] at b3
  go_enter Tryd.func13, Tryd.ntmps13
  go_wp2_with fail
  generalize World.alloc (World.alloc (World.alloc w _) _) _ = w3 at b1 b2 b3 hb0 ⊢
  refine wp_region_any (by kernel_rfl) ?_
  change wpAny _ _ _ _ _ _ _ (World.drew _)
  refine wpAny_of_held (S := fun (w' : World) => Blk w' w.heap.size #[.int .i64 2, .int .i64 0, .int .i64 1] 30 ∧ Blk w' (w.heap.size + 1) #[.int .i64 a, .int .i64 b, .int .i64 c] 22) _ _ _ _ ?_
  have hS : (fun (w' : World) => Blk w' w.heap.size #[.int .i64 2, .int .i64 0, .int .i64 1] 30 ∧ Blk w' (w.heap.size + 1) #[.int .i64 a, .int .i64 b, .int .i64 c] 22) (World.drew w3) := ⟨b1.drew, b2.drew⟩
  have b3d := b3.drew
  have hb0d := hb0.drew
  generalize World.drew w3 = v3 at b3d hb0d hS ⊢
  try simp only [Act.put, List.setIfInBounds_toArray, List.set_cons_zero, List.set_cons_succ]
  refine wpAnyH_take (i := 0) (oi := ⟨some 5, _, _, _, _, _⟩) (v := ?_) rfl (by kernel_rfl) (by kernel_rfl) (by kernel_rfl) (fun _ _ _ h => h) (Or.inl ⟨by simp only [Region.wanted], ?_⟩) hS ?_
  rotate_left
  · intro wz hSw
    clear hSw
    go_simp
    first | done | with_reducible rfl
  try simp only [Act.put, List.setIfInBounds_toArray, List.set_cons_zero, List.set_cons_succ]
  refine wpAnyH_take (i := 1) (oi := ⟨some 6, _, _, _, _, _⟩) (v := ?_) rfl (by kernel_rfl) (by kernel_rfl) (by kernel_rfl) (fun _ _ _ h => h) (Or.inl ⟨by simp only [Region.wanted], ?_⟩) hS ?_
  rotate_left
  · intro wz hSw; have hc0 := hSw.1.cell 0; have hc1 := hSw.1.cell 1; have hc2 := hSw.1.cell 2; have hd0 := hSw.2.cell 0; have hd1 := hSw.2.cell 1; have hd2 := hSw.2.cell 2; simp only [List.getElem?_toArray, List.getElem?_cons_zero, List.getElem?_cons_succ] at hc0 hc1 hc2 hd0 hd1 hd2
    clear hSw
    go_simp
    first | done | with_reducible rfl
  try simp only [Act.put, List.setIfInBounds_toArray, List.set_cons_zero, List.set_cons_succ]
  refine wpAnyH_take (i := 2) (oi := ⟨some 7, _, _, _, _, _⟩) (v := ?_) rfl (by kernel_rfl) (by kernel_rfl) (by kernel_rfl) (fun _ _ _ h => h) (Or.inl ⟨by simp only [Region.wanted], ?_⟩) hS ?_
  rotate_left
  · intro wz hSw
    clear hSw
    go_simp
    first | done | with_reducible rfl
  try simp only [Act.put, List.setIfInBounds_toArray, List.set_cons_zero, List.set_cons_succ]
  refine wpAnyH_take (i := 3) (oi := ⟨some 8, _, _, _, _, _⟩) (v := ?_) rfl (by kernel_rfl) (by kernel_rfl) (by kernel_rfl) (fun _ _ _ h => h) (Or.inl ⟨by simp only [Region.wanted], ?_⟩) hS ?_
  rotate_left
  · intro wz hSw; have hc0 := hSw.1.cell 0; have hc1 := hSw.1.cell 1; have hc2 := hSw.1.cell 2; have hd0 := hSw.2.cell 0; have hd1 := hSw.2.cell 1; have hd2 := hSw.2.cell 2; simp only [List.getElem?_toArray, List.getElem?_cons_zero, List.getElem?_cons_succ] at hc0 hc1 hc2 hd0 hd1 hd2
    clear hSw
    go_simp
    first | done | with_reducible rfl
  try simp only [Act.put, List.setIfInBounds_toArray, List.set_cons_zero, List.set_cons_succ]
  refine wpAnyH_take (i := 4) (oi := ⟨some 9, _, _, _, _, _⟩) (v := ?_) rfl (by kernel_rfl) (by kernel_rfl) (by kernel_rfl) (fun _ _ _ h => h) (Or.inl ⟨by simp only [Region.wanted], ?_⟩) hS ?_
  rotate_left
  · intro wz hSw
    clear hSw
    go_simp
    first | done | with_reducible rfl
  try simp only [Act.put, List.setIfInBounds_toArray, List.set_cons_zero, List.set_cons_succ]
  refine wpAnyH_take (i := 5) (oi := ⟨some 10, _, _, _, _, _⟩) (v := ?_) rfl (by kernel_rfl) (by kernel_rfl) (by kernel_rfl) (fun _ _ _ h => h) (Or.inl ⟨by simp only [Region.wanted], ?_⟩) hS ?_
  rotate_left
  · intro wz hSw; have hc0 := hSw.1.cell 0; have hc1 := hSw.1.cell 1; have hc2 := hSw.1.cell 2; have hd0 := hSw.2.cell 0; have hd1 := hSw.2.cell 1; have hd2 := hSw.2.cell 2; simp only [List.getElem?_toArray, List.getElem?_cons_zero, List.getElem?_cons_succ] at hc0 hc1 hc2 hd0 hd1 hd2
    clear hSw
    go_simp
    first | done | with_reducible rfl
  try simp only [Act.put, List.setIfInBounds_toArray, List.set_cons_zero, List.set_cons_succ]
  refine wpAnyH_take (i := 6) (oi := ⟨some 11, _, _, _, _, _⟩) (v := ?_) rfl (by kernel_rfl) (by kernel_rfl) (by kernel_rfl) (fun _ _ _ h => h) (Or.inl ⟨by simp only [Region.wanted], ?_⟩) hS ?_
  rotate_left
  · intro wz hSw
    clear hSw
    go_simp
    first | done | with_reducible rfl
  try simp only [Act.put, List.setIfInBounds_toArray, List.set_cons_zero, List.set_cons_succ]
  refine wpAnyH_take (i := 7) (oi := ⟨some 12, _, _, _, _, _⟩) (v := ?_) rfl (by kernel_rfl) (by kernel_rfl) (by kernel_rfl) (fun _ _ _ h => h) (Or.inl ⟨by simp only [Region.wanted], ?_⟩) hS ?_
  rotate_left
  · intro wz hSw; have hc0 := hSw.1.cell 0; have hc1 := hSw.1.cell 1; have hc2 := hSw.1.cell 2; have hd0 := hSw.2.cell 0; have hd1 := hSw.2.cell 1; have hd2 := hSw.2.cell 2; simp only [List.getElem?_toArray, List.getElem?_cons_zero, List.getElem?_cons_succ] at hc0 hc1 hc2 hd0 hd1 hd2
    clear hSw
    go_simp
    first | done | with_reducible rfl
  try simp only [Act.put, List.setIfInBounds_toArray, List.set_cons_zero, List.set_cons_succ]
  refine wpAnyH_take (i := 8) (oi := ⟨some 13, _, _, _, _, _⟩) (v := ?_) rfl (by kernel_rfl) (by kernel_rfl) (by kernel_rfl) (fun _ _ _ h => h) (Or.inl ⟨by simp only [Region.wanted], ?_⟩) hS ?_
  rotate_left
  · intro wz hSw
    clear hSw
    go_simp
    first | done | with_reducible rfl
  try simp only [Act.put, List.setIfInBounds_toArray, List.set_cons_zero, List.set_cons_succ]
  refine wpAnyH_take (i := 9) (oi := ⟨some 14, _, _, _, _, _⟩) (v := ?_) rfl (by kernel_rfl) (by kernel_rfl) (by kernel_rfl) (fun _ _ _ h => h) (Or.inl ⟨by simp only [Region.wanted], ?_⟩) hS ?_
  rotate_left
  · intro wz hSw; have hc0 := hSw.1.cell 0; have hc1 := hSw.1.cell 1; have hc2 := hSw.1.cell 2; have hd0 := hSw.2.cell 0; have hd1 := hSw.2.cell 1; have hd2 := hSw.2.cell 2; simp only [List.getElem?_toArray, List.getElem?_cons_zero, List.getElem?_cons_succ] at hc0 hc1 hc2 hd0 hd1 hd2
    clear hSw
    go_simp
    first | done | with_reducible rfl
  try simp only [Act.put, List.setIfInBounds_toArray, List.set_cons_zero, List.set_cons_succ]
  refine wpAnyH_take (i := 10) (oi := ⟨some 15, _, _, _, _, _⟩) (v := ?_) rfl (by kernel_rfl) (by kernel_rfl) (by kernel_rfl) (fun _ _ _ h => h) (Or.inl ⟨by simp only [Region.wanted], ?_⟩) hS ?_
  rotate_left
  · intro wz hSw
    clear hSw
    go_simp
    first | done | with_reducible rfl
  try simp only [Act.put, List.setIfInBounds_toArray, List.set_cons_zero, List.set_cons_succ]
  refine wpAnyH_take (i := 11) (oi := ⟨some 16, _, _, _, _, _⟩) (v := ?_) rfl (by kernel_rfl) (by kernel_rfl) (by kernel_rfl) (fun _ _ _ h => h) (Or.inl ⟨by simp only [Region.wanted], ?_⟩) hS ?_
  rotate_left
  · intro wz hSw; have hc0 := hSw.1.cell 0; have hc1 := hSw.1.cell 1; have hc2 := hSw.1.cell 2; have hd0 := hSw.2.cell 0; have hd1 := hSw.2.cell 1; have hd2 := hSw.2.cell 2; simp only [List.getElem?_toArray, List.getElem?_cons_zero, List.getElem?_cons_succ] at hc0 hc1 hc2 hd0 hd1 hd2
    clear hSw
    go_simp
    first | done | with_reducible rfl
  try simp only [Act.put, List.setIfInBounds_toArray, List.set_cons_zero, List.set_cons_succ]
  refine wpAnyH_take (i := 12) (oi := ⟨some 17, _, _, _, _, _⟩) (v := ?_) rfl (by kernel_rfl) (by kernel_rfl) (by kernel_rfl) (fun _ _ _ h => h) (Or.inl ⟨by simp only [Region.wanted], ?_⟩) hS ?_
  rotate_left
  · intro wz hSw
    clear hSw
    go_simp
    first | done | with_reducible rfl
  try simp only [Act.put, List.setIfInBounds_toArray, List.set_cons_zero, List.set_cons_succ]
  refine wpAnyH_ready (rs := [13]) (by kernel_rfl) (by simp) ?_
  refine AllReadyH.cons (o := ⟨none, _, _, _, _, _⟩) rfl (fun K hK => ?_) AllReadyH.nil
  have n1 : w.heap.size ≠ w.heap.size + 1 + 1 := by omega
  have n2 : w.heap.size + 1 ≠ w.heap.size + 1 + 1 := by omega
  have b4 := b3d.set 0 (.int .i64 c)
  have b5 := b4.set 1 (.int .i64 a)
  have b6 := b5.set 2 (.int .i64 b)
  have q0 := b3d.cell 0
  have q1 := b4.cell 1
  have q2 := b5.cell 2
  have f0 := b3d.frozen 0
  have f1 := b4.frozen 1
  have f2 := b5.frozen 2
  simp only [List.setIfInBounds_toArray, List.set_cons_zero, List.set_cons_succ, List.getElem?_toArray, List.getElem?_cons_zero, List.getElem?_cons_succ] at b4 b5 b6 q0 q1 q2
  go_simp
  refine hK.out _ _ (⟨((hS.1.other _ _ n1).other _ _ n1).other _ _ n1, ((hS.2.other _ _ n2).other _ _ n2).other _ _ n2⟩) (fun hS => ?_)
  clear hK K
  try simp only [Act.put, List.setIfInBounds_toArray, List.set_cons_zero, List.set_cons_succ]
  have hbz : Below w.heap.size w (((v3.setCell ⟨w.heap.size + 1 + 1, 0, none⟩ (.int .i64 c)).setCell ⟨w.heap.size + 1 + 1, 1, none⟩ (.int .i64 a)).setCell ⟨w.heap.size + 1 + 1, 2, none⟩ (.int .i64 b)) := ((hb0d.setCell (by simp; omega) _).setCell (by simp; omega) _).setCell (by simp; omega) _
  clear q0 q1 q2 f0 f1 f2 b4 b5 hS
  generalize World.setCell _ _ _ = v6 at b6 hbz ⊢
  refine wpAnyH_done (by kernel_rfl) ?_ _
  have q0 := b6.cell 0
  have q1 := b6.cell 1
  have q2 := b6.cell 2
  simp only [List.getElem?_toArray, List.getElem?_cons_zero, List.getElem?_cons_succ] at q0 q1 q2
  go_wp2_with fail
  refine bodyPost_ret (v := .agg #[.int .i64 c, .int .i64 a, .int .i64 b]) ?_ rfl ⟨rfl, hbz⟩
  have hres : Tryd.f13.results = #[.cell 4 22] := by kernel_rfl
  simp only [results, hres]
  go_simp
set_option maxHeartbeats 4000000 in
theorem of_210 (a b c : Int) (w : World) :
    Calls Tryd.prog 13 #[tri 2 1 0, tri a b c] w fun e w' => e = .returned (tri c b a) ∧ Below w.heap.size w w' := by
  unfold tri
  have b1 := ((Blk.new w #[.int .i64 2, .int .i64 1, .int .i64 0] 30).alloc (.cells #[.int .i64 a, .int .i64 b, .int .i64 c] 22)).alloc (.cells #[.int .i64 0, .int .i64 0, .int .i64 0] 22)
  have b2 := (Blk.new (w.alloc (.cells #[.int .i64 2, .int .i64 1, .int .i64 0] 30)) #[.int .i64 a, .int .i64 b, .int .i64 c] 22).alloc (.cells #[.int .i64 0, .int .i64 0, .int .i64 0] 22)
  have b3 := Blk.new ((w.alloc (.cells #[.int .i64 2, .int .i64 1, .int .i64 0] 30)).alloc (.cells #[.int .i64 a, .int .i64 b, .int .i64 c] 22)) #[.int .i64 0, .int .i64 0, .int .i64 0] 22
  have hb0 : Below w.heap.size w (((w.alloc (.cells #[.int .i64 2, .int .i64 1, .int .i64 0] 30)).alloc (.cells #[.int .i64 a, .int .i64 b, .int .i64 c] 22)).alloc (.cells #[.int .i64 0, .int .i64 0, .int .i64 0] 22)) :=
    (((Below.refl _ w).alloc (Nat.le_refl _) _).alloc (by simp) _).alloc (by simp; omega) _
  have hx2 : (w.alloc (.cells #[.int .i64 2, .int .i64 1, .int .i64 0] 30)).heap.size = w.heap.size + 1 := by simp
  have hx3 : ((w.alloc (.cells #[.int .i64 2, .int .i64 1, .int .i64 0] 30)).alloc (.cells #[.int .i64 a, .int .i64 b, .int .i64 c] 22)).heap.size = w.heap.size + 1 + 1 := by simp
  rw [hx2] at b2
  rw [hx3] at b3
  go_enter Tryd.func13, Tryd.ntmps13
  go_wp2_with fail
  generalize World.alloc (World.alloc (World.alloc w _) _) _ = w3 at b1 b2 b3 hb0 ⊢
  refine wp_region_any (by kernel_rfl) ?_
  change wpAny _ _ _ _ _ _ _ (World.drew _)
  refine wpAny_of_held (S := fun (w' : World) => Blk w' w.heap.size #[.int .i64 2, .int .i64 1, .int .i64 0] 30 ∧ Blk w' (w.heap.size + 1) #[.int .i64 a, .int .i64 b, .int .i64 c] 22) _ _ _ _ ?_
  have hS : (fun (w' : World) => Blk w' w.heap.size #[.int .i64 2, .int .i64 1, .int .i64 0] 30 ∧ Blk w' (w.heap.size + 1) #[.int .i64 a, .int .i64 b, .int .i64 c] 22) (World.drew w3) := ⟨b1.drew, b2.drew⟩
  have b3d := b3.drew
  have hb0d := hb0.drew
  generalize World.drew w3 = v3 at b3d hb0d hS ⊢
  try simp only [Act.put, List.setIfInBounds_toArray, List.set_cons_zero, List.set_cons_succ]
  refine wpAnyH_take (i := 0) (oi := ⟨some 5, _, _, _, _, _⟩) (v := ?_) rfl (by kernel_rfl) (by kernel_rfl) (by kernel_rfl) (fun _ _ _ h => h) (Or.inl ⟨by simp only [Region.wanted], ?_⟩) hS ?_
  rotate_left
  · intro wz hSw
    clear hSw
    go_simp
    first | done | with_reducible rfl
  try simp only [Act.put, List.setIfInBounds_toArray, List.set_cons_zero, List.set_cons_succ]
  refine wpAnyH_take (i := 1) (oi := ⟨some 6, _, _, _, _, _⟩) (v := ?_) rfl (by kernel_rfl) (by kernel_rfl) (by kernel_rfl) (fun _ _ _ h => h) (Or.inl ⟨by simp only [Region.wanted], ?_⟩) hS ?_
  rotate_left
  · intro wz hSw; have hc0 := hSw.1.cell 0; have hc1 := hSw.1.cell 1; have hc2 := hSw.1.cell 2; have hd0 := hSw.2.cell 0; have hd1 := hSw.2.cell 1; have hd2 := hSw.2.cell 2; simp only [List.getElem?_toArray, List.getElem?_cons_zero, List.getElem?_cons_succ] at hc0 hc1 hc2 hd0 hd1 hd2
    clear hSw
    go_simp
    first | done | with_reducible rfl
  try simp only [Act.put, List.setIfInBounds_toArray, List.set_cons_zero, List.set_cons_succ]
  refine wpAnyH_take (i := 2) (oi := ⟨some 7, _, _, _, _, _⟩) (v := ?_) rfl (by kernel_rfl) (by kernel_rfl) (by kernel_rfl) (fun _ _ _ h => h) (Or.inl ⟨by simp only [Region.wanted], ?_⟩) hS ?_
  rotate_left
  · intro wz hSw
    clear hSw
    go_simp
    first | done | with_reducible rfl
  try simp only [Act.put, List.setIfInBounds_toArray, List.set_cons_zero, List.set_cons_succ]
  refine wpAnyH_take (i := 3) (oi := ⟨some 8, _, _, _, _, _⟩) (v := ?_) rfl (by kernel_rfl) (by kernel_rfl) (by kernel_rfl) (fun _ _ _ h => h) (Or.inl ⟨by simp only [Region.wanted], ?_⟩) hS ?_
  rotate_left
  · intro wz hSw; have hc0 := hSw.1.cell 0; have hc1 := hSw.1.cell 1; have hc2 := hSw.1.cell 2; have hd0 := hSw.2.cell 0; have hd1 := hSw.2.cell 1; have hd2 := hSw.2.cell 2; simp only [List.getElem?_toArray, List.getElem?_cons_zero, List.getElem?_cons_succ] at hc0 hc1 hc2 hd0 hd1 hd2
    clear hSw
    go_simp
    first | done | with_reducible rfl
  try simp only [Act.put, List.setIfInBounds_toArray, List.set_cons_zero, List.set_cons_succ]
  refine wpAnyH_take (i := 4) (oi := ⟨some 9, _, _, _, _, _⟩) (v := ?_) rfl (by kernel_rfl) (by kernel_rfl) (by kernel_rfl) (fun _ _ _ h => h) (Or.inl ⟨by simp only [Region.wanted], ?_⟩) hS ?_
  rotate_left
  · intro wz hSw
    clear hSw
    go_simp
    first | done | with_reducible rfl
  try simp only [Act.put, List.setIfInBounds_toArray, List.set_cons_zero, List.set_cons_succ]
  refine wpAnyH_take (i := 5) (oi := ⟨some 10, _, _, _, _, _⟩) (v := ?_) rfl (by kernel_rfl) (by kernel_rfl) (by kernel_rfl) (fun _ _ _ h => h) (Or.inl ⟨by simp only [Region.wanted], ?_⟩) hS ?_
  rotate_left
  · intro wz hSw; have hc0 := hSw.1.cell 0; have hc1 := hSw.1.cell 1; have hc2 := hSw.1.cell 2; have hd0 := hSw.2.cell 0; have hd1 := hSw.2.cell 1; have hd2 := hSw.2.cell 2; simp only [List.getElem?_toArray, List.getElem?_cons_zero, List.getElem?_cons_succ] at hc0 hc1 hc2 hd0 hd1 hd2
    clear hSw
    go_simp
    first | done | with_reducible rfl
  try simp only [Act.put, List.setIfInBounds_toArray, List.set_cons_zero, List.set_cons_succ]
  refine wpAnyH_take (i := 6) (oi := ⟨some 11, _, _, _, _, _⟩) (v := ?_) rfl (by kernel_rfl) (by kernel_rfl) (by kernel_rfl) (fun _ _ _ h => h) (Or.inl ⟨by simp only [Region.wanted], ?_⟩) hS ?_
  rotate_left
  · intro wz hSw
    clear hSw
    go_simp
    first | done | with_reducible rfl
  try simp only [Act.put, List.setIfInBounds_toArray, List.set_cons_zero, List.set_cons_succ]
  refine wpAnyH_take (i := 7) (oi := ⟨some 12, _, _, _, _, _⟩) (v := ?_) rfl (by kernel_rfl) (by kernel_rfl) (by kernel_rfl) (fun _ _ _ h => h) (Or.inl ⟨by simp only [Region.wanted], ?_⟩) hS ?_
  rotate_left
  · intro wz hSw; have hc0 := hSw.1.cell 0; have hc1 := hSw.1.cell 1; have hc2 := hSw.1.cell 2; have hd0 := hSw.2.cell 0; have hd1 := hSw.2.cell 1; have hd2 := hSw.2.cell 2; simp only [List.getElem?_toArray, List.getElem?_cons_zero, List.getElem?_cons_succ] at hc0 hc1 hc2 hd0 hd1 hd2
    clear hSw
    go_simp
    first | done | with_reducible rfl
  try simp only [Act.put, List.setIfInBounds_toArray, List.set_cons_zero, List.set_cons_succ]
  refine wpAnyH_take (i := 8) (oi := ⟨some 13, _, _, _, _, _⟩) (v := ?_) rfl (by kernel_rfl) (by kernel_rfl) (by kernel_rfl) (fun _ _ _ h => h) (Or.inl ⟨by simp only [Region.wanted], ?_⟩) hS ?_
  rotate_left
  · intro wz hSw
    clear hSw
    go_simp
    first | done | with_reducible rfl
  try simp only [Act.put, List.setIfInBounds_toArray, List.set_cons_zero, List.set_cons_succ]
  refine wpAnyH_take (i := 9) (oi := ⟨some 14, _, _, _, _, _⟩) (v := ?_) rfl (by kernel_rfl) (by kernel_rfl) (by kernel_rfl) (fun _ _ _ h => h) (Or.inl ⟨by simp only [Region.wanted], ?_⟩) hS ?_
  rotate_left
  · intro wz hSw; have hc0 := hSw.1.cell 0; have hc1 := hSw.1.cell 1; have hc2 := hSw.1.cell 2; have hd0 := hSw.2.cell 0; have hd1 := hSw.2.cell 1; have hd2 := hSw.2.cell 2; simp only [List.getElem?_toArray, List.getElem?_cons_zero, List.getElem?_cons_succ] at hc0 hc1 hc2 hd0 hd1 hd2
    clear hSw
    go_simp
    first | done | with_reducible rfl
  try simp only [Act.put, List.setIfInBounds_toArray, List.set_cons_zero, List.set_cons_succ]
  refine wpAnyH_take (i := 10) (oi := ⟨some 15, _, _, _, _, _⟩) (v := ?_) rfl (by kernel_rfl) (by kernel_rfl) (by kernel_rfl) (fun _ _ _ h => h) (Or.inl ⟨by simp only [Region.wanted], ?_⟩) hS ?_
  rotate_left
  · intro wz hSw
    clear hSw
    go_simp
    first | done | with_reducible rfl
  try simp only [Act.put, List.setIfInBounds_toArray, List.set_cons_zero, List.set_cons_succ]
  refine wpAnyH_take (i := 11) (oi := ⟨some 16, _, _, _, _, _⟩) (v := ?_) rfl (by kernel_rfl) (by kernel_rfl) (by kernel_rfl) (fun _ _ _ h => h) (Or.inl ⟨by simp only [Region.wanted], ?_⟩) hS ?_
  rotate_left
  · intro wz hSw; have hc0 := hSw.1.cell 0; have hc1 := hSw.1.cell 1; have hc2 := hSw.1.cell 2; have hd0 := hSw.2.cell 0; have hd1 := hSw.2.cell 1; have hd2 := hSw.2.cell 2; simp only [List.getElem?_toArray, List.getElem?_cons_zero, List.getElem?_cons_succ] at hc0 hc1 hc2 hd0 hd1 hd2
    clear hSw
    go_simp
    first | done | with_reducible rfl
  try simp only [Act.put, List.setIfInBounds_toArray, List.set_cons_zero, List.set_cons_succ]
  refine wpAnyH_take (i := 12) (oi := ⟨some 17, _, _, _, _, _⟩) (v := ?_) rfl (by kernel_rfl) (by kernel_rfl) (by kernel_rfl) (fun _ _ _ h => h) (Or.inl ⟨by simp only [Region.wanted], ?_⟩) hS ?_
  rotate_left
  · intro wz hSw
    clear hSw
    go_simp
    first | done | with_reducible rfl
  try simp only [Act.put, List.setIfInBounds_toArray, List.set_cons_zero, List.set_cons_succ]
  refine wpAnyH_ready (rs := [13]) (by kernel_rfl) (by simp) ?_
  refine AllReadyH.cons (o := ⟨none, _, _, _, _, _⟩) rfl (fun K hK => ?_) AllReadyH.nil
  have n1 : w.heap.size ≠ w.heap.size + 1 + 1 := by omega
  have n2 : w.heap.size + 1 ≠ w.heap.size + 1 + 1 := by omega
  have b4 := b3d.set 0 (.int .i64 c)
  have b5 := b4.set 1 (.int .i64 b)
  have b6 := b5.set 2 (.int .i64 a)
  have q0 := b3d.cell 0
  have q1 := b4.cell 1
  have q2 := b5.cell 2
  have f0 := b3d.frozen 0
  have f1 := b4.frozen 1
  have f2 := b5.frozen 2
  simp only [List.setIfInBounds_toArray, List.set_cons_zero, List.set_cons_succ, List.getElem?_toArray, List.getElem?_cons_zero, List.getElem?_cons_succ] at b4 b5 b6 q0 q1 q2
  go_simp
  refine hK.out _ _ (⟨((hS.1.other _ _ n1).other _ _ n1).other _ _ n1, ((hS.2.other _ _ n2).other _ _ n2).other _ _ n2⟩) (fun hS => ?_)
  clear hK K
  try simp only [Act.put, List.setIfInBounds_toArray, List.set_cons_zero, List.set_cons_succ]
  have hbz : Below w.heap.size w (((v3.setCell ⟨w.heap.size + 1 + 1, 0, none⟩ (.int .i64 c)).setCell ⟨w.heap.size + 1 + 1, 1, none⟩ (.int .i64 b)).setCell ⟨w.heap.size + 1 + 1, 2, none⟩ (.int .i64 a)) := ((hb0d.setCell (by simp; omega) _).setCell (by simp; omega) _).setCell (by simp; omega) _
  clear q0 q1 q2 f0 f1 f2 b4 b5 hS
  generalize World.setCell _ _ _ = v6 at b6 hbz ⊢
  refine wpAnyH_done (by kernel_rfl) ?_ _
  have q0 := b6.cell 0
  have q1 := b6.cell 1
  have q2 := b6.cell 2
  simp only [List.getElem?_toArray, List.getElem?_cons_zero, List.getElem?_cons_succ] at q0 q1 q2
  go_wp2_with fail
  refine bodyPost_ret (v := .agg #[.int .i64 c, .int .i64 b, .int .i64 a]) ?_ rfl ⟨rfl, hbz⟩
  have hres : Tryd.f13.results = #[.cell 4 22] := by kernel_rfl
  simp only [results, hres]
  go_simp
end Go.Proofs.YtpfjbcfnpfgidaaDoor
