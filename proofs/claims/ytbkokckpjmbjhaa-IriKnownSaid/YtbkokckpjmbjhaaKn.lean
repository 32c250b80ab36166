/- References: the walk of IriKnown. -/
import Derived.Test.YtbkokckpjmbjhaaKm
import Derived.Deep.RegionLaw
namespace Go.Proofs.Ytbkokckpjmbjhaa
open Go.RowKit Go.Shelf
set_option maxRecDepth 100000
set_option linter.unusedVariables false
set_option maxHeartbeats 2000000 in
theorem iknown_walk (x : Int) (w : World) : Calls Try.prog 5 #[.int .i64 x] w fun e w' => e = .returned (.bool true) ∧ Below w.heap.size w w' := by
  have HK := Lib.hid (fun w => known10_any w)
  have HW := Lib.hid (fun w => within10_eq x 36 (by omega) (by omega) w)
  obtain ⟨k, hk⟩ : ∃ k : Nat, x % 36 = (k : Int) := ⟨(x % 36).toNat, by omega⟩
  have hk36 : k < 36 := by omega
  rw [hk] at HW
  obtain ⟨a, z, ha, hz, hs, hasc, hres⟩ := known_row k hk36
  have HRES := Lib.hid (fun w => iresolve_any baseB a (by decide) (by omega) (marksAt_ascii (by decide)) (marksAt_ascii hasc) z hres w)
  unfold baseB at HRES
  have hki : (k : Int) < 36 := by omega
  clear hk hasc hres hs
  go_enter Try.func5, Try.ntmps5
  go_wp2_with fail
  refine (HK.out _).mono ?_
  rintro e w1 ⟨rfl, hb1⟩
  go_wp2_with fail
  have hB1 : Blk ((w1.alloc (.cells knownL 9)).alloc (.cells knownW 9)) w1.heap.size knownL 9 := (Blk.new w1 knownL _).alloc _
  have hB2 : Blk ((w1.alloc (.cells knownL 9)).alloc (.cells knownW 9)) (w1.heap.size + 1) knownW 9 := by
    have := Blk.new (w1.alloc (.cells knownL 9)) knownW 9
    rw [show (w1.alloc (.cells knownL 9)).heap.size = w1.heap.size + 1 by simp] at this
    exact this
  have hbel : Below w.heap.size w ((w1.alloc (.cells knownL 9)).alloc (.cells knownW 9)) := (hb1.alloc hb1.size _).alloc (by have := hb1.size; simp; omega) _
  have hca := hB1.cell k
  have hcz := hB2.cell k
  rw [ha] at hca
  rw [hz] at hcz
  have hG1 := hB1.lt
  have hG2 := hB2.lt
  generalize hG : w1.heap.size = G at hca hcz hB1 hB2 hG1 hG2 ⊢
  generalize hWW : World.alloc (World.alloc w1 _) _ = w2
  have hWW2 : (w1.alloc (.cells knownL 9)).alloc (.cells knownW 9) = w2 := hWW
  rw [hWW2] at hca hcz hB1 hB2 hbel hG1 hG2
  refine (HW.out _).mono ?_
  rintro e w3 ⟨rfl, hw⟩
  obtain rfl := hw.symm
  clear hw hWW hWW2
  have HF := Lib.hid (show w2.cell? ⟨G, k, none⟩ = some (.string a) ∧ w2.cell? ⟨G + 1, k, none⟩ = some (.string z) ∧ Below w.heap.size w w2 from ⟨hca, hcz, hbel⟩)
  have HLT := Lib.hid (And.intro hG1 hG2)
  clear hca hcz hbel hB1 hB2 hG1 hG2 ha hz
  go_wp2_with fail
  refine wp_region_any (by kernel_rfl) ?_
  change wpAny _ _ _ _ _ _ _ (World.drew _)
  refine wpAny_of_held (S := fun W => W.cell? ⟨G, k, none⟩ = some (.string a) ∧ W.cell? ⟨G + 1, k, none⟩ = some (.string z) ∧ Below w.heap.size w W) _ _ _ _ ?_
  have hS : (fun W => W.cell? ⟨G, k, none⟩ = some (.string a) ∧ W.cell? ⟨G + 1, k, none⟩ = some (.string z) ∧ Below w.heap.size w W) (World.drew w2) := ⟨HF.out.1, HF.out.2.1, below_drew HF.out.2.2⟩
  refine wpAnyH_take (i := 0) (oi := ⟨some 14, _, _, _, _, _⟩) (v := ?_) rfl (by kernel_rfl) (by kernel_rfl) (by kernel_rfl) (fun _ _ _ h => h) (Or.inl ⟨by simp only [Region.wanted], ?_⟩) hS ?_
  rotate_left
  · intro wz hSw
    clear hSw
    go_simp
    first | done | with_reducible rfl
  try simp only [Act.put, List.setIfInBounds_toArray, List.set_cons_zero, List.set_cons_succ]
  refine wpAnyH_take (i := 1) (oi := ⟨some 15, _, _, _, _, _⟩) (v := ?_) rfl (by kernel_rfl) (by kernel_rfl) (by kernel_rfl) (fun _ _ _ h => h) (Or.inl ⟨by simp only [Region.wanted], ?_⟩) hS ?_
  rotate_left
  · intro wz hSw
    clear hSw
    go_simp
    first | done | with_reducible rfl
  try simp only [Act.put, List.setIfInBounds_toArray, List.set_cons_zero, List.set_cons_succ]
  refine wpAnyH_take (i := 2) (oi := ⟨some 16, _, _, _, _, _⟩) (v := ?_) rfl (by kernel_rfl) (by kernel_rfl) (by kernel_rfl) (fun _ _ _ h => h) (Or.inl ⟨by simp only [Region.wanted], ?_⟩) hS ?_
  rotate_left
  · intro wz hSw
    clear hSw
    go_simp
    first | done | with_reducible rfl
  try simp only [Act.put, List.setIfInBounds_toArray, List.set_cons_zero, List.set_cons_succ]
  refine wpAnyH_take (i := 3) (oi := ⟨some 17, _, _, _, _, _⟩) (v := ?_) rfl (by kernel_rfl) (by kernel_rfl) (by kernel_rfl) (fun _ _ _ h => h) (Or.inl ⟨by simp only [Region.wanted], ?_⟩) hS ?_
  rotate_left
  · intro wz hSw
    (try dsimp only at hSw)
    (try go_split_ands)
    go_simp
    first | done | with_reducible rfl
  try simp only [Act.put, List.setIfInBounds_toArray, List.set_cons_zero, List.set_cons_succ]
  refine wpAnyH_take (i := 5) (oi := ⟨some 19, _, _, _, _, _⟩) (v := ?_) rfl (by kernel_rfl) (by kernel_rfl) (by kernel_rfl) (fun _ _ _ h => h) (Or.inl ⟨by simp only [Region.wanted], ?_⟩) hS ?_
  rotate_left
  · intro wz hSw
    clear hSw
    go_simp
    first | done | with_reducible rfl
  try simp only [Act.put, List.setIfInBounds_toArray, List.set_cons_zero, List.set_cons_succ]
  refine wpAnyH_take (i := 6) (oi := ⟨some 20, _, _, _, _, _⟩) (v := ?_) rfl (by kernel_rfl) (by kernel_rfl) (by kernel_rfl) (fun _ _ _ h => h) (Or.inl ⟨by simp only [Region.wanted], ?_⟩) hS ?_
  rotate_left
  · intro wz hSw
    clear hSw
    go_simp
    first | done | with_reducible rfl
  try simp only [Act.put, List.setIfInBounds_toArray, List.set_cons_zero, List.set_cons_succ]
  refine wpAnyH_take (i := 7) (oi := ⟨some 21, _, _, _, _, _⟩) (v := ?_) rfl (by kernel_rfl) (by kernel_rfl) (by kernel_rfl) (fun _ _ _ h => h) (Or.inl ⟨by simp only [Region.wanted], ?_⟩) hS ?_
  rotate_left
  · intro wz hSw
    clear hSw
    go_simp
    first | done | with_reducible rfl
  try simp only [Act.put, List.setIfInBounds_toArray, List.set_cons_zero, List.set_cons_succ]
  refine wpAnyH_take (i := 8) (oi := ⟨some 22, _, _, _, _, _⟩) (v := ?_) rfl (by kernel_rfl) (by kernel_rfl) (by kernel_rfl) (fun _ _ _ h => h) (Or.inl ⟨by simp only [Region.wanted], ?_⟩) hS ?_
  rotate_left
  · intro wz hSw
    (try dsimp only at hSw)
    (try go_split_ands)
    go_simp
    first | done | with_reducible rfl
  try simp only [Act.put, List.setIfInBounds_toArray, List.set_cons_zero, List.set_cons_succ]
  refine wpAnyH_ready (rs := [4]) (by kernel_rfl) (by simp) ?_
  refine AllReadyH.cons (o := ⟨some 18, _, _, _, _, _⟩) rfl (fun K hK => ?_) AllReadyH.nil
  go_simp
  refine (HRES.out _).mono ?_
  rintro e w5 ⟨rfl, hb5⟩
  go_wp2_with fail
  refine hK.out _ _ (⟨(hb5.cell (p := ⟨G, k, none⟩) HLT.out.1).trans HF.out.1, (hb5.cell (p := ⟨G + 1, k, none⟩) HLT.out.2).trans HF.out.2.1, (below_drew HF.out.2.2).trans (hb5.mono HF.out.2.2.size)⟩) (fun hS => ?_)
  clear hK K
  try simp only [Act.put, List.setIfInBounds_toArray, List.set_cons_zero, List.set_cons_succ]
  refine wpAnyH_take (i := 9) (oi := ⟨some 23, _, _, _, _, _⟩) (v := ?_) rfl (by kernel_rfl) (by kernel_rfl) (by kernel_rfl) (fun _ _ _ h => h) (Or.inl ⟨by simp only [Region.wanted], ?_⟩) hS ?_
  rotate_left
  · intro wz hSw
    clear hSw
    go_simp
    first | done | with_reducible rfl
  try simp only [Act.put, List.setIfInBounds_toArray, List.set_cons_zero, List.set_cons_succ]
  refine wpAnyH_take (i := 10) (oi := ⟨some 2, _, _, _, _, _⟩) (v := ?_) rfl (by kernel_rfl) (by kernel_rfl) (by kernel_rfl) (fun _ _ _ h => h) (Or.inl ⟨by simp only [Region.wanted], ?_⟩) hS ?_
  rotate_left
  · intro wz hSw
    clear hSw
    go_simp
    first | done | with_reducible rfl
  try simp only [Act.put, List.setIfInBounds_toArray, List.set_cons_zero, List.set_cons_succ]
  refine wpAnyH_done (by kernel_rfl) ?_ _
  go_wp2_with fail
  go_ret
  exact ⟨rfl, hS.2.2⟩
end Go.Proofs.Ytbkokckpjmbjhaa
