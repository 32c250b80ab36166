/- The order that a scan goes by. -/
import Derived.Test.YtpfjbcfnpfgidaaDoorDc
namespace Go.Proofs.YtpfjbcfnpfgidaaDoor
open Go.RowKit
set_option maxRecDepth 100000
set_option linter.unusedVariables false
set_option linter.unusedSimpArgs false
/-- The six orders as they lie in memory. -/
def OrdAt (w : World) : Prop := 0 < w.heap.size ∧ w.cell? ⟨0, 0, none⟩ = some (.int .i64 0) ∧ w.cell? ⟨0, 1, none⟩ = some (.int .i64 1) ∧ w.cell? ⟨0, 2, none⟩ = some (.int .i64 2) ∧ w.cell? ⟨0, 3, none⟩ = some (.int .i64 0) ∧ w.cell? ⟨0, 4, none⟩ = some (.int .i64 2) ∧ w.cell? ⟨0, 5, none⟩ = some (.int .i64 1) ∧ w.cell? ⟨0, 6, none⟩ = some (.int .i64 1) ∧ w.cell? ⟨0, 7, none⟩ = some (.int .i64 0) ∧ w.cell? ⟨0, 8, none⟩ = some (.int .i64 2) ∧ w.cell? ⟨0, 9, none⟩ = some (.int .i64 1) ∧ w.cell? ⟨0, 10, none⟩ = some (.int .i64 2) ∧ w.cell? ⟨0, 11, none⟩ = some (.int .i64 0) ∧ w.cell? ⟨0, 12, none⟩ = some (.int .i64 2) ∧ w.cell? ⟨0, 13, none⟩ = some (.int .i64 0) ∧ w.cell? ⟨0, 14, none⟩ = some (.int .i64 1) ∧ w.cell? ⟨0, 15, none⟩ = some (.int .i64 2) ∧ w.cell? ⟨0, 16, none⟩ = some (.int .i64 1) ∧ w.cell? ⟨0, 17, none⟩ = some (.int .i64 0)
theorem OrdAt.below {w w' : World} (h : OrdAt w) (hb : Below w.heap.size w w') : OrdAt w' := by
  have e : ∀ k, w'.cell? ⟨0, k, none⟩ = w.cell? ⟨0, k, none⟩ := fun k => by simp [World.cell?, hb.block 0 h.1]
  unfold OrdAt at h ⊢
  simp only [e]
  exact ⟨Nat.lt_of_lt_of_le h.1 hb.size, h.2⟩
theorem aheadB_eq (x y z : Int) : aheadB x y z = decide ((x = 0 → y = 0 ∧ z = 0) ∧ (y = 0 → z = 0)) := by
  have hz := fun u : Int => (show nzN u = if u = 0 then 0 else 1 from rfl)
  unfold aheadB
  simp only [cnt3, hz, frontI]
  by_cases h1 : x = 0 <;> by_cases h2 : y = 0 <;> by_cases h3 : z = 0 <;> simp [h1, h2, h3, Ne.symm]
def whichK (a b c : Int) : Int := if aheadB a b c = true then 0 else if aheadB a c b = true then 1 else if aheadB b a c = true then 2 else if aheadB b c a = true then 3 else if aheadB c a b = true then 4 else 5
theorem whichK_last (a b c : Int) (h0 : aheadB a b c = false) (h1 : aheadB a c b = false) (h2 : aheadB b a c = false) (h3 : aheadB b c a = false) (h4 : aheadB c a b = false) : aheadB c b a = true := by
  rw [aheadB_eq] at h0 h1 h2 h3 h4 ⊢
  by_cases ha : a = 0 <;> by_cases hb : b = 0 <;> by_cases hc : c = 0 <;> simp_all
set_option maxHeartbeats 16000000 in
theorem which_any (a b c : Int) (w : World) (ho : OrdAt w) :
    Calls Tryd.prog 5 #[tri a b c] w fun e w' => e = .returned (.int .i64 (whichK a b c)) ∧ Below w.heap.size w w' := by
  have HA0 := Lib.hid (fun u => ahead_any (i := 0) (j := 1) (k := 2) (.inl ⟨rfl, rfl, rfl⟩) a b c u)
  rw [show at3i a b c 0 = a from rfl, show at3i a b c 1 = b from rfl, show at3i a b c 2 = c from rfl] at HA0
  have HA1 := Lib.hid (fun u => ahead_any (i := 0) (j := 2) (k := 1) (.inr (.inl ⟨rfl, rfl, rfl⟩)) a b c u)
  rw [show at3i a b c 0 = a from rfl, show at3i a b c 2 = c from rfl, show at3i a b c 1 = b from rfl] at HA1
  have HA2 := Lib.hid (fun u => ahead_any (i := 1) (j := 0) (k := 2) (.inr (.inr (.inl ⟨rfl, rfl, rfl⟩))) a b c u)
  rw [show at3i a b c 1 = b from rfl, show at3i a b c 0 = a from rfl, show at3i a b c 2 = c from rfl] at HA2
  have HA3 := Lib.hid (fun u => ahead_any (i := 1) (j := 2) (k := 0) (.inr (.inr (.inr (.inl ⟨rfl, rfl, rfl⟩)))) a b c u)
  rw [show at3i a b c 1 = b from rfl, show at3i a b c 2 = c from rfl, show at3i a b c 0 = a from rfl] at HA3
  have HA4 := Lib.hid (fun u => ahead_any (i := 2) (j := 0) (k := 1) (.inr (.inr (.inr (.inr (.inl ⟨rfl, rfl, rfl⟩))))) a b c u)
  rw [show at3i a b c 2 = c from rfl, show at3i a b c 0 = a from rfl, show at3i a b c 1 = b from rfl] at HA4
  have HA5 := Lib.hid (fun u => ahead_any (i := 2) (j := 1) (k := 0) (.inr (.inr (.inr (.inr (.inr ⟨rfl, rfl, rfl⟩))))) a b c u)
  rw [show at3i a b c 2 = c from rfl, show at3i a b c 1 = b from rfl, show at3i a b c 0 = a from rfl] at HA5
  unfold tri at HA0 HA1 HA2 HA3 HA4 HA5 ⊢
  have ho1 := ho.below ((Below.refl _ w).alloc (Nat.le_refl _) (.cells #[.int .i64 a, .int .i64 b, .int .i64 c] 22))
  have hb1 := Blk.new w #[.int .i64 a, .int .i64 b, .int .i64 c] 22
  have hbw : Below w.heap.size w (w.alloc (.cells #[.int .i64 a, .int .i64 b, .int .i64 c] 22)) := (Below.refl _ w).alloc (Nat.le_refl _) _
  go_enter Tryd.func5, Tryd.ntmps5
  go_wp2_with fail
  generalize World.alloc w _ = w1 at ho1 hb1 hbw ⊢
  go_loopw [3] (fun i wr => OrdAt wr ∧ Blk wr w.heap.size #[.int .i64 a, .int .i64 b, .int .i64 c] 22 ∧ Below w.heap.size w wr ∧ ((i = .int .i64 0) ∨ (i = .int .i64 1 ∧ aheadB a b c = false) ∨ (i = .int .i64 2 ∧ aheadB a b c = false ∧ aheadB a c b = false) ∨ (i = .int .i64 3 ∧ aheadB a b c = false ∧ aheadB a c b = false ∧ aheadB b a c = false) ∨ (i = .int .i64 4 ∧ aheadB a b c = false ∧ aheadB a c b = false ∧ aheadB b a c = false ∧ aheadB b c a = false) ∨ (i = .int .i64 5 ∧ aheadB a b c = false ∧ aheadB a c b = false ∧ aheadB b a c = false ∧ aheadB b c a = false ∧ aheadB c a b = false))) (fun i _ => 6 - (intOf i).toNat)
  case atStart => exact ⟨ho1, hb1, hbw, .inl rfl⟩
  case round =>
    obtain ⟨hor, hbl, hbr, hi⟩ := hrel
    rcases hi with rfl | ⟨rfl, h0⟩ | ⟨rfl, h0, h1⟩ | ⟨rfl, h0, h1, h2⟩ | ⟨rfl, h0, h1, h2, h3⟩ | ⟨rfl, h0, h1, h2, h3, h4⟩
    · go_wp2_with fail
      refine wp_region_any (by kernel_rfl) ?_
      change wpAny _ _ _ _ _ _ _ (World.drew _)
      refine wpAny_of_held (S := fun (w' : World) => OrdAt w' ∧ Blk w' w.heap.size #[.int .i64 a, .int .i64 b, .int .i64 c] 22) _ _ _ _ ?_
      have hS : (fun (w' : World) => OrdAt w' ∧ Blk w' w.heap.size #[.int .i64 a, .int .i64 b, .int .i64 c] 22) (World.drew wr) := ⟨hor.below (Below.refl _ _).drew, hbl.drew⟩
      have hbd := hbr.drew
      clear hor hbl hbr
      generalize World.drew wr = v0 at hbd hS ⊢
      try simp only [Act.put, List.setIfInBounds_toArray, List.set_cons_zero, List.set_cons_succ]
      refine wpAnyH_take (i := 0) (oi := ⟨some 4, _, _, _, _, _⟩) (v := ?_) rfl (by kernel_rfl) (by kernel_rfl) (by kernel_rfl) (fun _ _ _ h => h) (Or.inl ⟨by simp only [Region.wanted], ?_⟩) hS ?_
      rotate_left
      · intro wz hSw
        clear hSw
        go_simp
        first | done | with_reducible rfl
      try simp only [Act.put, List.setIfInBounds_toArray, List.set_cons_zero, List.set_cons_succ]
      refine wpAnyH_take (i := 1) (oi := ⟨some 5, _, _, _, _, _⟩) (v := ?_) rfl (by kernel_rfl) (by kernel_rfl) (by kernel_rfl) (fun _ _ _ h => h) (Or.inl ⟨by simp only [Region.wanted], ?_⟩) hS ?_
      rotate_left
      · intro wz hSw
        clear hSw
        go_simp
        first | done | with_reducible rfl
      try simp only [Act.put, List.setIfInBounds_toArray, List.set_cons_zero, List.set_cons_succ]
      refine wpAnyH_take (i := 2) (oi := ⟨some 6, _, _, _, _, _⟩) (v := ?_) rfl (by kernel_rfl) (by kernel_rfl) (by kernel_rfl) (fun _ _ _ h => h) (Or.inl ⟨by simp only [Region.wanted], ?_⟩) hS ?_
      rotate_left
      · intro wz hSw; obtain ⟨g0, g1, g2, g3, g4, g5, g6, g7, g8, g9, g10, g11, g12, g13, g14, g15, g16, g17⟩ := hSw.1.2; have hd0 := hSw.2.cell 0; have hd1 := hSw.2.cell 1; have hd2 := hSw.2.cell 2; simp only [List.getElem?_toArray, List.getElem?_cons_zero, List.getElem?_cons_succ] at hd0 hd1 hd2
        clear hSw
        go_simp
        first | done | with_reducible rfl
      try simp only [Act.put, List.setIfInBounds_toArray, List.set_cons_zero, List.set_cons_succ]
      refine wpAnyH_take (i := 3) (oi := ⟨some 7, _, _, _, _, _⟩) (v := ?_) rfl (by kernel_rfl) (by kernel_rfl) (by kernel_rfl) (fun _ _ _ h => h) (Or.inl ⟨by simp only [Region.wanted], ?_⟩) hS ?_
      rotate_left
      · intro wz hSw; obtain ⟨g0, g1, g2, g3, g4, g5, g6, g7, g8, g9, g10, g11, g12, g13, g14, g15, g16, g17⟩ := hSw.1.2; have hd0 := hSw.2.cell 0; have hd1 := hSw.2.cell 1; have hd2 := hSw.2.cell 2; simp only [List.getElem?_toArray, List.getElem?_cons_zero, List.getElem?_cons_succ] at hd0 hd1 hd2
        clear hSw
        go_simp
        first | done | with_reducible rfl
      try simp only [Act.put, List.setIfInBounds_toArray, List.set_cons_zero, List.set_cons_succ]
      refine wpAnyH_ready (rs := [4]) (by kernel_rfl) (by simp) ?_
      refine AllReadyH.cons (o := ⟨some 8, _, _, _, _, _⟩) rfl (fun K hK => ?_) AllReadyH.nil
      go_simp
      obtain ⟨bb, hbb⟩ : ∃ bb, bb = aheadB a b c := ⟨_, rfl⟩
      have hc := HA0.out v0
      rw [← hbb] at hc
      have HBB := Lib.hid hbb.symm
      clear hbb
      refine hc.mono ?_
      rintro en w6 ⟨rfl, hb6⟩
      have hbe : Below w.heap.size w w6 := hbd.trans (hb6.mono hbd.size)
      refine hK.out _ _ (⟨hS.1.below hb6, (hb6.block _ hS.2.lt).trans hS.2⟩) (fun hS => ?_)
      clear hK K
      try simp only [Act.put, List.setIfInBounds_toArray, List.set_cons_zero, List.set_cons_succ]
      refine wpAnyH_take (i := 5) (oi := ⟨some 9, _, _, _, _, _⟩) (v := ?_) rfl (by kernel_rfl) (by kernel_rfl) (by kernel_rfl) (fun _ _ _ h => h) (Or.inl ⟨by simp only [Region.wanted], ?_⟩) hS ?_
      rotate_left
      · intro wz hSw
        clear hSw
        go_simp
        first | done | with_reducible rfl
      try simp only [Act.put, List.setIfInBounds_toArray, List.set_cons_zero, List.set_cons_succ]
      refine wpAnyH_done (by kernel_rfl) ?_ _
      clear hbd
      cases bb with
      | true =>
        have hh := HBB.out
        clear hc
        go_wp2_with fail
        go_ret
        refine ⟨?_, hbe⟩
        show _ = Ending.returned (.int .i64 (whichK a b c))
        unfold whichK
        rw [if_pos hh]
        rfl
      | false =>
        have hf : aheadB a b c = false := HBB.out
        clear hc
        go_wp2_with fail
        go_roundw
        case rel => exact ⟨hS.1, hS.2, hbe, .inr (.inl ⟨rfl, hf⟩)⟩
        case measure => simp [intOf]
    · go_wp2_with fail
      refine wp_region_any (by kernel_rfl) ?_
      change wpAny _ _ _ _ _ _ _ (World.drew _)
      refine wpAny_of_held (S := fun (w' : World) => OrdAt w' ∧ Blk w' w.heap.size #[.int .i64 a, .int .i64 b, .int .i64 c] 22) _ _ _ _ ?_
      have hS : (fun (w' : World) => OrdAt w' ∧ Blk w' w.heap.size #[.int .i64 a, .int .i64 b, .int .i64 c] 22) (World.drew wr) := ⟨hor.below (Below.refl _ _).drew, hbl.drew⟩
      have hbd := hbr.drew
      clear hor hbl hbr
      generalize World.drew wr = v0 at hbd hS ⊢
      try simp only [Act.put, List.setIfInBounds_toArray, List.set_cons_zero, List.set_cons_succ]
      refine wpAnyH_take (i := 0) (oi := ⟨some 4, _, _, _, _, _⟩) (v := ?_) rfl (by kernel_rfl) (by kernel_rfl) (by kernel_rfl) (fun _ _ _ h => h) (Or.inl ⟨by simp only [Region.wanted], ?_⟩) hS ?_
      rotate_left
      · intro wz hSw
        clear hSw
        go_simp
        first | done | with_reducible rfl
      try simp only [Act.put, List.setIfInBounds_toArray, List.set_cons_zero, List.set_cons_succ]
      refine wpAnyH_take (i := 1) (oi := ⟨some 5, _, _, _, _, _⟩) (v := ?_) rfl (by kernel_rfl) (by kernel_rfl) (by kernel_rfl) (fun _ _ _ h => h) (Or.inl ⟨by simp only [Region.wanted], ?_⟩) hS ?_
      rotate_left
      · intro wz hSw
        clear hSw
        go_simp
        first | done | with_reducible rfl
      try simp only [Act.put, List.setIfInBounds_toArray, List.set_cons_zero, List.set_cons_succ]
      refine wpAnyH_take (i := 2) (oi := ⟨some 6, _, _, _, _, _⟩) (v := ?_) rfl (by kernel_rfl) (by kernel_rfl) (by kernel_rfl) (fun _ _ _ h => h) (Or.inl ⟨by simp only [Region.wanted], ?_⟩) hS ?_
      rotate_left
      · intro wz hSw; obtain ⟨g0, g1, g2, g3, g4, g5, g6, g7, g8, g9, g10, g11, g12, g13, g14, g15, g16, g17⟩ := hSw.1.2; have hd0 := hSw.2.cell 0; have hd1 := hSw.2.cell 1; have hd2 := hSw.2.cell 2; simp only [List.getElem?_toArray, List.getElem?_cons_zero, List.getElem?_cons_succ] at hd0 hd1 hd2
        clear hSw
        go_simp
        first | done | with_reducible rfl
      try simp only [Act.put, List.setIfInBounds_toArray, List.set_cons_zero, List.set_cons_succ]
      refine wpAnyH_take (i := 3) (oi := ⟨some 7, _, _, _, _, _⟩) (v := ?_) rfl (by kernel_rfl) (by kernel_rfl) (by kernel_rfl) (fun _ _ _ h => h) (Or.inl ⟨by simp only [Region.wanted], ?_⟩) hS ?_
      rotate_left
      · intro wz hSw; obtain ⟨g0, g1, g2, g3, g4, g5, g6, g7, g8, g9, g10, g11, g12, g13, g14, g15, g16, g17⟩ := hSw.1.2; have hd0 := hSw.2.cell 0; have hd1 := hSw.2.cell 1; have hd2 := hSw.2.cell 2; simp only [List.getElem?_toArray, List.getElem?_cons_zero, List.getElem?_cons_succ] at hd0 hd1 hd2
        clear hSw
        go_simp
        first | done | with_reducible rfl
      try simp only [Act.put, List.setIfInBounds_toArray, List.set_cons_zero, List.set_cons_succ]
      refine wpAnyH_ready (rs := [4]) (by kernel_rfl) (by simp) ?_
      refine AllReadyH.cons (o := ⟨some 8, _, _, _, _, _⟩) rfl (fun K hK => ?_) AllReadyH.nil
      go_simp
      obtain ⟨bb, hbb⟩ : ∃ bb, bb = aheadB a c b := ⟨_, rfl⟩
      have hc := HA1.out v0
      rw [← hbb] at hc
      have HBB := Lib.hid hbb.symm
      clear hbb
      refine hc.mono ?_
      rintro en w6 ⟨rfl, hb6⟩
      have hbe : Below w.heap.size w w6 := hbd.trans (hb6.mono hbd.size)
      refine hK.out _ _ (⟨hS.1.below hb6, (hb6.block _ hS.2.lt).trans hS.2⟩) (fun hS => ?_)
      clear hK K
      try simp only [Act.put, List.setIfInBounds_toArray, List.set_cons_zero, List.set_cons_succ]
      refine wpAnyH_take (i := 5) (oi := ⟨some 9, _, _, _, _, _⟩) (v := ?_) rfl (by kernel_rfl) (by kernel_rfl) (by kernel_rfl) (fun _ _ _ h => h) (Or.inl ⟨by simp only [Region.wanted], ?_⟩) hS ?_
      rotate_left
      · intro wz hSw
        clear hSw
        go_simp
        first | done | with_reducible rfl
      try simp only [Act.put, List.setIfInBounds_toArray, List.set_cons_zero, List.set_cons_succ]
      refine wpAnyH_done (by kernel_rfl) ?_ _
      clear hbd
      cases bb with
      | true =>
        have hh := HBB.out
        clear hc
        go_wp2_with fail
        go_ret
        refine ⟨?_, hbe⟩
        show _ = Ending.returned (.int .i64 (whichK a b c))
        unfold whichK
        rw [if_neg (by rw [h0]; simp)]
        rw [if_pos hh]
        rfl
      | false =>
        have hf : aheadB a c b = false := HBB.out
        clear hc
        go_wp2_with fail
        go_roundw
        case rel => exact ⟨hS.1, hS.2, hbe, .inr (.inr (.inl ⟨rfl, h0, hf⟩))⟩
        case measure => simp [intOf]
    · go_wp2_with fail
      refine wp_region_any (by kernel_rfl) ?_
      change wpAny _ _ _ _ _ _ _ (World.drew _)
      refine wpAny_of_held (S := fun (w' : World) => OrdAt w' ∧ Blk w' w.heap.size #[.int .i64 a, .int .i64 b, .int .i64 c] 22) _ _ _ _ ?_
      have hS : (fun (w' : World) => OrdAt w' ∧ Blk w' w.heap.size #[.int .i64 a, .int .i64 b, .int .i64 c] 22) (World.drew wr) := ⟨hor.below (Below.refl _ _).drew, hbl.drew⟩
      have hbd := hbr.drew
      clear hor hbl hbr
      generalize World.drew wr = v0 at hbd hS ⊢
      try simp only [Act.put, List.setIfInBounds_toArray, List.set_cons_zero, List.set_cons_succ]
      refine wpAnyH_take (i := 0) (oi := ⟨some 4, _, _, _, _, _⟩) (v := ?_) rfl (by kernel_rfl) (by kernel_rfl) (by kernel_rfl) (fun _ _ _ h => h) (Or.inl ⟨by simp only [Region.wanted], ?_⟩) hS ?_
      rotate_left
      · intro wz hSw
        clear hSw
        go_simp
        first | done | with_reducible rfl
      try simp only [Act.put, List.setIfInBounds_toArray, List.set_cons_zero, List.set_cons_succ]
      refine wpAnyH_take (i := 1) (oi := ⟨some 5, _, _, _, _, _⟩) (v := ?_) rfl (by kernel_rfl) (by kernel_rfl) (by kernel_rfl) (fun _ _ _ h => h) (Or.inl ⟨by simp only [Region.wanted], ?_⟩) hS ?_
      rotate_left
      · intro wz hSw
        clear hSw
        go_simp
        first | done | with_reducible rfl
      try simp only [Act.put, List.setIfInBounds_toArray, List.set_cons_zero, List.set_cons_succ]
      refine wpAnyH_take (i := 2) (oi := ⟨some 6, _, _, _, _, _⟩) (v := ?_) rfl (by kernel_rfl) (by kernel_rfl) (by kernel_rfl) (fun _ _ _ h => h) (Or.inl ⟨by simp only [Region.wanted], ?_⟩) hS ?_
      rotate_left
      · intro wz hSw; obtain ⟨g0, g1, g2, g3, g4, g5, g6, g7, g8, g9, g10, g11, g12, g13, g14, g15, g16, g17⟩ := hSw.1.2; have hd0 := hSw.2.cell 0; have hd1 := hSw.2.cell 1; have hd2 := hSw.2.cell 2; simp only [List.getElem?_toArray, List.getElem?_cons_zero, List.getElem?_cons_succ] at hd0 hd1 hd2
        clear hSw
        go_simp
        first | done | with_reducible rfl
      try simp only [Act.put, List.setIfInBounds_toArray, List.set_cons_zero, List.set_cons_succ]
      refine wpAnyH_take (i := 3) (oi := ⟨some 7, _, _, _, _, _⟩) (v := ?_) rfl (by kernel_rfl) (by kernel_rfl) (by kernel_rfl) (fun _ _ _ h => h) (Or.inl ⟨by simp only [Region.wanted], ?_⟩) hS ?_
      rotate_left
      · intro wz hSw; obtain ⟨g0, g1, g2, g3, g4, g5, g6, g7, g8, g9, g10, g11, g12, g13, g14, g15, g16, g17⟩ := hSw.1.2; have hd0 := hSw.2.cell 0; have hd1 := hSw.2.cell 1; have hd2 := hSw.2.cell 2; simp only [List.getElem?_toArray, List.getElem?_cons_zero, List.getElem?_cons_succ] at hd0 hd1 hd2
        clear hSw
        go_simp
        first | done | with_reducible rfl
      try simp only [Act.put, List.setIfInBounds_toArray, List.set_cons_zero, List.set_cons_succ]
      refine wpAnyH_ready (rs := [4]) (by kernel_rfl) (by simp) ?_
      refine AllReadyH.cons (o := ⟨some 8, _, _, _, _, _⟩) rfl (fun K hK => ?_) AllReadyH.nil
      go_simp
      obtain ⟨bb, hbb⟩ : ∃ bb, bb = aheadB b a c := ⟨_, rfl⟩
      have hc := HA2.out v0
      rw [← hbb] at hc
      have HBB := Lib.hid hbb.symm
      clear hbb
      refine hc.mono ?_
      rintro en w6 ⟨rfl, hb6⟩
      have hbe : Below w.heap.size w w6 := hbd.trans (hb6.mono hbd.size)
      refine hK.out _ _ (⟨hS.1.below hb6, (hb6.block _ hS.2.lt).trans hS.2⟩) (fun hS => ?_)
      clear hK K
      try simp only [Act.put, List.setIfInBounds_toArray, List.set_cons_zero, List.set_cons_succ]
      refine wpAnyH_take (i := 5) (oi := ⟨some 9, _, _, _, _, _⟩) (v := ?_) rfl (by kernel_rfl) (by kernel_rfl) (by kernel_rfl) (fun _ _ _ h => h) (Or.inl ⟨by simp only [Region.wanted], ?_⟩) hS ?_
      rotate_left
      · intro wz hSw
        clear hSw
        go_simp
        first | done | with_reducible rfl
      try simp only [Act.put, List.setIfInBounds_toArray, List.set_cons_zero, List.set_cons_succ]
      refine wpAnyH_done (by kernel_rfl) ?_ _
      clear hbd
      cases bb with
      | true =>
        have hh := HBB.out
        clear hc
        go_wp2_with fail
        go_ret
        refine ⟨?_, hbe⟩
        show _ = Ending.returned (.int .i64 (whichK a b c))
        unfold whichK
        rw [if_neg (by rw [h0]; simp)]
        rw [if_neg (by rw [h1]; simp)]
        rw [if_pos hh]
        rfl
      | false =>
        have hf : aheadB b a c = false := HBB.out
        clear hc
        go_wp2_with fail
        go_roundw
        case rel => exact ⟨hS.1, hS.2, hbe, .inr (.inr (.inr (.inl ⟨rfl, h0, h1, hf⟩)))⟩
        case measure => simp [intOf]
    · go_wp2_with fail
      refine wp_region_any (by kernel_rfl) ?_
      change wpAny _ _ _ _ _ _ _ (World.drew _)
      refine wpAny_of_held (S := fun (w' : World) => OrdAt w' ∧ Blk w' w.heap.size #[.int .i64 a, .int .i64 b, .int .i64 c] 22) _ _ _ _ ?_
      have hS : (fun (w' : World) => OrdAt w' ∧ Blk w' w.heap.size #[.int .i64 a, .int .i64 b, .int .i64 c] 22) (World.drew wr) := ⟨hor.below (Below.refl _ _).drew, hbl.drew⟩
      have hbd := hbr.drew
      clear hor hbl hbr
      generalize World.drew wr = v0 at hbd hS ⊢
      try simp only [Act.put, List.setIfInBounds_toArray, List.set_cons_zero, List.set_cons_succ]
      refine wpAnyH_take (i := 0) (oi := ⟨some 4, _, _, _, _, _⟩) (v := ?_) rfl (by kernel_rfl) (by kernel_rfl) (by kernel_rfl) (fun _ _ _ h => h) (Or.inl ⟨by simp only [Region.wanted], ?_⟩) hS ?_
      rotate_left
      · intro wz hSw
        clear hSw
        go_simp
        first | done | with_reducible rfl
      try simp only [Act.put, List.setIfInBounds_toArray, List.set_cons_zero, List.set_cons_succ]
      refine wpAnyH_take (i := 1) (oi := ⟨some 5, _, _, _, _, _⟩) (v := ?_) rfl (by kernel_rfl) (by kernel_rfl) (by kernel_rfl) (fun _ _ _ h => h) (Or.inl ⟨by simp only [Region.wanted], ?_⟩) hS ?_
      rotate_left
      · intro wz hSw
        clear hSw
        go_simp
        first | done | with_reducible rfl
      try simp only [Act.put, List.setIfInBounds_toArray, List.set_cons_zero, List.set_cons_succ]
      refine wpAnyH_take (i := 2) (oi := ⟨some 6, _, _, _, _, _⟩) (v := ?_) rfl (by kernel_rfl) (by kernel_rfl) (by kernel_rfl) (fun _ _ _ h => h) (Or.inl ⟨by simp only [Region.wanted], ?_⟩) hS ?_
      rotate_left
      · intro wz hSw; obtain ⟨g0, g1, g2, g3, g4, g5, g6, g7, g8, g9, g10, g11, g12, g13, g14, g15, g16, g17⟩ := hSw.1.2; have hd0 := hSw.2.cell 0; have hd1 := hSw.2.cell 1; have hd2 := hSw.2.cell 2; simp only [List.getElem?_toArray, List.getElem?_cons_zero, List.getElem?_cons_succ] at hd0 hd1 hd2
        clear hSw
        go_simp
        first | done | with_reducible rfl
      try simp only [Act.put, List.setIfInBounds_toArray, List.set_cons_zero, List.set_cons_succ]
      refine wpAnyH_take (i := 3) (oi := ⟨some 7, _, _, _, _, _⟩) (v := ?_) rfl (by kernel_rfl) (by kernel_rfl) (by kernel_rfl) (fun _ _ _ h => h) (Or.inl ⟨by simp only [Region.wanted], ?_⟩) hS ?_
      rotate_left
      · intro wz hSw; obtain ⟨g0, g1, g2, g3, g4, g5, g6, g7, g8, g9, g10, g11, g12, g13, g14, g15, g16, g17⟩ := hSw.1.2; have hd0 := hSw.2.cell 0; have hd1 := hSw.2.cell 1; have hd2 := hSw.2.cell 2; simp only [List.getElem?_toArray, List.getElem?_cons_zero, List.getElem?_cons_succ] at hd0 hd1 hd2
        clear hSw
        go_simp
        first | done | with_reducible rfl
      try simp only [Act.put, List.setIfInBounds_toArray, List.set_cons_zero, List.set_cons_succ]
      refine wpAnyH_ready (rs := [4]) (by kernel_rfl) (by simp) ?_
      refine AllReadyH.cons (o := ⟨some 8, _, _, _, _, _⟩) rfl (fun K hK => ?_) AllReadyH.nil
      go_simp
      obtain ⟨bb, hbb⟩ : ∃ bb, bb = aheadB b c a := ⟨_, rfl⟩
      have hc := HA3.out v0
      rw [← hbb] at hc
      have HBB := Lib.hid hbb.symm
      clear hbb
      refine hc.mono ?_
      rintro en w6 ⟨rfl, hb6⟩
      have hbe : Below w.heap.size w w6 := hbd.trans (hb6.mono hbd.size)
      refine hK.out _ _ (⟨hS.1.below hb6, (hb6.block _ hS.2.lt).trans hS.2⟩) (fun hS => ?_)
      clear hK K
      try simp only [Act.put, List.setIfInBounds_toArray, List.set_cons_zero, List.set_cons_succ]
      refine wpAnyH_take (i := 5) (oi := ⟨some 9, _, _, _, _, _⟩) (v := ?_) rfl (by kernel_rfl) (by kernel_rfl) (by kernel_rfl) (fun _ _ _ h => h) (Or.inl ⟨by simp only [Region.wanted], ?_⟩) hS ?_
      rotate_left
      · intro wz hSw
        clear hSw
        go_simp
        first | done | with_reducible rfl
      try simp only [Act.put, List.setIfInBounds_toArray, List.set_cons_zero, List.set_cons_succ]
      refine wpAnyH_done (by kernel_rfl) ?_ _
      clear hbd
      cases bb with
      | true =>
        have hh := HBB.out
        clear hc
        go_wp2_with fail
        go_ret
        refine ⟨?_, hbe⟩
        show _ = Ending.returned (.int .i64 (whichK a b c))
        unfold whichK
        rw [if_neg (by rw [h0]; simp)]
        rw [if_neg (by rw [h1]; simp)]
        rw [if_neg (by rw [h2]; simp)]
        rw [if_pos hh]
        rfl
      | false =>
        have hf : aheadB b c a = false := HBB.out
        clear hc
        go_wp2_with fail
        go_roundw
        case rel => exact ⟨hS.1, hS.2, hbe, .inr (.inr (.inr (.inr (.inl ⟨rfl, h0, h1, h2, hf⟩))))⟩
        case measure => simp [intOf]
    · go_wp2_with fail
      refine wp_region_any (by kernel_rfl) ?_
      change wpAny _ _ _ _ _ _ _ (World.drew _)
      refine wpAny_of_held (S := fun (w' : World) => OrdAt w' ∧ Blk w' w.heap.size #[.int .i64 a, .int .i64 b, .int .i64 c] 22) _ _ _ _ ?_
      have hS : (fun (w' : World) => OrdAt w' ∧ Blk w' w.heap.size #[.int .i64 a, .int .i64 b, .int .i64 c] 22) (World.drew wr) := ⟨hor.below (Below.refl _ _).drew, hbl.drew⟩
      have hbd := hbr.drew
      clear hor hbl hbr
      generalize World.drew wr = v0 at hbd hS ⊢
      try simp only [Act.put, List.setIfInBounds_toArray, List.set_cons_zero, List.set_cons_succ]
      refine wpAnyH_take (i := 0) (oi := ⟨some 4, _, _, _, _, _⟩) (v := ?_) rfl (by kernel_rfl) (by kernel_rfl) (by kernel_rfl) (fun _ _ _ h => h) (Or.inl ⟨by simp only [Region.wanted], ?_⟩) hS ?_
      rotate_left
      · intro wz hSw
        clear hSw
        go_simp
        first | done | with_reducible rfl
      try simp only [Act.put, List.setIfInBounds_toArray, List.set_cons_zero, List.set_cons_succ]
      refine wpAnyH_take (i := 1) (oi := ⟨some 5, _, _, _, _, _⟩) (v := ?_) rfl (by kernel_rfl) (by kernel_rfl) (by kernel_rfl) (fun _ _ _ h => h) (Or.inl ⟨by simp only [Region.wanted], ?_⟩) hS ?_
      rotate_left
      · intro wz hSw
        clear hSw
        go_simp
        first | done | with_reducible rfl
      try simp only [Act.put, List.setIfInBounds_toArray, List.set_cons_zero, List.set_cons_succ]
      refine wpAnyH_take (i := 2) (oi := ⟨some 6, _, _, _, _, _⟩) (v := ?_) rfl (by kernel_rfl) (by kernel_rfl) (by kernel_rfl) (fun _ _ _ h => h) (Or.inl ⟨by simp only [Region.wanted], ?_⟩) hS ?_
      rotate_left
      · intro wz hSw; obtain ⟨g0, g1, g2, g3, g4, g5, g6, g7, g8, g9, g10, g11, g12, g13, g14, g15, g16, g17⟩ := hSw.1.2; have hd0 := hSw.2.cell 0; have hd1 := hSw.2.cell 1; have hd2 := hSw.2.cell 2; simp only [List.getElem?_toArray, List.getElem?_cons_zero, List.getElem?_cons_succ] at hd0 hd1 hd2
        clear hSw
        go_simp
        first | done | with_reducible rfl
      try simp only [Act.put, List.setIfInBounds_toArray, List.set_cons_zero, List.set_cons_succ]
      refine wpAnyH_take (i := 3) (oi := ⟨some 7, _, _, _, _, _⟩) (v := ?_) rfl (by kernel_rfl) (by kernel_rfl) (by kernel_rfl) (fun _ _ _ h => h) (Or.inl ⟨by simp only [Region.wanted], ?_⟩) hS ?_
      rotate_left
      · intro wz hSw; obtain ⟨g0, g1, g2, g3, g4, g5, g6, g7, g8, g9, g10, g11, g12, g13, g14, g15, g16, g17⟩ := hSw.1.2; have hd0 := hSw.2.cell 0; have hd1 := hSw.2.cell 1; have hd2 := hSw.2.cell 2; simp only [List.getElem?_toArray, List.getElem?_cons_zero, List.getElem?_cons_succ] at hd0 hd1 hd2
        clear hSw
        go_simp
        first | done | with_reducible rfl
      try simp only [Act.put, List.setIfInBounds_toArray, List.set_cons_zero, List.set_cons_succ]
      refine wpAnyH_ready (rs := [4]) (by kernel_rfl) (by simp) ?_
      refine AllReadyH.cons (o := ⟨some 8, _, _, _, _, _⟩) rfl (fun K hK => ?_) AllReadyH.nil
      go_simp
      obtain ⟨bb, hbb⟩ : ∃ bb, bb = aheadB c a b := ⟨_, rfl⟩
      have hc := HA4.out v0
      rw [← hbb] at hc
      have HBB := Lib.hid hbb.symm
      clear hbb
      refine hc.mono ?_
      rintro en w6 ⟨rfl, hb6⟩
      have hbe : Below w.heap.size w w6 := hbd.trans (hb6.mono hbd.size)
      refine hK.out _ _ (⟨hS.1.below hb6, (hb6.block _ hS.2.lt).trans hS.2⟩) (fun hS => ?_)
      clear hK K
      try simp only [Act.put, List.setIfInBounds_toArray, List.set_cons_zero, List.set_cons_succ]
      refine wpAnyH_take (i := 5) (oi := ⟨some 9, _, _, _, _, _⟩) (v := ?_) rfl (by kernel_rfl) (by kernel_rfl) (by kernel_rfl) (fun _ _ _ h => h) (Or.inl ⟨by simp only [Region.wanted], ?_⟩) hS ?_
      rotate_left
      · intro wz hSw
        clear hSw
        go_simp
        first | done | with_reducible rfl
      try simp only [Act.put, List.setIfInBounds_toArray, List.set_cons_zero, List.set_cons_succ]
      refine wpAnyH_done (by kernel_rfl) ?_ _
      clear hbd
      cases bb with
      | true =>
        have hh := HBB.out
        clear hc
        go_wp2_with fail
        go_ret
        refine ⟨?_, hbe⟩
        show _ = Ending.returned (.int .i64 (whichK a b c))
        unfold whichK
        rw [if_neg (by rw [h0]; simp)]
        rw [if_neg (by rw [h1]; simp)]
        rw [if_neg (by rw [h2]; simp)]
        rw [if_neg (by rw [h3]; simp)]
        rw [if_pos hh]
        rfl
      | false =>
        have hf : aheadB c a b = false := HBB.out
        clear hc
        go_wp2_with fail
        go_roundw
        case rel => exact ⟨hS.1, hS.2, hbe, .inr (.inr (.inr (.inr (.inr (⟨rfl, h0, h1, h2, h3, hf⟩)))))⟩
        case measure => simp [intOf]
    · go_wp2_with fail
      refine wp_region_any (by kernel_rfl) ?_
      change wpAny _ _ _ _ _ _ _ (World.drew _)
      refine wpAny_of_held (S := fun (w' : World) => OrdAt w' ∧ Blk w' w.heap.size #[.int .i64 a, .int .i64 b, .int .i64 c] 22) _ _ _ _ ?_
      have hS : (fun (w' : World) => OrdAt w' ∧ Blk w' w.heap.size #[.int .i64 a, .int .i64 b, .int .i64 c] 22) (World.drew wr) := ⟨hor.below (Below.refl _ _).drew, hbl.drew⟩
      have hbd := hbr.drew
      clear hor hbl hbr
      generalize World.drew wr = v0 at hbd hS ⊢
      try simp only [Act.put, List.setIfInBounds_toArray, List.set_cons_zero, List.set_cons_succ]
      refine wpAnyH_take (i := 0) (oi := ⟨some 4, _, _, _, _, _⟩) (v := ?_) rfl (by kernel_rfl) (by kernel_rfl) (by kernel_rfl) (fun _ _ _ h => h) (Or.inl ⟨by simp only [Region.wanted], ?_⟩) hS ?_
      rotate_left
      · intro wz hSw
        clear hSw
        go_simp
        first | done | with_reducible rfl
      try simp only [Act.put, List.setIfInBounds_toArray, List.set_cons_zero, List.set_cons_succ]
      refine wpAnyH_take (i := 1) (oi := ⟨some 5, _, _, _, _, _⟩) (v := ?_) rfl (by kernel_rfl) (by kernel_rfl) (by kernel_rfl) (fun _ _ _ h => h) (Or.inl ⟨by simp only [Region.wanted], ?_⟩) hS ?_
      rotate_left
      · intro wz hSw
        clear hSw
        go_simp
        first | done | with_reducible rfl
      try simp only [Act.put, List.setIfInBounds_toArray, List.set_cons_zero, List.set_cons_succ]
      refine wpAnyH_take (i := 2) (oi := ⟨some 6, _, _, _, _, _⟩) (v := ?_) rfl (by kernel_rfl) (by kernel_rfl) (by kernel_rfl) (fun _ _ _ h => h) (Or.inl ⟨by simp only [Region.wanted], ?_⟩) hS ?_
      rotate_left
      · intro wz hSw; obtain ⟨g0, g1, g2, g3, g4, g5, g6, g7, g8, g9, g10, g11, g12, g13, g14, g15, g16, g17⟩ := hSw.1.2; have hd0 := hSw.2.cell 0; have hd1 := hSw.2.cell 1; have hd2 := hSw.2.cell 2; simp only [List.getElem?_toArray, List.getElem?_cons_zero, List.getElem?_cons_succ] at hd0 hd1 hd2
        clear hSw
        go_simp
        first | done | with_reducible rfl
      try simp only [Act.put, List.setIfInBounds_toArray, List.set_cons_zero, List.set_cons_succ]
      refine wpAnyH_take (i := 3) (oi := ⟨some 7, _, _, _, _, _⟩) (v := ?_) rfl (by kernel_rfl) (by kernel_rfl) (by kernel_rfl) (fun _ _ _ h => h) (Or.inl ⟨by simp only [Region.wanted], ?_⟩) hS ?_
      rotate_left
      · intro wz hSw; obtain ⟨g0, g1, g2, g3, g4, g5, g6, g7, g8, g9, g10, g11, g12, g13, g14, g15, g16, g17⟩ := hSw.1.2; have hd0 := hSw.2.cell 0; have hd1 := hSw.2.cell 1; have hd2 := hSw.2.cell 2; simp only [List.getElem?_toArray, List.getElem?_cons_zero, List.getElem?_cons_succ] at hd0 hd1 hd2
        clear hSw
        go_simp
        first | done | with_reducible rfl
      try simp only [Act.put, List.setIfInBounds_toArray, List.set_cons_zero, List.set_cons_succ]
      refine wpAnyH_ready (rs := [4]) (by kernel_rfl) (by simp) ?_
      refine AllReadyH.cons (o := ⟨some 8, _, _, _, _, _⟩) rfl (fun K hK => ?_) AllReadyH.nil
      go_simp
      obtain ⟨bb, hbb⟩ : ∃ bb, bb = aheadB c b a := ⟨_, rfl⟩
      have hc := HA5.out v0
      rw [← hbb] at hc
      have HBB := Lib.hid hbb.symm
      clear hbb
      refine hc.mono ?_
      rintro en w6 ⟨rfl, hb6⟩
      have hbe : Below w.heap.size w w6 := hbd.trans (hb6.mono hbd.size)
      refine hK.out _ _ (⟨hS.1.below hb6, (hb6.block _ hS.2.lt).trans hS.2⟩) (fun hS => ?_)
      clear hK K
      try simp only [Act.put, List.setIfInBounds_toArray, List.set_cons_zero, List.set_cons_succ]
      refine wpAnyH_take (i := 5) (oi := ⟨some 9, _, _, _, _, _⟩) (v := ?_) rfl (by kernel_rfl) (by kernel_rfl) (by kernel_rfl) (fun _ _ _ h => h) (Or.inl ⟨by simp only [Region.wanted], ?_⟩) hS ?_
      rotate_left
      · intro wz hSw
        clear hSw
        go_simp
        first | done | with_reducible rfl
      try simp only [Act.put, List.setIfInBounds_toArray, List.set_cons_zero, List.set_cons_succ]
      refine wpAnyH_done (by kernel_rfl) ?_ _
      clear hbd
      have hh := whichK_last a b c h0 h1 h2 h3 h4
      have hb' := HBB.out
      rw [hh] at hb'
      subst hb'
      clear hc
      go_wp2_with fail
      go_ret
      refine ⟨?_, hbe⟩
      show _ = Ending.returned (.int .i64 (whichK a b c))
      unfold whichK
      rw [if_neg (by rw [h0]; simp)]
      rw [if_neg (by rw [h1]; simp)]
      rw [if_neg (by rw [h2]; simp)]
      rw [if_neg (by rw [h3]; simp)]
      rw [if_neg (by rw [h4]; simp)]
      rfl
end Go.Proofs.YtpfjbcfnpfgidaaDoor
