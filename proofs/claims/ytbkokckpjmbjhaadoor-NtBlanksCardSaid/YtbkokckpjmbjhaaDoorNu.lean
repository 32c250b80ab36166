/- Triples held against one another: Less; rows as they read; Same. -/
import Derived.Test.YtbkokckpjmbjhaaDoorNs
import Derived.Test.YtbkokckpjmbjhaaDoorTi
import Derived.Deep.LoopGhost
import Derived.Deep.RegionLaw
import Derived.ChangeKeysEq
namespace Go.Proofs.YtbkokckpjmbjhaaDoor
open Go.RowKit Go.Shelf
set_option maxRecDepth 100000
set_option linter.unusedVariables false
theorem rcells_at : ∀ (l : List Tri3) (k : Nat) (hk : k < l.length) (j : Nat), j < 12 → (rcells l)[k * 12 + j]? = (rcells1 l[k])[j]?
  | x :: l, 0, _, j, hj => by
    show (rcells1 x ++ rcells l)[0 * 12 + j]? = (rcells1 x)[j]?
    rw [Nat.zero_mul, Nat.zero_add, List.getElem?_append_left (by show j < 12; exact hj)]
  | x :: l, k + 1, hk, j, hj => by
    show (rcells1 x ++ rcells l)[(k + 1) * 12 + j]? = (rcells1 (l[k]'(by simpa using hk)))[j]?
    rw [List.getElem?_append_right (by show 12 ≤ _; omega), ← rcells_at l k (by simpa using hk) j hj]
    congr 1
    show (k + 1) * 12 + j - 12 = _
    omega
def Tri3.Ok (x : Tri3) : Prop := x.1.Ok ∧ x.2.1.Ok ∧ x.2.2.Ok
/-- A row of the call's own reads as it does. -/
theorem OwR.trs {w : World} {base : Nat} {v : Value} {l : List Tri3} (h : OwR w base v l) (hok : ∀ x ∈ l, Tri3.Ok x) : Trs w v l := by
  have hlt := h.lt
  obtain ⟨ao, cap, rfl, h1, h2⟩ := h.form
  refine ⟨ao, cap, rfl, h1, by unfold maxLen; omega, fun k hk => ?_⟩
  have hx := hok l[k] (List.getElem_mem hk)
  obtain ⟨g, rfl⟩ : ∃ g, ao = some ⟨g, 0, none⟩ := by
    rcases h.2 with ⟨h3, h4⟩ | ⟨g, cap', cur, h3, -⟩
    · omega
    · simp only [Value.slice.injEq] at h3
      exact ⟨g, h3.1⟩
  refine ⟨g, 0, rfl, (hlt g rfl).2, ?_⟩
  have hc : ∀ j, j < 12 → w.cell? ⟨g, k * 12 + j, none⟩ = (rcells1 l[k])[j]? := fun j hj => by
    rw [World.ownsRow.cellAt h (k * 12 + j) (by omega)]
    exact rcells_at l k hk j hj
  rw [Nat.zero_add]
  exact ⟨⟨hc 0 (by decide), hc 1 (by decide), hc 2 (by decide), hc 3 (by decide), hx.1⟩, ⟨hc 4 (by decide), hc 5 (by decide), hc 6 (by decide), hc 7 (by decide), hx.2.1⟩, ⟨hc 8 (by decide), hc 9 (by decide), hc 10 (by decide), hc 11 (by decide), hx.2.2⟩⟩
theorem below_drew {b : Nat} {w w' : World} (h : Below b w w') : Below b w w'.drew := ⟨h.os, h.tape, h.output, h.size, h.block⟩
set_option maxHeartbeats 16000000 in
theorem rless_any (x y : Tri3) (w : World) : Calls Tryd.prog 13 #[tri x.1 x.2.1 x.2.2, tri y.1 y.2.1 y.2.2] w fun e w' => ∃ t : Bool, e = .returned (.bool t) ∧ Below w.heap.size w w' := by
  obtain ⟨⟨x1k, x1s, x1l, x1t⟩, ⟨x2k, x2s, x2l, x2t⟩, ⟨x3k, x3s, x3l, x3t⟩⟩ := x
  obtain ⟨⟨y1k, y1s, y1l, y1t⟩, ⟨y2k, y2s, y2l, y2t⟩, ⟨y3k, y3s, y3l, y3t⟩⟩ := y
  have HC0 := Lib.hid (fun w => rcompare_any ⟨x1k, x1s, x1l, x1t⟩ ⟨y1k, y1s, y1l, y1t⟩ w)
  have HC1 := Lib.hid (fun w => rcompare_any ⟨x2k, x2s, x2l, x2t⟩ ⟨y2k, y2s, y2l, y2t⟩ w)
  have HC2 := Lib.hid (fun w => rcompare_any ⟨x3k, x3s, x3l, x3t⟩ ⟨y3k, y3s, y3l, y3t⟩ w)
  generalize cmpT _ _ = C0 at HC0
  generalize cmpT _ _ = C1 at HC1
  generalize cmpT _ _ = C2 at HC2
  unfold Tm.val at HC0 HC1 HC2
  unfold tri
  dsimp only at HC0 HC1 HC2 ⊢
  have hbel0 : Below w.heap.size w ((w.alloc (.cells #[.int .i64 x1k, .string x1s, .string x1l, .string x1t, .int .i64 x2k, .string x2s, .string x2l, .string x2t, .int .i64 x3k, .string x3s, .string x3l, .string x3t] 33)).alloc (.cells #[.int .i64 y1k, .string y1s, .string y1l, .string y1t, .int .i64 y2k, .string y2s, .string y2l, .string y2t, .int .i64 y3k, .string y3s, .string y3l, .string y3t] 33)) := ((Below.refl _ w).alloc (Nat.le_refl _) _).alloc (by simp) _
  have hX0 : Blk ((w.alloc (.cells #[.int .i64 x1k, .string x1s, .string x1l, .string x1t, .int .i64 x2k, .string x2s, .string x2l, .string x2t, .int .i64 x3k, .string x3s, .string x3l, .string x3t] 33)).alloc (.cells #[.int .i64 y1k, .string y1s, .string y1l, .string y1t, .int .i64 y2k, .string y2s, .string y2l, .string y2t, .int .i64 y3k, .string y3s, .string y3l, .string y3t] 33)) w.heap.size #[.int .i64 x1k, .string x1s, .string x1l, .string x1t, .int .i64 x2k, .string x2s, .string x2l, .string x2t, .int .i64 x3k, .string x3s, .string x3l, .string x3t] 33 := (Blk.new w _ _).alloc _
  have hY0 := Blk.new (w.alloc (.cells #[.int .i64 x1k, .string x1s, .string x1l, .string x1t, .int .i64 x2k, .string x2s, .string x2l, .string x2t, .int .i64 x3k, .string x3s, .string x3l, .string x3t] 33)) #[.int .i64 y1k, .string y1s, .string y1l, .string y1t, .int .i64 y2k, .string y2s, .string y2l, .string y2t, .int .i64 y3k, .string y3s, .string y3l, .string y3t] 33
  rw [show (w.alloc (.cells #[.int .i64 x1k, .string x1s, .string x1l, .string x1t, .int .i64 x2k, .string x2s, .string x2l, .string x2t, .int .i64 x3k, .string x3s, .string x3l, .string x3t] 33)).heap.size = w.heap.size + 1 by simp] at hY0
  go_enter Tryd.func13, Tryd.ntmps13
  go_wp2_with fail
  generalize World.alloc (World.alloc w _) _ = w1 at hbel0 hX0 hY0 ⊢
  go_loopg [5, 6] 3 (fun g s5 _ wx => ∃ i : Nat, i + g = 3 ∧ s5 = .int .i64 i ∧ Blk wx w.heap.size #[.int .i64 x1k, .string x1s, .string x1l, .string x1t, .int .i64 x2k, .string x2s, .string x2l, .string x2t, .int .i64 x3k, .string x3s, .string x3l, .string x3t] 33 ∧ Blk wx (w.heap.size + 1) #[.int .i64 y1k, .string y1s, .string y1l, .string y1t, .int .i64 y2k, .string y2s, .string y2l, .string y2t, .int .i64 y3k, .string y3s, .string y3l, .string y3t] 33 ∧ Below w.heap.size w wx)
  case atStart => exact ⟨0, rfl, rfl, hX0, hY0, hbel0⟩
  case round =>
    obtain ⟨i, hig, rfl, hX, hY, hbel⟩ := hrel
    clear hX0 hY0 hbel0
    match gk, hig with
    | 0, hig =>
      obtain rfl : i = 3 := by omega
      clear hig
      go_wp2_with fail
      go_ret
      exact ⟨false, rfl, hbel⟩
    | 1, hig =>
      obtain rfl : i = 2 := by omega
      clear hig
      by_cases hc0 : C2 = 0
      · have hcb : (C2 == 0) = true := by simp [hc0]
        go_wp2_with fail
        refine wp_region_any (by kernel_rfl) ?_
        change wpAny _ _ _ _ _ _ _ (World.drew _)
        refine wpAny_of_held (S := fun W => Below w.heap.size w W ∧ Blk W w.heap.size #[.int .i64 x1k, .string x1s, .string x1l, .string x1t, .int .i64 x2k, .string x2s, .string x2l, .string x2t, .int .i64 x3k, .string x3s, .string x3l, .string x3t] 33 ∧ Blk W (w.heap.size + 1) #[.int .i64 y1k, .string y1s, .string y1l, .string y1t, .int .i64 y2k, .string y2s, .string y2l, .string y2t, .int .i64 y3k, .string y3s, .string y3l, .string y3t] 33) _ _ _ _ ?_
        have hS : (fun W => Below w.heap.size w W ∧ Blk W w.heap.size #[.int .i64 x1k, .string x1s, .string x1l, .string x1t, .int .i64 x2k, .string x2s, .string x2l, .string x2t, .int .i64 x3k, .string x3s, .string x3l, .string x3t] 33 ∧ Blk W (w.heap.size + 1) #[.int .i64 y1k, .string y1s, .string y1l, .string y1t, .int .i64 y2k, .string y2s, .string y2l, .string y2t, .int .i64 y3k, .string y3s, .string y3l, .string y3t] 33) (World.drew wr) := ⟨below_drew hbel, hX.drew, hY.drew⟩
        refine wpAnyH_take (i := 0) (oi := ⟨some 11, _, _, _, _, _⟩) (v := ?_) rfl (by kernel_rfl) (by kernel_rfl) (by kernel_rfl) (fun _ _ _ h => h) (Or.inl ⟨by simp only [Region.wanted], ?_⟩) hS ?_
        rotate_left
        · intro wz hSw
          clear hSw
          go_simp
          first | done | with_reducible rfl
        try simp only [Act.put, List.setIfInBounds_toArray, List.set_cons_zero, List.set_cons_succ]
        refine wpAnyH_take (i := 1) (oi := ⟨some 12, _, _, _, _, _⟩) (v := ?_) rfl (by kernel_rfl) (by kernel_rfl) (by kernel_rfl) (fun _ _ _ h => h) (Or.inl ⟨by simp only [Region.wanted], ?_⟩) hS ?_
        rotate_left
        · intro wz hSw
          clear hSw
          go_simp
          first | done | with_reducible rfl
        try simp only [Act.put, List.setIfInBounds_toArray, List.set_cons_zero, List.set_cons_succ]
        refine wpAnyH_take (i := 2) (oi := ⟨some 13, _, _, _, _, _⟩) (v := ?_) rfl (by kernel_rfl) (by kernel_rfl) (by kernel_rfl) (fun _ _ _ h => h) (Or.inl ⟨by simp only [Region.wanted], ?_⟩) hS ?_
        rotate_left
        · intro wz hSw
          have c0 := hSw.2.1.cell 8
          have c1 := hSw.2.1.cell 9
          have c2 := hSw.2.1.cell 10
          have c3 := hSw.2.1.cell 11
          simp only [List.getElem?_toArray, List.getElem?_cons_zero, List.getElem?_cons_succ] at c0 c1 c2 c3
          clear hSw
          go_simp
          first | done | with_reducible rfl
        try simp only [Act.put, List.setIfInBounds_toArray, List.set_cons_zero, List.set_cons_succ]
        refine wpAnyH_take (i := 3) (oi := ⟨some 14, _, _, _, _, _⟩) (v := ?_) rfl (by kernel_rfl) (by kernel_rfl) (by kernel_rfl) (fun _ _ _ h => h) (Or.inl ⟨by simp only [Region.wanted], ?_⟩) hS ?_
        rotate_left
        · intro wz hSw
          clear hSw
          go_simp
          first | done | with_reducible rfl
        try simp only [Act.put, List.setIfInBounds_toArray, List.set_cons_zero, List.set_cons_succ]
        refine wpAnyH_take (i := 4) (oi := ⟨some 15, _, _, _, _, _⟩) (v := ?_) rfl (by kernel_rfl) (by kernel_rfl) (by kernel_rfl) (fun _ _ _ h => h) (Or.inl ⟨by simp only [Region.wanted], ?_⟩) hS ?_
        rotate_left
        · intro wz hSw
          clear hSw
          go_simp
          first | done | with_reducible rfl
        try simp only [Act.put, List.setIfInBounds_toArray, List.set_cons_zero, List.set_cons_succ]
        refine wpAnyH_take (i := 5) (oi := ⟨some 16, _, _, _, _, _⟩) (v := ?_) rfl (by kernel_rfl) (by kernel_rfl) (by kernel_rfl) (fun _ _ _ h => h) (Or.inl ⟨by simp only [Region.wanted], ?_⟩) hS ?_
        rotate_left
        · intro wz hSw
          have c0 := hSw.2.2.cell 8
          have c1 := hSw.2.2.cell 9
          have c2 := hSw.2.2.cell 10
          have c3 := hSw.2.2.cell 11
          simp only [List.getElem?_toArray, List.getElem?_cons_zero, List.getElem?_cons_succ] at c0 c1 c2 c3
          clear hSw
          go_simp
          first | done | with_reducible rfl
        try simp only [Act.put, List.setIfInBounds_toArray, List.set_cons_zero, List.set_cons_succ]
        refine wpAnyH_ready (rs := [6]) (by kernel_rfl) (by simp) ?_
        refine AllReadyH.cons (o := ⟨some 17, _, _, _, _, _⟩) rfl (fun K hK => ?_) AllReadyH.nil
        go_simp
        refine (HC2.out _).mono ?_
        rintro e wq ⟨rfl, hbq⟩
        go_wp2_with fail
        refine hK.out _ _ (⟨hS.1.trans (hbq.mono hS.1.size), (hbq.block _ hS.2.1.lt).trans hS.2.1, (hbq.block _ hS.2.2.lt).trans hS.2.2⟩) (fun hS => ?_)
        clear hK K
        try simp only [Act.put, List.setIfInBounds_toArray, List.set_cons_zero, List.set_cons_succ]
        refine wpAnyH_take (i := 7) (oi := ⟨some 6, _, _, _, _, _⟩) (v := ?_) rfl (by kernel_rfl) (by kernel_rfl) (by kernel_rfl) (fun _ _ _ h => h) (Or.inl ⟨by simp only [Region.wanted], ?_⟩) hS ?_
        rotate_left
        · intro wz hSw
          clear hSw
          go_simp
          first | done | with_reducible rfl
        try simp only [Act.put, List.setIfInBounds_toArray, List.set_cons_zero, List.set_cons_succ]
        refine wpAnyH_done (by kernel_rfl) ?_ _
        go_wp2_with fail
        go_roundg 0
        case measure => omega
        case rel => exact ⟨3, rfl, by go_num, hS.2.1, hS.2.2, hS.1⟩
      · have hcb : (C2 == 0) = false := beq_eq_false_iff_ne.2 hc0
        go_wp2_with fail
        refine wp_region_any (by kernel_rfl) ?_
        change wpAny _ _ _ _ _ _ _ (World.drew _)
        refine wpAny_of_held (S := fun W => Below w.heap.size w W ∧ Blk W w.heap.size #[.int .i64 x1k, .string x1s, .string x1l, .string x1t, .int .i64 x2k, .string x2s, .string x2l, .string x2t, .int .i64 x3k, .string x3s, .string x3l, .string x3t] 33 ∧ Blk W (w.heap.size + 1) #[.int .i64 y1k, .string y1s, .string y1l, .string y1t, .int .i64 y2k, .string y2s, .string y2l, .string y2t, .int .i64 y3k, .string y3s, .string y3l, .string y3t] 33) _ _ _ _ ?_
        have hS : (fun W => Below w.heap.size w W ∧ Blk W w.heap.size #[.int .i64 x1k, .string x1s, .string x1l, .string x1t, .int .i64 x2k, .string x2s, .string x2l, .string x2t, .int .i64 x3k, .string x3s, .string x3l, .string x3t] 33 ∧ Blk W (w.heap.size + 1) #[.int .i64 y1k, .string y1s, .string y1l, .string y1t, .int .i64 y2k, .string y2s, .string y2l, .string y2t, .int .i64 y3k, .string y3s, .string y3l, .string y3t] 33) (World.drew wr) := ⟨below_drew hbel, hX.drew, hY.drew⟩
        refine wpAnyH_take (i := 0) (oi := ⟨some 11, _, _, _, _, _⟩) (v := ?_) rfl (by kernel_rfl) (by kernel_rfl) (by kernel_rfl) (fun _ _ _ h => h) (Or.inl ⟨by simp only [Region.wanted], ?_⟩) hS ?_
        rotate_left
        · intro wz hSw
          clear hSw
          go_simp
          first | done | with_reducible rfl
        try simp only [Act.put, List.setIfInBounds_toArray, List.set_cons_zero, List.set_cons_succ]
        refine wpAnyH_take (i := 1) (oi := ⟨some 12, _, _, _, _, _⟩) (v := ?_) rfl (by kernel_rfl) (by kernel_rfl) (by kernel_rfl) (fun _ _ _ h => h) (Or.inl ⟨by simp only [Region.wanted], ?_⟩) hS ?_
        rotate_left
        · intro wz hSw
          clear hSw
          go_simp
          first | done | with_reducible rfl
        try simp only [Act.put, List.setIfInBounds_toArray, List.set_cons_zero, List.set_cons_succ]
        refine wpAnyH_take (i := 2) (oi := ⟨some 13, _, _, _, _, _⟩) (v := ?_) rfl (by kernel_rfl) (by kernel_rfl) (by kernel_rfl) (fun _ _ _ h => h) (Or.inl ⟨by simp only [Region.wanted], ?_⟩) hS ?_
        rotate_left
        · intro wz hSw
          have c0 := hSw.2.1.cell 8
          have c1 := hSw.2.1.cell 9
          have c2 := hSw.2.1.cell 10
          have c3 := hSw.2.1.cell 11
          simp only [List.getElem?_toArray, List.getElem?_cons_zero, List.getElem?_cons_succ] at c0 c1 c2 c3
          clear hSw
          go_simp
          first | done | with_reducible rfl
        try simp only [Act.put, List.setIfInBounds_toArray, List.set_cons_zero, List.set_cons_succ]
        refine wpAnyH_take (i := 3) (oi := ⟨some 14, _, _, _, _, _⟩) (v := ?_) rfl (by kernel_rfl) (by kernel_rfl) (by kernel_rfl) (fun _ _ _ h => h) (Or.inl ⟨by simp only [Region.wanted], ?_⟩) hS ?_
        rotate_left
        · intro wz hSw
          clear hSw
          go_simp
          first | done | with_reducible rfl
        try simp only [Act.put, List.setIfInBounds_toArray, List.set_cons_zero, List.set_cons_succ]
        refine wpAnyH_take (i := 4) (oi := ⟨some 15, _, _, _, _, _⟩) (v := ?_) rfl (by kernel_rfl) (by kernel_rfl) (by kernel_rfl) (fun _ _ _ h => h) (Or.inl ⟨by simp only [Region.wanted], ?_⟩) hS ?_
        rotate_left
        · intro wz hSw
          clear hSw
          go_simp
          first | done | with_reducible rfl
        try simp only [Act.put, List.setIfInBounds_toArray, List.set_cons_zero, List.set_cons_succ]
        refine wpAnyH_take (i := 5) (oi := ⟨some 16, _, _, _, _, _⟩) (v := ?_) rfl (by kernel_rfl) (by kernel_rfl) (by kernel_rfl) (fun _ _ _ h => h) (Or.inl ⟨by simp only [Region.wanted], ?_⟩) hS ?_
        rotate_left
        · intro wz hSw
          have c0 := hSw.2.2.cell 8
          have c1 := hSw.2.2.cell 9
          have c2 := hSw.2.2.cell 10
          have c3 := hSw.2.2.cell 11
          simp only [List.getElem?_toArray, List.getElem?_cons_zero, List.getElem?_cons_succ] at c0 c1 c2 c3
          clear hSw
          go_simp
          first | done | with_reducible rfl
        try simp only [Act.put, List.setIfInBounds_toArray, List.set_cons_zero, List.set_cons_succ]
        refine wpAnyH_ready (rs := [6]) (by kernel_rfl) (by simp) ?_
        refine AllReadyH.cons (o := ⟨some 17, _, _, _, _, _⟩) rfl (fun K hK => ?_) AllReadyH.nil
        go_simp
        refine (HC2.out _).mono ?_
        rintro e wq ⟨rfl, hbq⟩
        go_wp2_with fail
        refine hK.out _ _ (⟨hS.1.trans (hbq.mono hS.1.size), (hbq.block _ hS.2.1.lt).trans hS.2.1, (hbq.block _ hS.2.2.lt).trans hS.2.2⟩) (fun hS => ?_)
        clear hK K
        try simp only [Act.put, List.setIfInBounds_toArray, List.set_cons_zero, List.set_cons_succ]
        refine wpAnyH_take (i := 7) (oi := ⟨some 6, _, _, _, _, _⟩) (v := ?_) rfl (by kernel_rfl) (by kernel_rfl) (by kernel_rfl) (fun _ _ _ h => h) (Or.inl ⟨by simp only [Region.wanted], ?_⟩) hS ?_
        rotate_left
        · intro wz hSw
          clear hSw
          go_simp
          first | done | with_reducible rfl
        try simp only [Act.put, List.setIfInBounds_toArray, List.set_cons_zero, List.set_cons_succ]
        refine wpAnyH_done (by kernel_rfl) ?_ _
        go_wp2_with fail
        go_ret
        exact ⟨_, rfl, hS.1⟩
    | 2, hig =>
      obtain rfl : i = 1 := by omega
      clear hig
      by_cases hc0 : C1 = 0
      · have hcb : (C1 == 0) = true := by simp [hc0]
        go_wp2_with fail
        refine wp_region_any (by kernel_rfl) ?_
        change wpAny _ _ _ _ _ _ _ (World.drew _)
        refine wpAny_of_held (S := fun W => Below w.heap.size w W ∧ Blk W w.heap.size #[.int .i64 x1k, .string x1s, .string x1l, .string x1t, .int .i64 x2k, .string x2s, .string x2l, .string x2t, .int .i64 x3k, .string x3s, .string x3l, .string x3t] 33 ∧ Blk W (w.heap.size + 1) #[.int .i64 y1k, .string y1s, .string y1l, .string y1t, .int .i64 y2k, .string y2s, .string y2l, .string y2t, .int .i64 y3k, .string y3s, .string y3l, .string y3t] 33) _ _ _ _ ?_
        have hS : (fun W => Below w.heap.size w W ∧ Blk W w.heap.size #[.int .i64 x1k, .string x1s, .string x1l, .string x1t, .int .i64 x2k, .string x2s, .string x2l, .string x2t, .int .i64 x3k, .string x3s, .string x3l, .string x3t] 33 ∧ Blk W (w.heap.size + 1) #[.int .i64 y1k, .string y1s, .string y1l, .string y1t, .int .i64 y2k, .string y2s, .string y2l, .string y2t, .int .i64 y3k, .string y3s, .string y3l, .string y3t] 33) (World.drew wr) := ⟨below_drew hbel, hX.drew, hY.drew⟩
        refine wpAnyH_take (i := 0) (oi := ⟨some 11, _, _, _, _, _⟩) (v := ?_) rfl (by kernel_rfl) (by kernel_rfl) (by kernel_rfl) (fun _ _ _ h => h) (Or.inl ⟨by simp only [Region.wanted], ?_⟩) hS ?_
        rotate_left
        · intro wz hSw
          clear hSw
          go_simp
          first | done | with_reducible rfl
        try simp only [Act.put, List.setIfInBounds_toArray, List.set_cons_zero, List.set_cons_succ]
        refine wpAnyH_take (i := 1) (oi := ⟨some 12, _, _, _, _, _⟩) (v := ?_) rfl (by kernel_rfl) (by kernel_rfl) (by kernel_rfl) (fun _ _ _ h => h) (Or.inl ⟨by simp only [Region.wanted], ?_⟩) hS ?_
        rotate_left
        · intro wz hSw
          clear hSw
          go_simp
          first | done | with_reducible rfl
        try simp only [Act.put, List.setIfInBounds_toArray, List.set_cons_zero, List.set_cons_succ]
        refine wpAnyH_take (i := 2) (oi := ⟨some 13, _, _, _, _, _⟩) (v := ?_) rfl (by kernel_rfl) (by kernel_rfl) (by kernel_rfl) (fun _ _ _ h => h) (Or.inl ⟨by simp only [Region.wanted], ?_⟩) hS ?_
        rotate_left
        · intro wz hSw
          have c0 := hSw.2.1.cell 4
          have c1 := hSw.2.1.cell 5
          have c2 := hSw.2.1.cell 6
          have c3 := hSw.2.1.cell 7
          simp only [List.getElem?_toArray, List.getElem?_cons_zero, List.getElem?_cons_succ] at c0 c1 c2 c3
          clear hSw
          go_simp
          first | done | with_reducible rfl
        try simp only [Act.put, List.setIfInBounds_toArray, List.set_cons_zero, List.set_cons_succ]
        refine wpAnyH_take (i := 3) (oi := ⟨some 14, _, _, _, _, _⟩) (v := ?_) rfl (by kernel_rfl) (by kernel_rfl) (by kernel_rfl) (fun _ _ _ h => h) (Or.inl ⟨by simp only [Region.wanted], ?_⟩) hS ?_
        rotate_left
        · intro wz hSw
          clear hSw
          go_simp
          first | done | with_reducible rfl
        try simp only [Act.put, List.setIfInBounds_toArray, List.set_cons_zero, List.set_cons_succ]
        refine wpAnyH_take (i := 4) (oi := ⟨some 15, _, _, _, _, _⟩) (v := ?_) rfl (by kernel_rfl) (by kernel_rfl) (by kernel_rfl) (fun _ _ _ h => h) (Or.inl ⟨by simp only [Region.wanted], ?_⟩) hS ?_
        rotate_left
        · intro wz hSw
          clear hSw
          go_simp
          first | done | with_reducible rfl
        try simp only [Act.put, List.setIfInBounds_toArray, List.set_cons_zero, List.set_cons_succ]
        refine wpAnyH_take (i := 5) (oi := ⟨some 16, _, _, _, _, _⟩) (v := ?_) rfl (by kernel_rfl) (by kernel_rfl) (by kernel_rfl) (fun _ _ _ h => h) (Or.inl ⟨by simp only [Region.wanted], ?_⟩) hS ?_
        rotate_left
        · intro wz hSw
          have c0 := hSw.2.2.cell 4
          have c1 := hSw.2.2.cell 5
          have c2 := hSw.2.2.cell 6
          have c3 := hSw.2.2.cell 7
          simp only [List.getElem?_toArray, List.getElem?_cons_zero, List.getElem?_cons_succ] at c0 c1 c2 c3
          clear hSw
          go_simp
          first | done | with_reducible rfl
        try simp only [Act.put, List.setIfInBounds_toArray, List.set_cons_zero, List.set_cons_succ]
        refine wpAnyH_ready (rs := [6]) (by kernel_rfl) (by simp) ?_
        refine AllReadyH.cons (o := ⟨some 17, _, _, _, _, _⟩) rfl (fun K hK => ?_) AllReadyH.nil
        go_simp
        refine (HC1.out _).mono ?_
        rintro e wq ⟨rfl, hbq⟩
        go_wp2_with fail
        refine hK.out _ _ (⟨hS.1.trans (hbq.mono hS.1.size), (hbq.block _ hS.2.1.lt).trans hS.2.1, (hbq.block _ hS.2.2.lt).trans hS.2.2⟩) (fun hS => ?_)
        clear hK K
        try simp only [Act.put, List.setIfInBounds_toArray, List.set_cons_zero, List.set_cons_succ]
        refine wpAnyH_take (i := 7) (oi := ⟨some 6, _, _, _, _, _⟩) (v := ?_) rfl (by kernel_rfl) (by kernel_rfl) (by kernel_rfl) (fun _ _ _ h => h) (Or.inl ⟨by simp only [Region.wanted], ?_⟩) hS ?_
        rotate_left
        · intro wz hSw
          clear hSw
          go_simp
          first | done | with_reducible rfl
        try simp only [Act.put, List.setIfInBounds_toArray, List.set_cons_zero, List.set_cons_succ]
        refine wpAnyH_done (by kernel_rfl) ?_ _
        go_wp2_with fail
        go_roundg 1
        case measure => omega
        case rel => exact ⟨2, rfl, by go_num, hS.2.1, hS.2.2, hS.1⟩
      · have hcb : (C1 == 0) = false := beq_eq_false_iff_ne.2 hc0
        go_wp2_with fail
        refine wp_region_any (by kernel_rfl) ?_
        change wpAny _ _ _ _ _ _ _ (World.drew _)
        refine wpAny_of_held (S := fun W => Below w.heap.size w W ∧ Blk W w.heap.size #[.int .i64 x1k, .string x1s, .string x1l, .string x1t, .int .i64 x2k, .string x2s, .string x2l, .string x2t, .int .i64 x3k, .string x3s, .string x3l, .string x3t] 33 ∧ Blk W (w.heap.size + 1) #[.int .i64 y1k, .string y1s, .string y1l, .string y1t, .int .i64 y2k, .string y2s, .string y2l, .string y2t, .int .i64 y3k, .string y3s, .string y3l, .string y3t] 33) _ _ _ _ ?_
        have hS : (fun W => Below w.heap.size w W ∧ Blk W w.heap.size #[.int .i64 x1k, .string x1s, .string x1l, .string x1t, .int .i64 x2k, .string x2s, .string x2l, .string x2t, .int .i64 x3k, .string x3s, .string x3l, .string x3t] 33 ∧ Blk W (w.heap.size + 1) #[.int .i64 y1k, .string y1s, .string y1l, .string y1t, .int .i64 y2k, .string y2s, .string y2l, .string y2t, .int .i64 y3k, .string y3s, .string y3l, .string y3t] 33) (World.drew wr) := ⟨below_drew hbel, hX.drew, hY.drew⟩
        refine wpAnyH_take (i := 0) (oi := ⟨some 11, _, _, _, _, _⟩) (v := ?_) rfl (by kernel_rfl) (by kernel_rfl) (by kernel_rfl) (fun _ _ _ h => h) (Or.inl ⟨by simp only [Region.wanted], ?_⟩) hS ?_
        rotate_left
        · intro wz hSw
          clear hSw
          go_simp
          first | done | with_reducible rfl
        try simp only [Act.put, List.setIfInBounds_toArray, List.set_cons_zero, List.set_cons_succ]
        refine wpAnyH_take (i := 1) (oi := ⟨some 12, _, _, _, _, _⟩) (v := ?_) rfl (by kernel_rfl) (by kernel_rfl) (by kernel_rfl) (fun _ _ _ h => h) (Or.inl ⟨by simp only [Region.wanted], ?_⟩) hS ?_
        rotate_left
        · intro wz hSw
          clear hSw
          go_simp
          first | done | with_reducible rfl
        try simp only [Act.put, List.setIfInBounds_toArray, List.set_cons_zero, List.set_cons_succ]
        refine wpAnyH_take (i := 2) (oi := ⟨some 13, _, _, _, _, _⟩) (v := ?_) rfl (by kernel_rfl) (by kernel_rfl) (by kernel_rfl) (fun _ _ _ h => h) (Or.inl ⟨by simp only [Region.wanted], ?_⟩) hS ?_
        rotate_left
        · intro wz hSw
          have c0 := hSw.2.1.cell 4
          have c1 := hSw.2.1.cell 5
          have c2 := hSw.2.1.cell 6
          have c3 := hSw.2.1.cell 7
          simp only [List.getElem?_toArray, List.getElem?_cons_zero, List.getElem?_cons_succ] at c0 c1 c2 c3
          clear hSw
          go_simp
          first | done | with_reducible rfl
        try simp only [Act.put, List.setIfInBounds_toArray, List.set_cons_zero, List.set_cons_succ]
        refine wpAnyH_take (i := 3) (oi := ⟨some 14, _, _, _, _, _⟩) (v := ?_) rfl (by kernel_rfl) (by kernel_rfl) (by kernel_rfl) (fun _ _ _ h => h) (Or.inl ⟨by simp only [Region.wanted], ?_⟩) hS ?_
        rotate_left
        · intro wz hSw
          clear hSw
          go_simp
          first | done | with_reducible rfl
        try simp only [Act.put, List.setIfInBounds_toArray, List.set_cons_zero, List.set_cons_succ]
        refine wpAnyH_take (i := 4) (oi := ⟨some 15, _, _, _, _, _⟩) (v := ?_) rfl (by kernel_rfl) (by kernel_rfl) (by kernel_rfl) (fun _ _ _ h => h) (Or.inl ⟨by simp only [Region.wanted], ?_⟩) hS ?_
        rotate_left
        · intro wz hSw
          clear hSw
          go_simp
          first | done | with_reducible rfl
        try simp only [Act.put, List.setIfInBounds_toArray, List.set_cons_zero, List.set_cons_succ]
        refine wpAnyH_take (i := 5) (oi := ⟨some 16, _, _, _, _, _⟩) (v := ?_) rfl (by kernel_rfl) (by kernel_rfl) (by kernel_rfl) (fun _ _ _ h => h) (Or.inl ⟨by simp only [Region.wanted], ?_⟩) hS ?_
        rotate_left
        · intro wz hSw
          have c0 := hSw.2.2.cell 4
          have c1 := hSw.2.2.cell 5
          have c2 := hSw.2.2.cell 6
          have c3 := hSw.2.2.cell 7
          simp only [List.getElem?_toArray, List.getElem?_cons_zero, List.getElem?_cons_succ] at c0 c1 c2 c3
          clear hSw
          go_simp
          first | done | with_reducible rfl
        try simp only [Act.put, List.setIfInBounds_toArray, List.set_cons_zero, List.set_cons_succ]
        refine wpAnyH_ready (rs := [6]) (by kernel_rfl) (by simp) ?_
        refine AllReadyH.cons (o := ⟨some 17, _, _, _, _, _⟩) rfl (fun K hK => ?_) AllReadyH.nil
        go_simp
        refine (HC1.out _).mono ?_
        rintro e wq ⟨rfl, hbq⟩
        go_wp2_with fail
        refine hK.out _ _ (⟨hS.1.trans (hbq.mono hS.1.size), (hbq.block _ hS.2.1.lt).trans hS.2.1, (hbq.block _ hS.2.2.lt).trans hS.2.2⟩) (fun hS => ?_)
        clear hK K
        try simp only [Act.put, List.setIfInBounds_toArray, List.set_cons_zero, List.set_cons_succ]
        refine wpAnyH_take (i := 7) (oi := ⟨some 6, _, _, _, _, _⟩) (v := ?_) rfl (by kernel_rfl) (by kernel_rfl) (by kernel_rfl) (fun _ _ _ h => h) (Or.inl ⟨by simp only [Region.wanted], ?_⟩) hS ?_
        rotate_left
        · intro wz hSw
          clear hSw
          go_simp
          first | done | with_reducible rfl
        try simp only [Act.put, List.setIfInBounds_toArray, List.set_cons_zero, List.set_cons_succ]
        refine wpAnyH_done (by kernel_rfl) ?_ _
        go_wp2_with fail
        go_ret
        exact ⟨_, rfl, hS.1⟩
    | 3, hig =>
      obtain rfl : i = 0 := by omega
      clear hig
      by_cases hc0 : C0 = 0
      · have hcb : (C0 == 0) = true := by simp [hc0]
        go_wp2_with fail
        refine wp_region_any (by kernel_rfl) ?_
        change wpAny _ _ _ _ _ _ _ (World.drew _)
        refine wpAny_of_held (S := fun W => Below w.heap.size w W ∧ Blk W w.heap.size #[.int .i64 x1k, .string x1s, .string x1l, .string x1t, .int .i64 x2k, .string x2s, .string x2l, .string x2t, .int .i64 x3k, .string x3s, .string x3l, .string x3t] 33 ∧ Blk W (w.heap.size + 1) #[.int .i64 y1k, .string y1s, .string y1l, .string y1t, .int .i64 y2k, .string y2s, .string y2l, .string y2t, .int .i64 y3k, .string y3s, .string y3l, .string y3t] 33) _ _ _ _ ?_
        have hS : (fun W => Below w.heap.size w W ∧ Blk W w.heap.size #[.int .i64 x1k, .string x1s, .string x1l, .string x1t, .int .i64 x2k, .string x2s, .string x2l, .string x2t, .int .i64 x3k, .string x3s, .string x3l, .string x3t] 33 ∧ Blk W (w.heap.size + 1) #[.int .i64 y1k, .string y1s, .string y1l, .string y1t, .int .i64 y2k, .string y2s, .string y2l, .string y2t, .int .i64 y3k, .string y3s, .string y3l, .string y3t] 33) (World.drew wr) := ⟨below_drew hbel, hX.drew, hY.drew⟩
        refine wpAnyH_take (i := 0) (oi := ⟨some 11, _, _, _, _, _⟩) (v := ?_) rfl (by kernel_rfl) (by kernel_rfl) (by kernel_rfl) (fun _ _ _ h => h) (Or.inl ⟨by simp only [Region.wanted], ?_⟩) hS ?_
        rotate_left
        · intro wz hSw
          clear hSw
          go_simp
          first | done | with_reducible rfl
        try simp only [Act.put, List.setIfInBounds_toArray, List.set_cons_zero, List.set_cons_succ]
        refine wpAnyH_take (i := 1) (oi := ⟨some 12, _, _, _, _, _⟩) (v := ?_) rfl (by kernel_rfl) (by kernel_rfl) (by kernel_rfl) (fun _ _ _ h => h) (Or.inl ⟨by simp only [Region.wanted], ?_⟩) hS ?_
        rotate_left
        · intro wz hSw
          clear hSw
          go_simp
          first | done | with_reducible rfl
        try simp only [Act.put, List.setIfInBounds_toArray, List.set_cons_zero, List.set_cons_succ]
        refine wpAnyH_take (i := 2) (oi := ⟨some 13, _, _, _, _, _⟩) (v := ?_) rfl (by kernel_rfl) (by kernel_rfl) (by kernel_rfl) (fun _ _ _ h => h) (Or.inl ⟨by simp only [Region.wanted], ?_⟩) hS ?_
        rotate_left
        · intro wz hSw
          have c0 := hSw.2.1.cell 0
          have c1 := hSw.2.1.cell 1
          have c2 := hSw.2.1.cell 2
          have c3 := hSw.2.1.cell 3
          simp only [List.getElem?_toArray, List.getElem?_cons_zero, List.getElem?_cons_succ] at c0 c1 c2 c3
          clear hSw
          go_simp
          first | done | with_reducible rfl
        try simp only [Act.put, List.setIfInBounds_toArray, List.set_cons_zero, List.set_cons_succ]
        refine wpAnyH_take (i := 3) (oi := ⟨some 14, _, _, _, _, _⟩) (v := ?_) rfl (by kernel_rfl) (by kernel_rfl) (by kernel_rfl) (fun _ _ _ h => h) (Or.inl ⟨by simp only [Region.wanted], ?_⟩) hS ?_
        rotate_left
        · intro wz hSw
          clear hSw
          go_simp
          first | done | with_reducible rfl
        try simp only [Act.put, List.setIfInBounds_toArray, List.set_cons_zero, List.set_cons_succ]
        refine wpAnyH_take (i := 4) (oi := ⟨some 15, _, _, _, _, _⟩) (v := ?_) rfl (by kernel_rfl) (by kernel_rfl) (by kernel_rfl) (fun _ _ _ h => h) (Or.inl ⟨by simp only [Region.wanted], ?_⟩) hS ?_
        rotate_left
        · intro wz hSw
          clear hSw
          go_simp
          first | done | with_reducible rfl
        try simp only [Act.put, List.setIfInBounds_toArray, List.set_cons_zero, List.set_cons_succ]
        refine wpAnyH_take (i := 5) (oi := ⟨some 16, _, _, _, _, _⟩) (v := ?_) rfl (by kernel_rfl) (by kernel_rfl) (by kernel_rfl) (fun _ _ _ h => h) (Or.inl ⟨by simp only [Region.wanted], ?_⟩) hS ?_
        rotate_left
        · intro wz hSw
          have c0 := hSw.2.2.cell 0
          have c1 := hSw.2.2.cell 1
          have c2 := hSw.2.2.cell 2
          have c3 := hSw.2.2.cell 3
          simp only [List.getElem?_toArray, List.getElem?_cons_zero, List.getElem?_cons_succ] at c0 c1 c2 c3
          clear hSw
          go_simp
          first | done | with_reducible rfl
        try simp only [Act.put, List.setIfInBounds_toArray, List.set_cons_zero, List.set_cons_succ]
        refine wpAnyH_ready (rs := [6]) (by kernel_rfl) (by simp) ?_
        refine AllReadyH.cons (o := ⟨some 17, _, _, _, _, _⟩) rfl (fun K hK => ?_) AllReadyH.nil
        go_simp
        refine (HC0.out _).mono ?_
        rintro e wq ⟨rfl, hbq⟩
        go_wp2_with fail
        refine hK.out _ _ (⟨hS.1.trans (hbq.mono hS.1.size), (hbq.block _ hS.2.1.lt).trans hS.2.1, (hbq.block _ hS.2.2.lt).trans hS.2.2⟩) (fun hS => ?_)
        clear hK K
        try simp only [Act.put, List.setIfInBounds_toArray, List.set_cons_zero, List.set_cons_succ]
        refine wpAnyH_take (i := 7) (oi := ⟨some 6, _, _, _, _, _⟩) (v := ?_) rfl (by kernel_rfl) (by kernel_rfl) (by kernel_rfl) (fun _ _ _ h => h) (Or.inl ⟨by simp only [Region.wanted], ?_⟩) hS ?_
        rotate_left
        · intro wz hSw
          clear hSw
          go_simp
          first | done | with_reducible rfl
        try simp only [Act.put, List.setIfInBounds_toArray, List.set_cons_zero, List.set_cons_succ]
        refine wpAnyH_done (by kernel_rfl) ?_ _
        go_wp2_with fail
        go_roundg 2
        case measure => omega
        case rel => exact ⟨1, rfl, by go_num, hS.2.1, hS.2.2, hS.1⟩
      · have hcb : (C0 == 0) = false := beq_eq_false_iff_ne.2 hc0
        go_wp2_with fail
        refine wp_region_any (by kernel_rfl) ?_
        change wpAny _ _ _ _ _ _ _ (World.drew _)
        refine wpAny_of_held (S := fun W => Below w.heap.size w W ∧ Blk W w.heap.size #[.int .i64 x1k, .string x1s, .string x1l, .string x1t, .int .i64 x2k, .string x2s, .string x2l, .string x2t, .int .i64 x3k, .string x3s, .string x3l, .string x3t] 33 ∧ Blk W (w.heap.size + 1) #[.int .i64 y1k, .string y1s, .string y1l, .string y1t, .int .i64 y2k, .string y2s, .string y2l, .string y2t, .int .i64 y3k, .string y3s, .string y3l, .string y3t] 33) _ _ _ _ ?_
        have hS : (fun W => Below w.heap.size w W ∧ Blk W w.heap.size #[.int .i64 x1k, .string x1s, .string x1l, .string x1t, .int .i64 x2k, .string x2s, .string x2l, .string x2t, .int .i64 x3k, .string x3s, .string x3l, .string x3t] 33 ∧ Blk W (w.heap.size + 1) #[.int .i64 y1k, .string y1s, .string y1l, .string y1t, .int .i64 y2k, .string y2s, .string y2l, .string y2t, .int .i64 y3k, .string y3s, .string y3l, .string y3t] 33) (World.drew wr) := ⟨below_drew hbel, hX.drew, hY.drew⟩
        refine wpAnyH_take (i := 0) (oi := ⟨some 11, _, _, _, _, _⟩) (v := ?_) rfl (by kernel_rfl) (by kernel_rfl) (by kernel_rfl) (fun _ _ _ h => h) (Or.inl ⟨by simp only [Region.wanted], ?_⟩) hS ?_
        rotate_left
        · intro wz hSw
          clear hSw
          go_simp
          first | done | with_reducible rfl
        try simp only [Act.put, List.setIfInBounds_toArray, List.set_cons_zero, List.set_cons_succ]
        refine wpAnyH_take (i := 1) (oi := ⟨some 12, _, _, _, _, _⟩) (v := ?_) rfl (by kernel_rfl) (by kernel_rfl) (by kernel_rfl) (fun _ _ _ h => h) (Or.inl ⟨by simp only [Region.wanted], ?_⟩) hS ?_
        rotate_left
        · intro wz hSw
          clear hSw
          go_simp
          first | done | with_reducible rfl
        try simp only [Act.put, List.setIfInBounds_toArray, List.set_cons_zero, List.set_cons_succ]
        refine wpAnyH_take (i := 2) (oi := ⟨some 13, _, _, _, _, _⟩) (v := ?_) rfl (by kernel_rfl) (by kernel_rfl) (by kernel_rfl) (fun _ _ _ h => h) (Or.inl ⟨by simp only [Region.wanted], ?_⟩) hS ?_
        rotate_left
        · intro wz hSw
          have c0 := hSw.2.1.cell 0
          have c1 := hSw.2.1.cell 1
          have c2 := hSw.2.1.cell 2
          have c3 := hSw.2.1.cell 3
          simp only [List.getElem?_toArray, List.getElem?_cons_zero, List.getElem?_cons_succ] at c0 c1 c2 c3
          clear hSw
          go_simp
          first | done | with_reducible rfl
        try simp only [Act.put, List.setIfInBounds_toArray, List.set_cons_zero, List.set_cons_succ]
        refine wpAnyH_take (i := 3) (oi := ⟨some 14, _, _, _, _, _⟩) (v := ?_) rfl (by kernel_rfl) (by kernel_rfl) (by kernel_rfl) (fun _ _ _ h => h) (Or.inl ⟨by simp only [Region.wanted], ?_⟩) hS ?_
        rotate_left
        · intro wz hSw
          clear hSw
          go_simp
          first | done | with_reducible rfl
        try simp only [Act.put, List.setIfInBounds_toArray, List.set_cons_zero, List.set_cons_succ]
        refine wpAnyH_take (i := 4) (oi := ⟨some 15, _, _, _, _, _⟩) (v := ?_) rfl (by kernel_rfl) (by kernel_rfl) (by kernel_rfl) (fun _ _ _ h => h) (Or.inl ⟨by simp only [Region.wanted], ?_⟩) hS ?_
        rotate_left
        · intro wz hSw
          clear hSw
          go_simp
          first | done | with_reducible rfl
        try simp only [Act.put, List.setIfInBounds_toArray, List.set_cons_zero, List.set_cons_succ]
        refine wpAnyH_take (i := 5) (oi := ⟨some 16, _, _, _, _, _⟩) (v := ?_) rfl (by kernel_rfl) (by kernel_rfl) (by kernel_rfl) (fun _ _ _ h => h) (Or.inl ⟨by simp only [Region.wanted], ?_⟩) hS ?_
        rotate_left
        · intro wz hSw
          have c0 := hSw.2.2.cell 0
          have c1 := hSw.2.2.cell 1
          have c2 := hSw.2.2.cell 2
          have c3 := hSw.2.2.cell 3
          simp only [List.getElem?_toArray, List.getElem?_cons_zero, List.getElem?_cons_succ] at c0 c1 c2 c3
          clear hSw
          go_simp
          first | done | with_reducible rfl
        try simp only [Act.put, List.setIfInBounds_toArray, List.set_cons_zero, List.set_cons_succ]
        refine wpAnyH_ready (rs := [6]) (by kernel_rfl) (by simp) ?_
        refine AllReadyH.cons (o := ⟨some 17, _, _, _, _, _⟩) rfl (fun K hK => ?_) AllReadyH.nil
        go_simp
        refine (HC0.out _).mono ?_
        rintro e wq ⟨rfl, hbq⟩
        go_wp2_with fail
        refine hK.out _ _ (⟨hS.1.trans (hbq.mono hS.1.size), (hbq.block _ hS.2.1.lt).trans hS.2.1, (hbq.block _ hS.2.2.lt).trans hS.2.2⟩) (fun hS => ?_)
        clear hK K
        try simp only [Act.put, List.setIfInBounds_toArray, List.set_cons_zero, List.set_cons_succ]
        refine wpAnyH_take (i := 7) (oi := ⟨some 6, _, _, _, _, _⟩) (v := ?_) rfl (by kernel_rfl) (by kernel_rfl) (by kernel_rfl) (fun _ _ _ h => h) (Or.inl ⟨by simp only [Region.wanted], ?_⟩) hS ?_
        rotate_left
        · intro wz hSw
          clear hSw
          go_simp
          first | done | with_reducible rfl
        try simp only [Act.put, List.setIfInBounds_toArray, List.set_cons_zero, List.set_cons_succ]
        refine wpAnyH_done (by kernel_rfl) ?_ _
        go_wp2_with fail
        go_ret
        exact ⟨_, rfl, hS.1⟩
    | g + 4, hig => omega
end Go.Proofs.YtbkokckpjmbjhaaDoor
