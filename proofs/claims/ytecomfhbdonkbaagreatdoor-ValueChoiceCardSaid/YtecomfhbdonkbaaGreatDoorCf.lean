/- Package value's laws: of, words. -/
import Derived.Test.YtecomfhbdonkbaaGreatDoorCe
namespace Go.Proofs.YtecomfhbdonkbaaGreatDoor
open Go.RowKit Go.Shelf Flo
set_option maxRecDepth 100000
set_option linter.unusedVariables false
set_option linter.unusedSimpArgs false

theorem step_append_g {α : Type} {w : World} {ops : Array Oper} {o : Oper} {a : Act} {K : Act → World → Prop} {Q : Exit → Act → World → Prop} {E : Prop} (hgd : o.guard = none) (s x : Operand) (t e : TypeId) (c : α → List Value) (k by_ : Nat) (z : Value)
    (ho : o.op = .call { callee := .builtin .append, args := #[s, x], argTypes := #[t, t] }) (ht : Tryz.prog.underlying t = some (.slice e)) (hi : (Tryz.prog.info? e).map (fun i => (i.zero, i.size, i.bytes)) = some (some z, k, by_)) (hz : z.cells.size = k) (hk : 0 < k) (hby : by_ ≤ 1000)
    (hc : ∀ x, (c x).length = k) (h1 : ∀ x, ∀ u ∈ c x, u.oneCell' = true) (base : Nat) (hbase : base ≤ w.heap.size)
    (v : Value) (l : List α) (hs : a.eval s = v) (hown : OwG e c k w base v l) (g0 : Nat) (hx : a.eval x = .slice (some ⟨g0, 0, none⟩) 1 1) (y : α) (hg : Blk w g0 (c y).toArray e) (n : Nat) (hn : n = l.length + 1) (hl : n ≤ 1000000)
    (h : ∀ g cap w', OwG e c k w' base (.slice (some ⟨g, 0, none⟩) n cap) (l ++ [y]) → n ≤ cap → cap ≤ 9223372036854775807 → w.grownBy w' v.ownBlock → (v.ownBlock = some g ∨ g = w.heap.size) → g < w'.heap.size → K (a.put o.dst (.slice (some ⟨g, 0, none⟩) n cap)) w') :
    if Region.wanted o (yielded ops a.tmps) = true then Oper.wp Tryz.prog o a w K Q else E := by
  obtain ⟨i0, hi0, hz0, hz1, hz2⟩ := info_parts hi
  refine step_append_lies w hgd s x t ho base e i0 z k by_ ht hi0 hz0 hz1 hz2 hz hk v l.length (l.flatMap c) hs hown ⟨g0, 0, none⟩ 1 1 (c y) hx (by rw [hc, Nat.one_mul]) ?_ (h1 y) (by decide) (by simp [maxLen]; omega) ?_ hbase _ rfl ?_
  · intro j u hj
    rw [show (⟨g0, 0, none⟩ : Addr).add j = ⟨g0, j, none⟩ from by unfold Addr.add; split <;> simp_all, hg.cell]
    simpa using hj
  · have : (l.length + 1) * by_ ≤ 1000000 * 1000 := Nat.mul_le_mul (by omega) hby
    omega
  · intro g cap w' k1 k2 k3 k4
    subst hn
    have hown' : OwG e c k w' base (.slice (some ⟨g, 0, none⟩) (l.length + 1) cap) (l ++ [y]) := by
      unfold OwG
      rw [List.length_append, List.flatMap_append]
      simpa using k1
    obtain ⟨aox, capx, ex, hx1, hx2⟩ := hown'.form
    simp only [Value.slice.injEq] at ex
    obtain ⟨-, -, rfl⟩ := ex
    exact h g cap w' hown' (by simpa using hx1) hx2 k2 k3 k4
/-- A term's expression, its cells. -/
def exprC (t : Tm) : List Value := [.int .i64 1, .int .i64 t.k, .string t.s, .string t.l, .string t.t, .slice none 0 0]
theorem exprC_len (t : Tm) : (exprC t).length = 6 := rfl
theorem exprC_one : ∀ t, ∀ u ∈ exprC t, u.oneCell' = true := by
  intro t u hu
  simp only [exprC, List.mem_cons, List.not_mem_nil, or_false] at hu
  rcases hu with rfl | rfl | rfl | rfl | rfl | rfl <;> rfl
theorem Tryz.infoExpr : (Tryz.prog.info? 28).map (fun i => (i.zero, i.size, i.bytes)) = some (some (.agg #[.int .i64 0, .int .i64 0, .string ⟨#[]⟩, .string ⟨#[]⟩, .string ⟨#[]⟩, .slice none 0 0]), 6, 88) := by kernel_rfl
abbrev OwX := @OwG Tm 28 exprC 6
theorem kids_of_own {B : Nat} {w : World} {base : Nat} {kv : Value} {l : List Tm} (h : OwX w base kv l) (hl : l.length ≤ 1000) (hs : ∀ t ∈ l, t.Sm) (hB : w.heap.size ≤ B) : KidsP B w 1 kv (l.map ofT) := by
  by_cases h0 : l = []
  · subst h0
    obtain ⟨ao, cap, rfl, -⟩ := OwG.form h
    exact ⟨by simp, ao, cap, rfl, fun i hi => absurd hi (by simp)⟩
  · have hpos : 0 < l.length := List.length_pos_iff.2 h0
    obtain ⟨g, cap, e, h1, h2, h3, h4, h5, h6⟩ := OwG.at h exprC_len hpos
    obtain ⟨g', cap', cur, e', -, -, hb, -⟩ := OwG.open h hpos
    rw [e] at e'
    simp only [Value.slice.injEq, Option.some.injEq, Addr.mk.injEq, and_true, true_and] at e'
    obtain ⟨rfl, rfl⟩ := e'
    subst e
    refine ⟨by rw [List.length_map]; exact hl, some ⟨g, 0, none⟩, cap, by rw [List.length_map], fun i hi => ?_⟩
    have hi' : i < l.length := by simpa using hi
    have hc := fun j u => h6 i hi' j u
    rw [List.getElem_map]
    refine ⟨g, 0, _, rfl, by omega, ⟨_, _, hb⟩, ?_, (show opIn 1 from opIn_one), hs _ (List.getElem_mem hi'), kids_nil _ _ _⟩
    rw [Nat.zero_add]
    exact ⟨hc 0 _ rfl, hc 1 _ rfl, hc 2 _ rfl, hc 3 _ rfl, hc 4 _ rfl, hc 5 _ rfl⟩
/-- A row of terms that came in. -/
def TmRow (w : World) (bt : Nat) (l : List Tm) : Prop := bt < w.heap.size ∧ ∀ j (h : j < l.length), w.cell? ⟨bt, j * 4, none⟩ = some (.int .i64 l[j].k) ∧ w.cell? ⟨bt, j * 4 + 1, none⟩ = some (.string l[j].s) ∧ w.cell? ⟨bt, j * 4 + 2, none⟩ = some (.string l[j].l) ∧ w.cell? ⟨bt, j * 4 + 3, none⟩ = some (.string l[j].t)
theorem TmRow.keep {w w' : World} {bt B : Nat} {l : List Tm} (h : TmRow w bt l) (hb : Below B w w') (hB : bt < B) : TmRow w' bt l :=
  ⟨Nat.lt_of_lt_of_le h.1 hb.size, fun j hj => by
    have c : ∀ i, w'.cell? ⟨bt, i, none⟩ = w.cell? ⟨bt, i, none⟩ := fun i => hb.cell (p := ⟨bt, i, none⟩) hB
    simp only [c]
    exact h.2 j hj⟩
theorem row_one (v : World) (a : Tm) (ty : TypeId) : TmRow (v.alloc (.cells #[.int .i64 a.k, .string a.s, .string a.l, .string a.t] ty)) v.heap.size [a] := by
  have x := Blk.new v #[.int .i64 a.k, .string a.s, .string a.l, .string a.t] ty
  refine ⟨x.lt, fun j hj => ?_⟩
  have h0 : j = 0 := by simpa using hj
  subst h0
  exact ⟨x.cell 0, x.cell 1, x.cell 2, x.cell 3⟩
theorem row_two (v : World) (a b : Tm) (ty : TypeId) : TmRow (v.alloc (.cells #[.int .i64 a.k, .string a.s, .string a.l, .string a.t, .int .i64 b.k, .string b.s, .string b.l, .string b.t] ty)) v.heap.size [a, b] := by
  have x := Blk.new v #[.int .i64 a.k, .string a.s, .string a.l, .string a.t, .int .i64 b.k, .string b.s, .string b.l, .string b.t] ty
  refine ⟨x.lt, fun j hj => ?_⟩
  have h01 : j = 0 ∨ j = 1 := by
    have : j < 2 := hj
    omega
  rcases h01 with rfl | rfl
  · exact ⟨x.cell 0, x.cell 1, x.cell 2, x.cell 3⟩
  · exact ⟨x.cell 4, x.cell 5, x.cell 6, x.cell 7⟩
theorem blk_on {w w' : World} {b : Nat} {cur : Array Value} {t : TypeId} (h : Blk w b cur t) (hb : Below w.heap.size w w') : Blk w' b cur t := h.moved (Moved.of_below hb (fun _ => False)) (fun h => h)
/-- The memory of 'of' on its way. -/
structure OfI (w : World) (op : Int) (l : List Tm) (kv : Value) (z : World) : Prop where
  bel : Below w.heap.size w z
  ans : Blk z w.heap.size #[.int .i64 0, .int .i64 0, .string ⟨#[]⟩, .string ⟨#[]⟩, .string ⟨#[]⟩, .slice none 0 0] 28
  e : Blk z (w.heap.size + 1) #[.int .i64 op, .int .i64 0, .string ⟨#[]⟩, .string ⟨#[]⟩, .string ⟨#[]⟩, kv] 28
  own : OwX z (w.heap.size + 1 + 1) kv l
  big : w.heap.size + 1 + 1 ≤ z.heap.size
theorem OfI.below {w z z' : World} {op : Int} {l : List Tm} {kv : Value} (h : OfI w op l kv z) (hb : Below z.heap.size z z') : OfI w op l kv z' :=
  ⟨h.bel.trans (hb.mono h.bel.size), blk_on h.ans hb, blk_on h.e hb, h.own.below hb, Nat.le_trans h.big hb.size⟩
theorem OfI.new (w : World) (op : Int) : OfI w op [] (.slice none 0 0) ((w.alloc (.cells #[.int .i64 0, .int .i64 0, .string ⟨#[]⟩, .string ⟨#[]⟩, .string ⟨#[]⟩, .slice none 0 0] 28)).alloc (.cells #[.int .i64 op, .int .i64 0, .string ⟨#[]⟩, .string ⟨#[]⟩, .string ⟨#[]⟩, .slice none 0 0] 28)) := by
  have b1 := (Below.refl w.heap.size w).alloc (Nat.le_refl _) (.cells #[.int .i64 0, .int .i64 0, .string ⟨#[]⟩, .string ⟨#[]⟩, .string ⟨#[]⟩, .slice none 0 0] 28)
  have x1 := Blk.new w #[.int .i64 0, .int .i64 0, .string ⟨#[]⟩, .string ⟨#[]⟩, .string ⟨#[]⟩, .slice none 0 0] 28
  have z1 : (w.alloc (.cells #[.int .i64 0, .int .i64 0, .string ⟨#[]⟩, .string ⟨#[]⟩, .string ⟨#[]⟩, .slice none 0 0] 28)).heap.size = w.heap.size + 1 := by simp
  generalize w.alloc (.cells #[.int .i64 0, .int .i64 0, .string ⟨#[]⟩, .string ⟨#[]⟩, .string ⟨#[]⟩, .slice none 0 0] 28) = w1 at *
  have b2 := (Below.refl w1.heap.size w1).alloc (Nat.le_refl _) (.cells #[.int .i64 op, .int .i64 0, .string ⟨#[]⟩, .string ⟨#[]⟩, .string ⟨#[]⟩, .slice none 0 0] 28)
  have x2 := Blk.new w1 #[.int .i64 op, .int .i64 0, .string ⟨#[]⟩, .string ⟨#[]⟩, .string ⟨#[]⟩, .slice none 0 0] 28
  have z2 : (w1.alloc (.cells #[.int .i64 op, .int .i64 0, .string ⟨#[]⟩, .string ⟨#[]⟩, .string ⟨#[]⟩, .slice none 0 0] 28)).heap.size = w1.heap.size + 1 := by simp
  generalize w1.alloc (.cells #[.int .i64 op, .int .i64 0, .string ⟨#[]⟩, .string ⟨#[]⟩, .string ⟨#[]⟩, .slice none 0 0] 28) = w2 at *
  rw [z1] at x2 z2
  exact ⟨b1.trans (b2.mono (by omega)), blk_on x1 b2, x2, OwG.nil _ _ _ _ _, by omega⟩
/-- One more is put behind them. -/
theorem OfI.put {w u u2 : World} {op : Int} {l : List Tm} {kv kv2 : Value} {t : Tm} (h : OfI w op l kv u) (hg : u.grownBy u2 kv.ownBlock) (ho : OwX u2 (w.heap.size + 1 + 1) kv2 (l ++ [t])) : OfI w op (l ++ [t]) kv2 (u2.setCell ⟨w.heap.size + 1, 5, none⟩ kv2) := by
  have m : Moved (fun q => kv.ownBlock = some q) u u2 := ⟨hg.os, hg.tape, hg.output, hg.size, fun k hk hne => hg.block k hk (fun e => hne e.symm)⟩
  have hlt : ∀ q, kv.ownBlock = some q → w.heap.size + 1 + 1 ≤ q ∧ q < u.heap.size := OwG.lt h.own
  have hlow : Below (w.heap.size + 1 + 1) u u2 := ⟨hg.os, hg.tape, hg.output, hg.size, fun j hj => hg.block j (Nat.lt_of_lt_of_le hj h.big) (fun e => by have := (hlt j e.symm).1; omega)⟩
  have e1 : Blk u2 w.heap.size #[.int .i64 0, .int .i64 0, .string ⟨#[]⟩, .string ⟨#[]⟩, .string ⟨#[]⟩, .slice none 0 0] 28 := (hlow.block w.heap.size (by omega)).trans h.ans
  have e2 : Blk u2 (w.heap.size + 1) #[.int .i64 op, .int .i64 0, .string ⟨#[]⟩, .string ⟨#[]⟩, .string ⟨#[]⟩, kv] 28 := (hlow.block (w.heap.size + 1) (by omega)).trans h.e
  refine ⟨(h.bel.trans (hlow.mono (by omega))).setCell (p := ⟨w.heap.size + 1, 5, none⟩) (by show w.heap.size ≤ w.heap.size + 1; omega) _, e1.other _ _ (show w.heap.size ≠ w.heap.size + 1 by omega), e2.set 5 kv2, ?_, by rw [show (u2.setCell ⟨w.heap.size + 1, 5, none⟩ kv2).heap.size = u2.heap.size by simp]; exact Nat.le_trans h.big hg.size⟩
  refine ho.moved ((Moved.refl (fun k => k = w.heap.size + 1) u2).setCell _ _ (.inl rfl)) (fun q hq => ?_)
  have := (OwG.lt ho q hq).1
  omega
set_option maxHeartbeats 4000000 in
theorem of15_any (op : Int) (l : List Tm) (bt cap0 : Nat) (w : World) (hl : l.length ≤ 1000) (hsm : ∀ t ∈ l, t.Sm) (hr : TmRow w bt l) :
    Calls Tryz.prog 24 #[.int .i64 op, .slice (some ⟨bt, 0, none⟩) l.length cap0] w fun e w' => ∃ kv, e = .returned (.agg #[.int .i64 op, .int .i64 0, .string ⟨#[]⟩, .string ⟨#[]⟩, .string ⟨#[]⟩, kv]) ∧ Below w.heap.size w w' ∧ KidsP w'.heap.size w' 1 kv (l.map ofT) := by
  have HN := Lib.hid (OfI.new w op)
  have HTR := Lib.hid hr
  have HBT := Lib.hid hr.1
  have HSM := Lib.hid hsm
  have HLL := Lib.hid hl
  clear hr hsm
  go_enter Tryz.func24, Tryz.ntmps24
  go_wp2_with fail
  generalize World.alloc (World.alloc w _) _ = w1 at HN ⊢
  go_loopw [6] (fun i wx => ∃ (j : Nat) (kv : Value), i = .int .i64 (j : Int) ∧ j ≤ l.length ∧ OfI w op (l.take j) kv wx) (fun i _ => l.length - (intOf i).toNat)
  case atStart => exact ⟨0, _, rfl, Nat.zero_le _, HN.out⟩
  case round =>
    obtain ⟨j, kv, rfl, hj, hI⟩ := hrel
    have HI := Lib.hid hI
    clear hI
    by_cases hjl : j < l.length
    · have hlti : (j : Int) < (l.length : Int) := by omega
      obtain ⟨t, ht⟩ : ∃ t, t = l[j] := ⟨_, rfl⟩
      have HTT := Lib.hid ht
      clear ht
      go_upto_region 5 with fail
      refine wp_region_any (by kernel_rfl) ?_
      change wpAny _ _ _ _ _ _ _ (World.drew _)
      refine wpAny_of_T (C := fun z => z.cell? ⟨w.heap.size + 1, 5, none⟩ = some kv ∧ TmRow z bt l) (T := [10]) _ _ _ _ ?_
      have hS : (fun z => z.cell? ⟨w.heap.size + 1, 5, none⟩ = some kv ∧ TmRow z bt l) (World.drew wr) := ⟨(HI.out.below (Below.refl _ _).drew).e.cell 5, HTR.out.keep (HI.out.bel.trans (Below.refl _ _).drew) HBT.out⟩
      have hI := HI.out.below (z' := World.drew wr) (Below.refl _ _).drew
      generalize World.drew wr = u0 at hS hI ⊢
      have HI0 := Lib.hid hI
      clear hI
      refine wpAnyT_take (i := 0) (oi := ⟨some 15, _, _, _, _, _⟩) (v := ?_) rfl (by kernel_rfl) (by kernel_rfl) (by kernel_rfl) (by kernel_rfl) (fun _ _ _ h => h) (Or.inl ⟨by simp only [Region.wanted], ?_⟩) hS ?_
      rotate_left
      · intro wz hSw
        clear hSw
        go_simp
        first | done | with_reducible rfl
      try simp only [Act.put, List.setIfInBounds_toArray, List.set_cons_zero, List.set_cons_succ]
      refine wpAnyT_take (i := 1) (oi := ⟨some 16, _, _, _, _, _⟩) (v := ?_) rfl (by kernel_rfl) (by kernel_rfl) (by kernel_rfl) (by kernel_rfl) (fun _ _ _ h => h) (Or.inl ⟨by simp only [Region.wanted], ?_⟩) hS ?_
      rotate_left
      · intro wz hSw; have q0 := hSw.1
        clear hSw
        go_simp
        first | done | with_reducible rfl
      try simp only [Act.put, List.setIfInBounds_toArray, List.set_cons_zero, List.set_cons_succ]
      refine wpAnyT_take (i := 2) (oi := ⟨some 17, _, _, _, _, _⟩) (v := ?_) rfl (by kernel_rfl) (by kernel_rfl) (by kernel_rfl) (by kernel_rfl) (fun _ _ _ h => h) (Or.inl ⟨by simp only [Region.wanted], ?_⟩) hS ?_
      rotate_left
      · intro wz hSw
        clear hSw
        go_simp
        first | done | with_reducible rfl
      try simp only [Act.put, List.setIfInBounds_toArray, List.set_cons_zero, List.set_cons_succ]
      refine wpAnyT_take (i := 3) (oi := ⟨some 18, _, _, _, _, _⟩) (v := ?_) rfl (by kernel_rfl) (by kernel_rfl) (by kernel_rfl) (by kernel_rfl) (fun _ _ _ h => h) (Or.inl ⟨by simp only [Region.wanted], ?_⟩) hS ?_
      rotate_left
      · intro wz hSw
        clear hSw
        go_simp
        first | done | with_reducible rfl
      try simp only [Act.put, List.setIfInBounds_toArray, List.set_cons_zero, List.set_cons_succ]
      refine wpAnyT_take (i := 4) (oi := ⟨some 19, _, _, _, _, _⟩) (v := ?_) rfl (by kernel_rfl) (by kernel_rfl) (by kernel_rfl) (by kernel_rfl) (fun _ _ _ h => h) (Or.inl ⟨by simp only [Region.wanted], ?_⟩) hS ?_
      rotate_left
      · intro wz hSw
        clear hSw
        go_simp
        first | done | with_reducible rfl
      try simp only [Act.put, List.setIfInBounds_toArray, List.set_cons_zero, List.set_cons_succ]
      refine wpAnyT_take (i := 5) (oi := ⟨some 20, _, _, _, _, _⟩) (v := ?_) rfl (by kernel_rfl) (by kernel_rfl) (by kernel_rfl) (by kernel_rfl) (fun _ _ _ h => h) (Or.inl ⟨by simp only [Region.wanted], ?_⟩) hS ?_
      rotate_left
      · intro wz hSw; obtain ⟨a0, a1, a2, a3⟩ := hSw.2.2 j hjl; rw [← HTT.out] at a0 a1 a2 a3
        clear hSw
        go_simp
        first | done | with_reducible rfl
      try simp only [Act.put, List.setIfInBounds_toArray, List.set_cons_zero, List.set_cons_succ]
      refine wpAnyT_take (i := 6) (oi := ⟨some 21, _, _, _, _, _⟩) (v := ?_) rfl (by kernel_rfl) (by kernel_rfl) (by kernel_rfl) (by kernel_rfl) (fun _ _ _ h => h) (Or.inl ⟨by simp only [Region.wanted], ?_⟩) hS ?_
      rotate_left
      · intro wz hSw
        clear hSw
        go_simp
        first | done | with_reducible rfl
      try simp only [Act.put, List.setIfInBounds_toArray, List.set_cons_zero, List.set_cons_succ]
      refine wpAnyT_ready (rs := [7]) (by kernel_rfl) (by simp) ?_
      refine AllReadyT.cons (o := ⟨some 22, _, _, _, _, _⟩) rfl (fun KK hK => ?_) (AllReadyT.nil)
      · have hal : Below u0.heap.size u0 (u0.alloc (.cells #[.int .i64 1, .int .i64 t.k, .string t.s, .string t.l, .string t.t, .slice none 0 0] 28)) := (Below.refl _ _).alloc (Nat.le_refl _) _
        have hbx : Blk (u0.alloc (.cells #[.int .i64 1, .int .i64 t.k, .string t.s, .string t.l, .string t.t, .slice none 0 0] 28)) u0.heap.size #[.int .i64 1, .int .i64 t.k, .string t.s, .string t.l, .string t.t, .slice none 0 0] 28 := Blk.new _ _ _
        go_simp
        generalize World.alloc u0 _ = u1 at hal hbx ⊢
        refine hK.out _ _ (⟨(hal.cell (p := ⟨w.heap.size + 1, 5, none⟩) (World.block_lt_of_cell? _ _ hS.1)).trans hS.1, hS.2.keep hal hS.2.1⟩) (fun hS => ?_)
        clear hK KK
        try simp only [Act.put, List.setIfInBounds_toArray, List.set_cons_zero, List.set_cons_succ]
        have HI1 := Lib.hid (HI0.out.below hal)
        have hbz : u0.heap.size < u1.heap.size := hbx.lt
        refine wpAnyT_ready (rs := [8]) (by kernel_rfl) (by simp) ?_
        refine AllReadyT.cons (o := ⟨some 23, _, _, _, _, _⟩) rfl (fun KK hK => ?_) (AllReadyT.nil)
        · refine step_append_g rfl _ _ 26 28 exprC 6 88 _ rfl Tryz.underlying26 Tryz.infoExpr rfl (by decide) (by decide) exprC_len exprC_one (w.heap.size + 1 + 1) HI1.out.big kv (l.take j) rfl HI1.out.own u0.heap.size rfl t hbx (j + 1) (by rw [List.length_take]; omega) (by omega) ?_
          intro g cap u2 ho hc1 hc2 hgr hsame hlt2
          have hlow : Below (w.heap.size + 1 + 1) u1 u2 := ⟨hgr.os, hgr.tape, hgr.output, hgr.size, fun i hi => hgr.block i (Nat.lt_of_lt_of_le hi HI1.out.big) (fun e => by have := (OwG.lt HI1.out.own i e.symm).1; omega)⟩
          have HP := Lib.hid (HI1.out.put hgr ho)
          have HLOW := Lib.hid hlow
          have HE1 := Lib.hid HI1.out.e
          have y0 : u2.frozen? ⟨w.heap.size + 1, 5, none⟩ = false := (show Blk u2 (w.heap.size + 1) _ _ from (hlow.block (w.heap.size + 1) (by omega)).trans HI1.out.e).frozen 5
          clear ho hgr hsame
          refine hK.out _ _ (⟨(HLOW.out.cell (p := ⟨w.heap.size + 1, 5, none⟩) (by show w.heap.size + 1 < w.heap.size + 1 + 1; omega)).trans hS.1, hS.2.keep HLOW.out (by have := HBT.out; omega)⟩) (fun hS => ?_)
          clear hK KK
          try simp only [Act.put, List.setIfInBounds_toArray, List.set_cons_zero, List.set_cons_succ]
          refine wpAnyT_take (i := 9) (oi := ⟨some 24, _, _, _, _, _⟩) (v := ?_) rfl (by kernel_rfl) (by kernel_rfl) (by kernel_rfl) (by kernel_rfl) (fun _ _ _ h => h) (Or.inl ⟨by simp only [Region.wanted], ?_⟩) hS ?_
          rotate_left
          · intro wz hSw
            clear hSw
            go_simp
            first | done | with_reducible rfl
          try simp only [Act.put, List.setIfInBounds_toArray, List.set_cons_zero, List.set_cons_succ]
          refine wpAnyT_ready (rs := [10]) (by kernel_rfl) (by simp) ?_
          refine AllReadyT.last (o := ⟨none, _, _, _, _, _⟩) rfl (by kernel_rfl) (fun KK hK => ?_) (AllReadyT.nil)
          · have c5 := hS.1
            go_simp
            refine hK.out _ _ ?_
            clear hK KK
            try simp only [Act.put, List.setIfInBounds_toArray, List.set_cons_zero, List.set_cons_succ]
            refine wpAnyT_done (by kernel_rfl) ?_ _
            generalize World.setCell u2 _ _ = u3 at HP ⊢
            clear hS y0 hlow hal hbx hbz hlt2
            have HP3 : Hid (OfI w op (l.take (j + 1)) (.slice (some ⟨g, 0, none⟩) (j + 1) cap) u3) := by rw [List.take_succ_eq_append_getElem hjl, ← HTT.out]; exact HP
            go_wp2_with fail
            go_roundw
            case rel => exact ⟨j + 1, _, by go_num, by omega, HP3.out⟩
            case measure => simp [intOf]; omega
    · have hlti : ¬ (j : Int) < (l.length : Int) := by omega
      have hje : j = l.length := by omega
      subst hje
      rw [List.take_length] at HI
      obtain ⟨kao, kcap, rfl, -⟩ := OwG.form HI.out.own
      have hm : Moved (fun k => k = w.heap.size) wr _ := (((((((Moved.refl (fun k => k = w.heap.size) wr).setCell ⟨w.heap.size, 0, none⟩ (.int .i64 op) (.inl rfl)).setCell ⟨w.heap.size, 1, none⟩ (.int .i64 0) (.inl rfl)).setCell ⟨w.heap.size, 2, none⟩ (.string ⟨#[]⟩) (.inl rfl)).setCell ⟨w.heap.size, 3, none⟩ (.string ⟨#[]⟩) (.inl rfl)).setCell ⟨w.heap.size, 4, none⟩ (.string ⟨#[]⟩) (.inl rfl)).setCell ⟨w.heap.size, 5, none⟩ (.slice kao l.length kcap) (.inl rfl))
      have hmo := HI.out.own.moved hm (fun q hq => by have := (OwG.lt HI.out.own q hq).1; omega)
      have hbw := (((((HI.out.bel.setCell (p := ⟨w.heap.size, 0, none⟩) (Nat.le_refl _) (.int .i64 op)).setCell (p := ⟨w.heap.size, 1, none⟩) (Nat.le_refl _) (.int .i64 0)).setCell (p := ⟨w.heap.size, 2, none⟩) (Nat.le_refl _) (.string ⟨#[]⟩)).setCell (p := ⟨w.heap.size, 3, none⟩) (Nat.le_refl _) (.string ⟨#[]⟩)).setCell (p := ⟨w.heap.size, 4, none⟩) (Nat.le_refl _) (.string ⟨#[]⟩)).setCell (p := ⟨w.heap.size, 5, none⟩) (Nat.le_refl _) (.slice kao l.length kcap)
      have HK := Lib.hid (And.intro hbw (kids_of_own hmo HLL.out HSM.out (Nat.le_refl _)))
      clear hm hmo hbw
      have xe := HI.out.e
      have q0 := xe.cell 0
      have q1 := xe.cell 1
      have q2 := xe.cell 2
      have q3 := xe.cell 3
      have q4 := xe.cell 4
      have q5 := xe.cell 5
      simp only [List.getElem?_toArray, List.getElem?_cons_zero, List.getElem?_cons_succ] at q0 q1 q2 q3 q4 q5
      have xa := HI.out.ans
      have z0 := xa.cell 0
      have z1 := xa.cell 1
      have z2 := xa.cell 2
      have z3 := xa.cell 3
      have z4 := xa.cell 4
      have z5 := xa.cell 5
      simp only [List.getElem?_toArray, List.getElem?_cons_zero, List.getElem?_cons_succ] at z0 z1 z2 z3 z4 z5
      have f0 := xa.frozen 0
      have f1 := xa.frozen 1
      have f2 := xa.frozen 2
      have f3 := xa.frozen 3
      have f4 := xa.frozen 4
      have f5 := xa.frozen 5
      clear xe xa
      go_wp2_with fail
      refine bodyPost_ret (v := .agg #[.int .i64 op, .int .i64 0, .string ⟨#[]⟩, .string ⟨#[]⟩, .string ⟨#[]⟩, .slice kao l.length kcap]) (by simp [results, Tryz.results24, go_sem, z0, z1, z2, z3, z4, z5]) rfl ⟨_, rfl, HK.out.1, HK.out.2⟩
end Go.Proofs.YtecomfhbdonkbaaGreatDoor
