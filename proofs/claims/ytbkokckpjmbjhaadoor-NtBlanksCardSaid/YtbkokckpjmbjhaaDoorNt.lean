/- triadlaw9's Good. -/
import Derived.Test.YtbkokckpjmbjhaaDoorNs
import Derived.Test.YtbkokckpjmbjhaaDoorNm
namespace Go.Proofs.YtbkokckpjmbjhaaDoor
open Go.RowKit Go.Shelf
set_option maxRecDepth 100000
set_option linter.unusedVariables false
/-- A region that is walked under a stronger condition. -/
theorem wpAnyH_mono {P : Program} {ops : Array Oper} {Q : Exit → Act → World → Prop} {md : Region.Mode} {S S' : World → Prop} (hS : ∀ w, S' w → S w) :
    ∀ (fuel : Nat) (listed : Array Bool) (a : Act) (w : World), wpAnyH P md ops Q S' fuel listed a w → wpAnyH P md ops Q S fuel listed a w
  | 0, _, _, _, h => h
  | fuel + 1, _, _, _, h => ⟨h.1, fun i hi => wpOp_mono (fun a' w' h' => ⟨hS _ h'.1, wpAnyH_mono hS fuel _ a' w' h'.2⟩) (h.2 i hi)⟩

theorem lit_two (u : UInt8) : (⟨#[112, 58]⟩ : ByteArray) ++ (⟨#[u]⟩ : ByteArray) = ⟨#[112, 58, u]⟩ := by
  first
  | rfl
  | (apply ByteArray.ext; simp; done)
  | (apply ByteArray.ext; rw [ByteArray.data_append]; rfl)
theorem twelve (v : World) (g : Nat) (t : TypeId) (o0 o1 o2 o3 o4 o5 o6 o7 o8 o9 o10 o11 a0 a1 a2 a3 a4 a5 a6 a7 a8 a9 a10 a11 : Value) (h : Blk v g #[o0, o1, o2, o3, o4, o5, o6, o7, o8, o9, o10, o11] t) : Blk (World.setCell (World.setCell (World.setCell (World.setCell (World.setCell (World.setCell (World.setCell (World.setCell (World.setCell (World.setCell (World.setCell (World.setCell v ⟨g, 0, none⟩ a0) ⟨g, 1, none⟩ a1) ⟨g, 2, none⟩ a2) ⟨g, 3, none⟩ a3) ⟨g, 4, none⟩ a4) ⟨g, 5, none⟩ a5) ⟨g, 6, none⟩ a6) ⟨g, 7, none⟩ a7) ⟨g, 8, none⟩ a8) ⟨g, 9, none⟩ a9) ⟨g, 10, none⟩ a10) ⟨g, 11, none⟩ a11) g #[a0, a1, a2, a3, a4, a5, a6, a7, a8, a9, a10, a11] t ∧ Moved (fun q => q = g) v (World.setCell (World.setCell (World.setCell (World.setCell (World.setCell (World.setCell (World.setCell (World.setCell (World.setCell (World.setCell (World.setCell (World.setCell v ⟨g, 0, none⟩ a0) ⟨g, 1, none⟩ a1) ⟨g, 2, none⟩ a2) ⟨g, 3, none⟩ a3) ⟨g, 4, none⟩ a4) ⟨g, 5, none⟩ a5) ⟨g, 6, none⟩ a6) ⟨g, 7, none⟩ a7) ⟨g, 8, none⟩ a8) ⟨g, 9, none⟩ a9) ⟨g, 10, none⟩ a10) ⟨g, 11, none⟩ a11) := by
  refine ⟨?_, ?_⟩
  · have := ((((((((((((h.set 0 a0).set 1 a1).set 2 a2).set 3 a3).set 4 a4).set 5 a5).set 6 a6).set 7 a7).set 8 a8).set 9 a9).set 10 a10).set 11 a11)
    simpa only [List.setIfInBounds_toArray, List.set_cons_zero, List.set_cons_succ] using this
  · exact (((((((((((((Moved.refl (fun q => q = g) v).setCell ⟨g, 0, none⟩ a0 (.inl rfl)).setCell ⟨g, 1, none⟩ a1 (.inl rfl)).setCell ⟨g, 2, none⟩ a2 (.inl rfl)).setCell ⟨g, 3, none⟩ a3 (.inl rfl)).setCell ⟨g, 4, none⟩ a4 (.inl rfl)).setCell ⟨g, 5, none⟩ a5 (.inl rfl)).setCell ⟨g, 6, none⟩ a6 (.inl rfl)).setCell ⟨g, 7, none⟩ a7 (.inl rfl)).setCell ⟨g, 8, none⟩ a8 (.inl rfl)).setCell ⟨g, 9, none⟩ a9 (.inl rfl)).setCell ⟨g, 10, none⟩ a10 (.inl rfl)).setCell ⟨g, 11, none⟩ a11 (.inl rfl))
theorem four0 (v : World) (g : Nat) (t : TypeId) (o0 o1 o2 o3 o4 o5 o6 o7 o8 o9 o10 o11 u0 u1 u2 u3 : Value) (h : Blk v g #[o0, o1, o2, o3, o4, o5, o6, o7, o8, o9, o10, o11] t) : Blk (World.setCell (World.setCell (World.setCell (World.setCell v ⟨g, 0, none⟩ u0) ⟨g, 1, none⟩ u1) ⟨g, 2, none⟩ u2) ⟨g, 3, none⟩ u3) g #[u0, u1, u2, u3, o4, o5, o6, o7, o8, o9, o10, o11] t ∧ Moved (fun q => q = g) v (World.setCell (World.setCell (World.setCell (World.setCell v ⟨g, 0, none⟩ u0) ⟨g, 1, none⟩ u1) ⟨g, 2, none⟩ u2) ⟨g, 3, none⟩ u3) := by
  refine ⟨?_, ?_⟩
  · have := ((((h.set 0 u0).set 1 u1).set 2 u2).set 3 u3)
    simpa only [List.setIfInBounds_toArray, List.set_cons_zero, List.set_cons_succ] using this
  · exact (((((Moved.refl (fun q => q = g) v).setCell ⟨g, 0, none⟩ u0 (.inl rfl)).setCell ⟨g, 1, none⟩ u1 (.inl rfl)).setCell ⟨g, 2, none⟩ u2 (.inl rfl)).setCell ⟨g, 3, none⟩ u3 (.inl rfl))
theorem four4 (v : World) (g : Nat) (t : TypeId) (o0 o1 o2 o3 o4 o5 o6 o7 o8 o9 o10 o11 u0 u1 u2 u3 : Value) (h : Blk v g #[o0, o1, o2, o3, o4, o5, o6, o7, o8, o9, o10, o11] t) : Blk (World.setCell (World.setCell (World.setCell (World.setCell v ⟨g, 4, none⟩ u0) ⟨g, 5, none⟩ u1) ⟨g, 6, none⟩ u2) ⟨g, 7, none⟩ u3) g #[o0, o1, o2, o3, u0, u1, u2, u3, o8, o9, o10, o11] t ∧ Moved (fun q => q = g) v (World.setCell (World.setCell (World.setCell (World.setCell v ⟨g, 4, none⟩ u0) ⟨g, 5, none⟩ u1) ⟨g, 6, none⟩ u2) ⟨g, 7, none⟩ u3) := by
  refine ⟨?_, ?_⟩
  · have := ((((h.set 4 u0).set 5 u1).set 6 u2).set 7 u3)
    simpa only [List.setIfInBounds_toArray, List.set_cons_zero, List.set_cons_succ] using this
  · exact (((((Moved.refl (fun q => q = g) v).setCell ⟨g, 4, none⟩ u0 (.inl rfl)).setCell ⟨g, 5, none⟩ u1 (.inl rfl)).setCell ⟨g, 6, none⟩ u2 (.inl rfl)).setCell ⟨g, 7, none⟩ u3 (.inl rfl))
theorem below_mvd {g : Nat} {w v v' : World} (hal : Below w.heap.size w v) (hm : Moved (fun q => q = g) v v') (hg : w.heap.size ≤ g) : Below w.heap.size w v' :=
  ⟨hm.os.trans hal.os, hm.tape.trans hal.tape, hm.output.trans hal.output, Nat.le_trans hal.size hm.size, fun j hj => (hm.block j (Nat.lt_of_lt_of_le hj hal.size) (fun e => by have e' : j = g := e; omega)).trans (hal.block j hj)⟩
theorem abc_at (q : Nat) (h : q < 3) : ([.string ⟨#[97]⟩, .string ⟨#[98]⟩, .string ⟨#[99]⟩] : List Value)[q]'h = .string ⟨#[UInt8.ofNat (97 + q)]⟩ := by
  match q, h with
  | 0, _ => rfl
  | 1, _ => rfl
  | 2, _ => rfl
theorem results_cell12 {fn : Func} (h : fn.results = #[.cell 2 33]) (tmps : Array Value) (w : World) (g : Nat) (t : TypeId) (c0 c1 c2 c3 c4 c5 c6 c7 c8 c9 c10 c11 : Value)
    (hp : tmps.getD 2 undef = .pointer (some ⟨g, 0, none⟩)) (hg : Blk w g #[c0, c1, c2, c3, c4, c5, c6, c7, c8, c9, c10, c11] t) : (results fn tmps).run Tryd.prog w = .ok (.agg #[c0, c1, c2, c3, c4, c5, c6, c7, c8, c9, c10, c11]) w :=
  results_cell_row h tmps w g t _ (0, 0) _ hp hg Tryd.underlying33 rfl (by kernel_rfl)
set_option maxHeartbeats 3000000 in
theorem good9_any (x : Tri3) (h1 : x.1.Few) (h2 : x.2.1.Few) (h3 : x.2.2.Few) : GoodTo x := by
  intro w
  have HT1 := Lib.hid (fun w => tgood_any x.1 h1 w)
  have HT2 := Lib.hid (fun w => tgood_any x.2.1 h2 w)
  have HT3 := Lib.hid (fun w => tgood_any x.2.2 h3 w)
  have HLEN := Lib.hid h2.s
  obtain ⟨GX, hGX⟩ : ∃ G, G = good9 x := ⟨_, rfl⟩
  rw [← hGX]
  unfold good9 at hGX
  obtain ⟨g1, hg1⟩ : ∃ g, g = goodT x.1 := ⟨_, rfl⟩
  obtain ⟨g2, hg2⟩ : ∃ g, g = goodT x.2.1 := ⟨_, rfl⟩
  obtain ⟨g3, hg3⟩ : ∃ g, g = goodT x.2.2 := ⟨_, rfl⟩
  rw [← hg1, ← hg2, ← hg3] at hGX
  rw [← hg1] at HT1
  rw [← hg2] at HT2
  rw [← hg3] at HT3
  clear hg1 hg2 hg3 h1 h2 h3
  obtain ⟨⟨x1k, x1s, x1l, x1t⟩, ⟨x2k, x2s, x2l, x2t⟩, ⟨x3k, x3s, x3l, x3t⟩⟩ := x
  obtain ⟨m1k, m1s, m1l, m1t⟩ := g1
  obtain ⟨m2k, m2s, m2l, m2t⟩ := g2
  obtain ⟨m3k, m3s, m3l, m3t⟩ := g3
  have HGX := Lib.hid hGX
  clear hGX
  unfold tri Tm.val at *
  dsimp only at HT1 HT2 HT3 HLEN ⊢
  have hal := ((Below.refl w.heap.size w).alloc (Nat.le_refl _) (.cells #[.int .i64 x1k, .string x1s, .string x1l, .string x1t, .int .i64 x2k, .string x2s, .string x2l, .string x2t, .int .i64 x3k, .string x3s, .string x3l, .string x3t] 33)).alloc (by simp) (.cells #[.int .i64 0, .string ⟨#[]⟩, .string ⟨#[]⟩, .string ⟨#[]⟩, .int .i64 0, .string ⟨#[]⟩, .string ⟨#[]⟩, .string ⟨#[]⟩, .int .i64 0, .string ⟨#[]⟩, .string ⟨#[]⟩, .string ⟨#[]⟩] 33)
  have hb1 := (Blk.new w #[.int .i64 x1k, .string x1s, .string x1l, .string x1t, .int .i64 x2k, .string x2s, .string x2l, .string x2t, .int .i64 x3k, .string x3s, .string x3l, .string x3t] 33).alloc (.cells #[.int .i64 0, .string ⟨#[]⟩, .string ⟨#[]⟩, .string ⟨#[]⟩, .int .i64 0, .string ⟨#[]⟩, .string ⟨#[]⟩, .string ⟨#[]⟩, .int .i64 0, .string ⟨#[]⟩, .string ⟨#[]⟩, .string ⟨#[]⟩] 33)
  have hr := Blk.new (w.alloc (.cells #[.int .i64 x1k, .string x1s, .string x1l, .string x1t, .int .i64 x2k, .string x2s, .string x2l, .string x2t, .int .i64 x3k, .string x3s, .string x3l, .string x3t] 33)) #[.int .i64 0, .string ⟨#[]⟩, .string ⟨#[]⟩, .string ⟨#[]⟩, .int .i64 0, .string ⟨#[]⟩, .string ⟨#[]⟩, .string ⟨#[]⟩, .int .i64 0, .string ⟨#[]⟩, .string ⟨#[]⟩, .string ⟨#[]⟩] 33
  rw [show (w.alloc (.cells #[.int .i64 x1k, .string x1s, .string x1l, .string x1t, .int .i64 x2k, .string x2s, .string x2l, .string x2t, .int .i64 x3k, .string x3s, .string x3l, .string x3t] 33)).heap.size = w.heap.size + 1 from by simp] at hr
  go_enter Tryd.func14, Tryd.ntmps14
  go_upto_region 1 with fail
  generalize World.alloc (World.alloc w _) _ = w3 at hal hb1 hr ⊢
  go_cut [3] from 4 to 13 (fun s3 wx => ∃ G : Nat, s3 = .pointer (some ⟨G, 0, none⟩) ∧ w.heap.size + 1 < G ∧ Blk wx G #[.int .i64 m1k, .string m1s, .string m1l, .string m1t, .int .i64 m2k, .string m2s, .string m2l, .string m2t, .int .i64 m3k, .string m3s, .string m3l, .string m3t] 33 ∧ Blk wx w.heap.size #[.int .i64 x1k, .string x1s, .string x1l, .string x1t, .int .i64 x2k, .string x2s, .string x2l, .string x2t, .int .i64 x3k, .string x3s, .string x3l, .string x3t] 33 ∧ Blk wx (w.heap.size + 1) #[.int .i64 0, .string ⟨#[]⟩, .string ⟨#[]⟩, .string ⟨#[]⟩, .int .i64 0, .string ⟨#[]⟩, .string ⟨#[]⟩, .string ⟨#[]⟩, .int .i64 0, .string ⟨#[]⟩, .string ⟨#[]⟩, .string ⟨#[]⟩] 33 ∧ Below w.heap.size w wx)
  case rest =>
    obtain ⟨G, rfl, hlt, hg9, hS, hr9, hal9⟩ := hcut
    clear hal hb1 hr HT1 HT2 HT3
    have c0 := hg9.cell 0; have e0 := hg9.frozen 0; have c1 := hg9.cell 1; have e1 := hg9.frozen 1; have c2 := hg9.cell 2; have e2 := hg9.frozen 2; have c3 := hg9.cell 3; have e3 := hg9.frozen 3; have c4 := hg9.cell 4; have e4 := hg9.frozen 4; have c5 := hg9.cell 5; have e5 := hg9.frozen 5; have c6 := hg9.cell 6; have e6 := hg9.frozen 6; have c7 := hg9.cell 7; have e7 := hg9.frozen 7; have c8 := hg9.cell 8; have e8 := hg9.frozen 8; have c9 := hg9.cell 9; have e9 := hg9.frozen 9; have c10 := hg9.cell 10; have e10 := hg9.frozen 10; have c11 := hg9.cell 11; have e11 := hg9.frozen 11
    simp only [List.getElem?_toArray, List.getElem?_cons_zero, List.getElem?_cons_succ] at c0 c1 c2 c3 c4 c5 c6 c7 c8 c9 c10 c11
    go_upto_if 17 with fail
    obtain ⟨A, hA⟩ : ∃ A : Tm, A = if m1k = 3 then (⟨2, ⟨#[108, 105, 116]⟩, ⟨#[]⟩, ⟨#[]⟩⟩ : Tm) else ⟨m1k, m1s, m1l, m1t⟩ := ⟨_, rfl⟩
    go_cut [2] from 14 to 19 (fun s2 wx => s2 = .pointer (some ⟨w.heap.size + 1, 0, none⟩) ∧ Blk wx G #[.int .i64 A.k, .string A.s, .string A.l, .string A.t, .int .i64 m2k, .string m2s, .string m2l, .string m2t, .int .i64 m3k, .string m3s, .string m3l, .string m3t] 33 ∧ Blk wx w.heap.size #[.int .i64 x1k, .string x1s, .string x1l, .string x1t, .int .i64 x2k, .string x2s, .string x2l, .string x2t, .int .i64 x3k, .string x3s, .string x3l, .string x3t] 33 ∧ Blk wx (w.heap.size + 1) #[.int .i64 0, .string ⟨#[]⟩, .string ⟨#[]⟩, .string ⟨#[]⟩, .int .i64 0, .string ⟨#[]⟩, .string ⟨#[]⟩, .string ⟨#[]⟩, .int .i64 0, .string ⟨#[]⟩, .string ⟨#[]⟩, .string ⟨#[]⟩] 33 ∧ Below w.heap.size w wx)
    case first =>
      by_cases hk : m1k = 3
      · subst hk
        rw [if_pos rfl] at hA
        subst hA
        go_wp2_with fail
        go_meet
        have h4 := four0 _ G _ _ _ _ _ _ _ _ _ _ _ _ _ (.int .i64 2) (.string ⟨#[108, 105, 116]⟩) (.string ⟨#[]⟩) (.string ⟨#[]⟩) hg9
        exact ⟨rfl, h4.1, hS.moved h4.2 (fun e => by omega), hr9.moved h4.2 (fun e => by omega), below_mvd hal9 h4.2 (by omega)⟩
      · rw [if_neg hk] at hA
        subst hA
        have hkb : (m1k == 3) = false := by simpa using hk
        go_wp2_with fail
        go_meet
        exact ⟨rfl, hg9, hS, hr9, hal9⟩
    case rest =>
      obtain ⟨rfl, hgA, hSA, hrA, halA⟩ := hcut
      have HA := Lib.hid hA
      clear hA
      clear hg9 hS hr9 hal9
      have c0 := hgA.cell 0; have e0 := hgA.frozen 0; have c1 := hgA.cell 1; have e1 := hgA.frozen 1; have c2 := hgA.cell 2; have e2 := hgA.frozen 2; have c3 := hgA.cell 3; have e3 := hgA.frozen 3; have c4 := hgA.cell 4; have e4 := hgA.frozen 4; have c5 := hgA.cell 5; have e5 := hgA.frozen 5; have c6 := hgA.cell 6; have e6 := hgA.frozen 6; have c7 := hgA.cell 7; have e7 := hgA.frozen 7; have c8 := hgA.cell 8; have e8 := hgA.frozen 8; have c9 := hgA.cell 9; have e9 := hgA.frozen 9; have c10 := hgA.cell 10; have e10 := hgA.frozen 10; have c11 := hgA.cell 11; have e11 := hgA.frozen 11
      simp only [List.getElem?_toArray, List.getElem?_cons_zero, List.getElem?_cons_succ] at c0 c1 c2 c3 c4 c5 c6 c7 c8 c9 c10 c11
      have q5 := hSA.cell 5
      simp only [List.getElem?_toArray, List.getElem?_cons_zero, List.getElem?_cons_succ] at q5
      go_upto_if 23 with fail
      obtain ⟨q, hq⟩ : ∃ q : Nat, q = x2s.size % 3 := ⟨_, rfl⟩
      have HQ := Lib.hid hq
      clear hq
      obtain ⟨Y, hY⟩ : ∃ Y : ByteArray, Y = ⟨#[UInt8.ofNat (97 + q)]⟩ := ⟨_, rfl⟩
      obtain ⟨Z, hZ⟩ : ∃ Z : ByteArray, Z = (⟨#[112, 58]⟩ : ByteArray) ++ Y := ⟨_, rfl⟩
      obtain ⟨B, hB⟩ : ∃ B : Tm, B = if m2k = 1 then (⟨m2k, m2s, m2l, m2t⟩ : Tm) else ⟨1, Z, ⟨#[]⟩, ⟨#[]⟩⟩ := ⟨_, rfl⟩
      go_cut [2] from 20 to 34 (fun s2 wx => s2 = .pointer (some ⟨w.heap.size + 1, 0, none⟩) ∧ Blk wx G #[.int .i64 A.k, .string A.s, .string A.l, .string A.t, .int .i64 B.k, .string B.s, .string B.l, .string B.t, .int .i64 m3k, .string m3s, .string m3l, .string m3t] 33 ∧ Blk wx (w.heap.size + 1) #[.int .i64 0, .string ⟨#[]⟩, .string ⟨#[]⟩, .string ⟨#[]⟩, .int .i64 0, .string ⟨#[]⟩, .string ⟨#[]⟩, .string ⟨#[]⟩, .int .i64 0, .string ⟨#[]⟩, .string ⟨#[]⟩, .string ⟨#[]⟩] 33 ∧ Below w.heap.size w wx)
      case first =>
        by_cases hk : m2k = 1
        · subst hk
          rw [if_pos rfl] at hB
          subst hB
          go_wp2_with fail
          go_meet
          exact ⟨rfl, hgA, hrA, halA⟩
        · rw [if_neg hk] at hB
          subst hB
          have hkb : (m2k == 1) = false := by simpa using hk
          obtain ⟨v5, hv5⟩ : ∃ v5, v5 = wc.alloc (.cells #[.string ⟨#[97]⟩, .string ⟨#[98]⟩, .string ⟨#[99]⟩] 9) := ⟨_, rfl⟩
          have q6 := (hSA.alloc (.cells #[.string ⟨#[97]⟩, .string ⟨#[98]⟩, .string ⟨#[99]⟩] 9)).cell 5
          have y4 := (hgA.alloc (.cells #[.string ⟨#[97]⟩, .string ⟨#[98]⟩, .string ⟨#[99]⟩] 9)).cell 4; have z4 := (hgA.alloc (.cells #[.string ⟨#[97]⟩, .string ⟨#[98]⟩, .string ⟨#[99]⟩] 9)).frozen 4; have y5 := (hgA.alloc (.cells #[.string ⟨#[97]⟩, .string ⟨#[98]⟩, .string ⟨#[99]⟩] 9)).cell 5; have z5 := (hgA.alloc (.cells #[.string ⟨#[97]⟩, .string ⟨#[98]⟩, .string ⟨#[99]⟩] 9)).frozen 5; have y6 := (hgA.alloc (.cells #[.string ⟨#[97]⟩, .string ⟨#[98]⟩, .string ⟨#[99]⟩] 9)).cell 6; have z6 := (hgA.alloc (.cells #[.string ⟨#[97]⟩, .string ⟨#[98]⟩, .string ⟨#[99]⟩] 9)).frozen 6; have y7 := (hgA.alloc (.cells #[.string ⟨#[97]⟩, .string ⟨#[98]⟩, .string ⟨#[99]⟩] 9)).cell 7; have z7 := (hgA.alloc (.cells #[.string ⟨#[97]⟩, .string ⟨#[98]⟩, .string ⟨#[99]⟩] 9)).frozen 7
          simp only [List.getElem?_toArray, List.getElem?_cons_zero, List.getElem?_cons_succ] at q6 y4 y5 y6 y7
          have hg7 := hgA.alloc (.cells #[.string ⟨#[97]⟩, .string ⟨#[98]⟩, .string ⟨#[99]⟩] 9)
          have hr7 := hrA.alloc (.cells #[.string ⟨#[97]⟩, .string ⟨#[98]⟩, .string ⟨#[99]⟩] 9)
          have ha7 := halA.alloc halA.size (.cells #[.string ⟨#[97]⟩, .string ⟨#[98]⟩, .string ⟨#[99]⟩] 9)
          have hq := HQ.out
          have hq3 : q < 3 := by omega
          have hqi : (x2s.size : Int) % 3 = q := by omega
          have habc := abc_at q hq3
          rw [← hY] at habc
          have hYs : Y.size = 1 := by rw [hY]; rfl
          clear hY
          go_wp2_with fail
          refine (within9_eq x2s.size 3 (by omega) (by omega) _).mono ?_
          rintro en vw ⟨rfl, hw⟩
          obtain rfl := hw.symm
          rw [hqi]
          clear hq hqi
          go_wp2_with (rw [habc])
          rw [← hZ]
          go_meet
          have h4 := four4 _ G _ _ _ _ _ _ _ _ _ _ _ _ _ (.int .i64 1) (.string Z) (.string ⟨#[]⟩) (.string ⟨#[]⟩) hg7
          exact ⟨rfl, h4.1, hr7.moved h4.2 (fun e => by omega), below_mvd ha7 h4.2 (by omega)⟩
      case rest =>
        obtain ⟨rfl, hgB, hrB, halB⟩ := hcut
        clear hgA hSA hrA halA c0 c1 c2 c3 c4 c5 c6 c7 c8 c9 c10 c11 e0 e1 e2 e3 e4 e5 e6 e7 e8 e9 e10 e11
        have c0 := hgB.cell 0; have e0 := hgB.frozen 0; have c1 := hgB.cell 1; have e1 := hgB.frozen 1; have c2 := hgB.cell 2; have e2 := hgB.frozen 2; have c3 := hgB.cell 3; have e3 := hgB.frozen 3; have c4 := hgB.cell 4; have e4 := hgB.frozen 4; have c5 := hgB.cell 5; have e5 := hgB.frozen 5; have c6 := hgB.cell 6; have e6 := hgB.frozen 6; have c7 := hgB.cell 7; have e7 := hgB.frozen 7; have c8 := hgB.cell 8; have e8 := hgB.frozen 8; have c9 := hgB.cell 9; have e9 := hgB.frozen 9; have c10 := hgB.cell 10; have e10 := hgB.frozen 10; have c11 := hgB.cell 11; have e11 := hgB.frozen 11
        simp only [List.getElem?_toArray, List.getElem?_cons_zero, List.getElem?_cons_succ] at c0 c1 c2 c3 c4 c5 c6 c7 c8 c9 c10 c11
        have d0 := hrB.cell 0; have f0 := hrB.frozen 0; have d1 := hrB.cell 1; have f1 := hrB.frozen 1; have d2 := hrB.cell 2; have f2 := hrB.frozen 2; have d3 := hrB.cell 3; have f3 := hrB.frozen 3; have d4 := hrB.cell 4; have f4 := hrB.frozen 4; have d5 := hrB.cell 5; have f5 := hrB.frozen 5; have d6 := hrB.cell 6; have f6 := hrB.frozen 6; have d7 := hrB.cell 7; have f7 := hrB.frozen 7; have d8 := hrB.cell 8; have f8 := hrB.frozen 8; have d9 := hrB.cell 9; have f9 := hrB.frozen 9; have d10 := hrB.cell 10; have f10 := hrB.frozen 10; have d11 := hrB.cell 11; have f11 := hrB.frozen 11
        simp only [List.getElem?_toArray, List.getElem?_cons_zero, List.getElem?_cons_succ] at d0 d1 d2 d3 d4 d5 d6 d7 d8 d9 d10 d11
        have HB := Lib.hid hB
        clear hB
        go_wp2_with fail
        have h12 := twelve wc (w.heap.size + 1) _ _ _ _ _ _ _ _ _ _ _ _ _ (.int .i64 A.k) (.string A.s) (.string A.l) (.string A.t) (.int .i64 B.k) (.string B.s) (.string B.l) (.string B.t) (.int .i64 m3k) (.string m3s) (.string m3l) (.string m3t) hrB
        refine bodyPost_ret (v := .agg #[.int .i64 A.k, .string A.s, .string A.l, .string A.t, .int .i64 B.k, .string B.s, .string B.l, .string B.t, .int .i64 m3k, .string m3s, .string m3l, .string m3t]) (results_cell12 (by kernel_rfl) _ _ (w.heap.size + 1) _ _ _ _ _ _ _ _ _ _ _ _ _ rfl h12.1) rfl ⟨?_, below_mvd halB h12.2 (by omega)⟩
        have hB' := HB.out
        rw [hZ, hY, HQ.out, lit_two] at hB'
        have hG' := HGX.out
        rw [show GX = (A, B, ⟨m3k, m3s, m3l, m3t⟩) from by rw [hG', HA.out, hB']; rfl]
  case first =>
    refine wp_region_any (by kernel_rfl) ?_
    change wpAny _ _ _ _ _ _ _ (World.drew _)
    refine wpAny_of_held (S := fun (w' : World) => Blk w' w.heap.size #[.int .i64 x1k, .string x1s, .string x1l, .string x1t, .int .i64 x2k, .string x2s, .string x2l, .string x2t, .int .i64 x3k, .string x3s, .string x3l, .string x3t] 33) _ _ _ _ ?_
    have hS : (fun (w' : World) => Blk w' w.heap.size #[.int .i64 x1k, .string x1s, .string x1l, .string x1t, .int .i64 x2k, .string x2s, .string x2l, .string x2t, .int .i64 x3k, .string x3s, .string x3l, .string x3t] 33) (World.drew w3) := hb1.drew
    have hal4 := hal.drew
    have hr4 := hr.drew
    clear hal hb1 hr
    have hal := hal4
    have hr := hr4
    clear hal4 hr4
    generalize World.drew w3 = v0 at hal hr hS ⊢
    try simp only [Act.put, List.setIfInBounds_toArray, List.set_cons_zero, List.set_cons_succ]
    refine wpAnyH_take (i := 0) (oi := ⟨some 4, _, _, _, _, _⟩) (v := ?_) rfl (by kernel_rfl) (by kernel_rfl) (by kernel_rfl) (fun _ _ _ h => h) (Or.inl ⟨by simp only [Region.wanted], ?_⟩) hS ?_
    rotate_left
    · intro wz hSw
      clear hSw
      go_simp
      first | done | with_reducible rfl
    try simp only [Act.put, List.setIfInBounds_toArray, List.set_cons_zero, List.set_cons_succ]
    refine wpAnyH_take (i := 1) (oi := ⟨some 5, _, _, _, _, _⟩) (v := ?_) rfl (by kernel_rfl) (by kernel_rfl) (by kernel_rfl) (fun _ _ _ h => h) (Or.inl ⟨by simp only [Region.wanted], ?_⟩) hS ?_
    rotate_left
    · intro wz hSw; have q0 := hSw.cell 0; have q1 := hSw.cell 1; have q2 := hSw.cell 2; have q3 := hSw.cell 3; have q4 := hSw.cell 4; have q5 := hSw.cell 5; have q6 := hSw.cell 6; have q7 := hSw.cell 7; have q8 := hSw.cell 8; have q9 := hSw.cell 9; have q10 := hSw.cell 10; have q11 := hSw.cell 11; simp only [List.getElem?_toArray, List.getElem?_cons_zero, List.getElem?_cons_succ] at q0 q1 q2 q3 q4 q5 q6 q7 q8 q9 q10 q11
      clear hSw
      go_simp
      first | done | with_reducible rfl
    try simp only [Act.put, List.setIfInBounds_toArray, List.set_cons_zero, List.set_cons_succ]
    refine wpAnyH_take (i := 3) (oi := ⟨some 7, _, _, _, _, _⟩) (v := ?_) rfl (by kernel_rfl) (by kernel_rfl) (by kernel_rfl) (fun _ _ _ h => h) (Or.inl ⟨by simp only [Region.wanted], ?_⟩) hS ?_
    rotate_left
    · intro wz hSw
      clear hSw
      go_simp
      first | done | with_reducible rfl
    try simp only [Act.put, List.setIfInBounds_toArray, List.set_cons_zero, List.set_cons_succ]
    refine wpAnyH_take (i := 4) (oi := ⟨some 8, _, _, _, _, _⟩) (v := ?_) rfl (by kernel_rfl) (by kernel_rfl) (by kernel_rfl) (fun _ _ _ h => h) (Or.inl ⟨by simp only [Region.wanted], ?_⟩) hS ?_
    rotate_left
    · intro wz hSw; have q0 := hSw.cell 0; have q1 := hSw.cell 1; have q2 := hSw.cell 2; have q3 := hSw.cell 3; have q4 := hSw.cell 4; have q5 := hSw.cell 5; have q6 := hSw.cell 6; have q7 := hSw.cell 7; have q8 := hSw.cell 8; have q9 := hSw.cell 9; have q10 := hSw.cell 10; have q11 := hSw.cell 11; simp only [List.getElem?_toArray, List.getElem?_cons_zero, List.getElem?_cons_succ] at q0 q1 q2 q3 q4 q5 q6 q7 q8 q9 q10 q11
      clear hSw
      go_simp
      first | done | with_reducible rfl
    try simp only [Act.put, List.setIfInBounds_toArray, List.set_cons_zero, List.set_cons_succ]
    refine wpAnyH_take (i := 6) (oi := ⟨some 10, _, _, _, _, _⟩) (v := ?_) rfl (by kernel_rfl) (by kernel_rfl) (by kernel_rfl) (fun _ _ _ h => h) (Or.inl ⟨by simp only [Region.wanted], ?_⟩) hS ?_
    rotate_left
    · intro wz hSw
      clear hSw
      go_simp
      first | done | with_reducible rfl
    try simp only [Act.put, List.setIfInBounds_toArray, List.set_cons_zero, List.set_cons_succ]
    refine wpAnyH_take (i := 7) (oi := ⟨some 11, _, _, _, _, _⟩) (v := ?_) rfl (by kernel_rfl) (by kernel_rfl) (by kernel_rfl) (fun _ _ _ h => h) (Or.inl ⟨by simp only [Region.wanted], ?_⟩) hS ?_
    rotate_left
    · intro wz hSw; have q0 := hSw.cell 0; have q1 := hSw.cell 1; have q2 := hSw.cell 2; have q3 := hSw.cell 3; have q4 := hSw.cell 4; have q5 := hSw.cell 5; have q6 := hSw.cell 6; have q7 := hSw.cell 7; have q8 := hSw.cell 8; have q9 := hSw.cell 9; have q10 := hSw.cell 10; have q11 := hSw.cell 11; simp only [List.getElem?_toArray, List.getElem?_cons_zero, List.getElem?_cons_succ] at q0 q1 q2 q3 q4 q5 q6 q7 q8 q9 q10 q11
      clear hSw
      go_simp
      first | done | with_reducible rfl
    try simp only [Act.put, List.setIfInBounds_toArray, List.set_cons_zero, List.set_cons_succ]
    refine wpAnyH_ready (rs := [2, 10]) (by kernel_rfl) (by simp) ?_
    refine AllReadyH.cons (o := ⟨some 6, _, _, _, _, _⟩) rfl (fun K hK => ?_) (AllReadyH.cons (o := ⟨some 3, _, _, _, _, _⟩) rfl (fun K hK => ?_) (AllReadyH.nil))
    · go_simp
      refine (HT1.out _).mono ?_
      rintro en v1 ⟨rfl, hbn⟩
      have hal' := hal.trans (hbn.mono hal.size)
      have hr' : Blk v1 (w.heap.size + 1) #[.int .i64 0, .string ⟨#[]⟩, .string ⟨#[]⟩, .string ⟨#[]⟩, .int .i64 0, .string ⟨#[]⟩, .string ⟨#[]⟩, .string ⟨#[]⟩, .int .i64 0, .string ⟨#[]⟩, .string ⟨#[]⟩, .string ⟨#[]⟩] 33 := (hbn.block _ hr.lt).trans hr
      refine hK.out _ _ ((hbn.block _ hS.lt).trans hS) (fun hS => ?_)
      clear hK K
      try simp only [Act.put, List.setIfInBounds_toArray, List.set_cons_zero, List.set_cons_succ]
      clear hal hr hbn
      have hal := hal'
      have hr := hr'
      clear hal' hr'
      refine wpAnyH_ready (rs := [5, 10]) (by kernel_rfl) (by simp) ?_
      refine AllReadyH.cons (o := ⟨some 9, _, _, _, _, _⟩) rfl (fun K hK => ?_) (AllReadyH.cons (o := ⟨some 3, _, _, _, _, _⟩) rfl (fun K hK => ?_) (AllReadyH.nil))
      · go_simp
        refine (HT2.out _).mono ?_
        rintro en v2 ⟨rfl, hbn⟩
        have hal' := hal.trans (hbn.mono hal.size)
        have hr' : Blk v2 (w.heap.size + 1) #[.int .i64 0, .string ⟨#[]⟩, .string ⟨#[]⟩, .string ⟨#[]⟩, .int .i64 0, .string ⟨#[]⟩, .string ⟨#[]⟩, .string ⟨#[]⟩, .int .i64 0, .string ⟨#[]⟩, .string ⟨#[]⟩, .string ⟨#[]⟩] 33 := (hbn.block _ hr.lt).trans hr
        refine hK.out _ _ ((hbn.block _ hS.lt).trans hS) (fun hS => ?_)
        clear hK K
        try simp only [Act.put, List.setIfInBounds_toArray, List.set_cons_zero, List.set_cons_succ]
        clear hal hr hbn
        have hal := hal'
        have hr := hr'
        clear hal' hr'
        refine wpAnyH_ready (rs := [8, 10]) (by kernel_rfl) (by simp) ?_
        refine AllReadyH.cons (o := ⟨some 12, _, _, _, _, _⟩) rfl (fun K hK => ?_) (AllReadyH.cons (o := ⟨some 3, _, _, _, _, _⟩) rfl (fun K hK => ?_) (AllReadyH.nil))
        · go_simp
          refine (HT3.out _).mono ?_
          rintro en v3 ⟨rfl, hbn⟩
          have hal' := hal.trans (hbn.mono hal.size)
          have hr' : Blk v3 (w.heap.size + 1) #[.int .i64 0, .string ⟨#[]⟩, .string ⟨#[]⟩, .string ⟨#[]⟩, .int .i64 0, .string ⟨#[]⟩, .string ⟨#[]⟩, .string ⟨#[]⟩, .int .i64 0, .string ⟨#[]⟩, .string ⟨#[]⟩, .string ⟨#[]⟩] 33 := (hbn.block _ hr.lt).trans hr
          refine hK.out _ _ ((hbn.block _ hS.lt).trans hS) (fun hS => ?_)
          clear hK K
          try simp only [Act.put, List.setIfInBounds_toArray, List.set_cons_zero, List.set_cons_succ]
          clear hal hr hbn
          have hal := hal'
          have hr := hr'
          clear hal' hr'
          refine wpAnyH_take (i := 9) (oi := ⟨some 13, _, _, _, _, _⟩) (v := ?_) rfl (by kernel_rfl) (by kernel_rfl) (by kernel_rfl) (fun _ _ _ h => h) (Or.inl ⟨by simp only [Region.wanted], ?_⟩) hS ?_
          rotate_left
          · intro wz hSw
            clear hSw
            go_simp
            first | done | with_reducible rfl
          try simp only [Act.put, List.setIfInBounds_toArray, List.set_cons_zero, List.set_cons_succ]
          refine wpAnyH_ready (rs := [10]) (by kernel_rfl) (by simp) ?_
          refine AllReadyH.cons (o := ⟨some 3, _, _, _, _, _⟩) rfl (fun K hK => ?_) (AllReadyH.nil)
          · have hlt : w.heap.size + 1 < v3.heap.size := hr.lt
            go_simp
            refine hK.out _ _ (hS.alloc _) (fun hS => ?_)
            clear hK K
            try simp only [Act.put, List.setIfInBounds_toArray, List.set_cons_zero, List.set_cons_succ]
            have hg := Blk.new v3 #[.int .i64 0, .string ⟨#[]⟩, .string ⟨#[]⟩, .string ⟨#[]⟩, .int .i64 0, .string ⟨#[]⟩, .string ⟨#[]⟩, .string ⟨#[]⟩, .int .i64 0, .string ⟨#[]⟩, .string ⟨#[]⟩, .string ⟨#[]⟩] 33
            have hal' := hal.alloc hal.size (.cells #[.int .i64 0, .string ⟨#[]⟩, .string ⟨#[]⟩, .string ⟨#[]⟩, .int .i64 0, .string ⟨#[]⟩, .string ⟨#[]⟩, .string ⟨#[]⟩, .int .i64 0, .string ⟨#[]⟩, .string ⟨#[]⟩, .string ⟨#[]⟩] 33)
            have hr' := hr.alloc (.cells #[.int .i64 0, .string ⟨#[]⟩, .string ⟨#[]⟩, .string ⟨#[]⟩, .int .i64 0, .string ⟨#[]⟩, .string ⟨#[]⟩, .string ⟨#[]⟩, .int .i64 0, .string ⟨#[]⟩, .string ⟨#[]⟩, .string ⟨#[]⟩] 33)
            clear hal hr
            have hal := hal'
            have hr := hr'
            clear hal' hr'
            generalize World.alloc v3 _ = v3a at hal hr hg hS ⊢
            have c0 := hg.cell 0; have e0 := hg.frozen 0; have c1 := hg.cell 1; have e1 := hg.frozen 1; have c2 := hg.cell 2; have e2 := hg.frozen 2; have c3 := hg.cell 3; have e3 := hg.frozen 3; have c4 := hg.cell 4; have e4 := hg.frozen 4; have c5 := hg.cell 5; have e5 := hg.frozen 5; have c6 := hg.cell 6; have e6 := hg.frozen 6; have c7 := hg.cell 7; have e7 := hg.frozen 7; have c8 := hg.cell 8; have e8 := hg.frozen 8; have c9 := hg.cell 9; have e9 := hg.frozen 9; have c10 := hg.cell 10; have e10 := hg.frozen 10; have c11 := hg.cell 11; have e11 := hg.frozen 11
            simp only [List.getElem?_toArray, List.getElem?_cons_zero, List.getElem?_cons_succ] at c0 c1 c2 c3 c4 c5 c6 c7 c8 c9 c10 c11
            refine wpAnyH_ready (rs := [11]) (by kernel_rfl) (by simp) ?_
            refine AllReadyH.cons (o := ⟨none, _, _, _, _, _⟩) rfl (fun K hK => ?_) AllReadyH.nil
            go_simp
            have htw := twelve _ _ _ _ _ _ _ _ _ _ _ _ _ _ _ (.int .i64 m1k) (.string m1s) (.string m1l) (.string m1t) (.int .i64 m2k) (.string m2s) (.string m2l) (.string m2t) (.int .i64 m3k) (.string m3s) (.string m3l) (.string m3t) hg
            refine hK.out _ _ (hS.moved htw.2 (fun e => by omega)) (fun hS => ?_)
            clear hK K
            try simp only [Act.put, List.setIfInBounds_toArray, List.set_cons_zero, List.set_cons_succ]
            have hal9 := (⟨htw.2.os.trans hal.os, htw.2.tape.trans hal.tape, htw.2.output.trans hal.output, Nat.le_trans hal.size htw.2.size, fun j hj => (htw.2.block j (Nat.lt_of_lt_of_le hj hal.size) (by omega)).trans (hal.block j hj)⟩ : Below w.heap.size w _)
            have hr9 := hr.moved htw.2 (fun e => by omega)
            have hg9 := htw.1
            clear htw hal hr hg c0 e0 c1 e1 c2 e2 c3 e3 c4 e4 c5 e5 c6 e6 c7 e7 c8 e8 c9 e9 c10 e10 c11 e11
            generalize World.setCell (World.setCell (World.setCell (World.setCell (World.setCell (World.setCell (World.setCell (World.setCell (World.setCell (World.setCell (World.setCell (World.setCell _ _ _) _ _) _ _) _ _) _ _) _ _) _ _) _ _) _ _) _ _) _ _) _ _ = v9 at hal9 hr9 hg9 hS ⊢
            refine wpAnyH_done (by kernel_rfl) ?_ _

            go_wp2_with fail
            go_meet
            exact ⟨_, rfl, hlt, hg9, hS, hr9, hal9⟩
        · have hlt : w.heap.size + 1 < v2.heap.size := hr.lt
          go_simp
          refine hK.out _ _ (hS.alloc _) (fun hS => ?_)
          clear hK K
          try simp only [Act.put, List.setIfInBounds_toArray, List.set_cons_zero, List.set_cons_succ]
          have hg := Blk.new v2 #[.int .i64 0, .string ⟨#[]⟩, .string ⟨#[]⟩, .string ⟨#[]⟩, .int .i64 0, .string ⟨#[]⟩, .string ⟨#[]⟩, .string ⟨#[]⟩, .int .i64 0, .string ⟨#[]⟩, .string ⟨#[]⟩, .string ⟨#[]⟩] 33
          have hal' := hal.alloc hal.size (.cells #[.int .i64 0, .string ⟨#[]⟩, .string ⟨#[]⟩, .string ⟨#[]⟩, .int .i64 0, .string ⟨#[]⟩, .string ⟨#[]⟩, .string ⟨#[]⟩, .int .i64 0, .string ⟨#[]⟩, .string ⟨#[]⟩, .string ⟨#[]⟩] 33)
          have hr' := hr.alloc (.cells #[.int .i64 0, .string ⟨#[]⟩, .string ⟨#[]⟩, .string ⟨#[]⟩, .int .i64 0, .string ⟨#[]⟩, .string ⟨#[]⟩, .string ⟨#[]⟩, .int .i64 0, .string ⟨#[]⟩, .string ⟨#[]⟩, .string ⟨#[]⟩] 33)
          clear hal hr
          have hal := hal'
          have hr := hr'
          clear hal' hr'
          generalize World.alloc v2 _ = v2a at hal hr hg hS ⊢
          refine wpAnyH_ready (rs := [8]) (by kernel_rfl) (by simp) ?_
          refine AllReadyH.cons (o := ⟨some 12, _, _, _, _, _⟩) rfl (fun K hK => ?_) (AllReadyH.nil)
          · go_simp
            refine (HT3.out _).mono ?_
            rintro en v3 ⟨rfl, hbn⟩
            have hal' := hal.trans (hbn.mono hal.size)
            have hr' : Blk v3 (w.heap.size + 1) #[.int .i64 0, .string ⟨#[]⟩, .string ⟨#[]⟩, .string ⟨#[]⟩, .int .i64 0, .string ⟨#[]⟩, .string ⟨#[]⟩, .string ⟨#[]⟩, .int .i64 0, .string ⟨#[]⟩, .string ⟨#[]⟩, .string ⟨#[]⟩] 33 := (hbn.block _ hr.lt).trans hr
            have hg' : Blk v3 v2.heap.size #[.int .i64 0, .string ⟨#[]⟩, .string ⟨#[]⟩, .string ⟨#[]⟩, .int .i64 0, .string ⟨#[]⟩, .string ⟨#[]⟩, .string ⟨#[]⟩, .int .i64 0, .string ⟨#[]⟩, .string ⟨#[]⟩, .string ⟨#[]⟩] 33 := (hbn.block _ hg.lt).trans hg
            refine hK.out _ _ ((hbn.block _ hS.lt).trans hS) (fun hS => ?_)
            clear hK K
            try simp only [Act.put, List.setIfInBounds_toArray, List.set_cons_zero, List.set_cons_succ]
            clear hal hr hg hbn
            have hal := hal'
            have hr := hr'
            have hg := hg'
            clear hal' hr' hg'
            refine wpAnyH_take (i := 9) (oi := ⟨some 13, _, _, _, _, _⟩) (v := ?_) rfl (by kernel_rfl) (by kernel_rfl) (by kernel_rfl) (fun _ _ _ h => h) (Or.inl ⟨by simp only [Region.wanted], ?_⟩) hS ?_
            rotate_left
            · intro wz hSw
              clear hSw
              go_simp
              first | done | with_reducible rfl
            try simp only [Act.put, List.setIfInBounds_toArray, List.set_cons_zero, List.set_cons_succ]
            have c0 := hg.cell 0; have e0 := hg.frozen 0; have c1 := hg.cell 1; have e1 := hg.frozen 1; have c2 := hg.cell 2; have e2 := hg.frozen 2; have c3 := hg.cell 3; have e3 := hg.frozen 3; have c4 := hg.cell 4; have e4 := hg.frozen 4; have c5 := hg.cell 5; have e5 := hg.frozen 5; have c6 := hg.cell 6; have e6 := hg.frozen 6; have c7 := hg.cell 7; have e7 := hg.frozen 7; have c8 := hg.cell 8; have e8 := hg.frozen 8; have c9 := hg.cell 9; have e9 := hg.frozen 9; have c10 := hg.cell 10; have e10 := hg.frozen 10; have c11 := hg.cell 11; have e11 := hg.frozen 11
            simp only [List.getElem?_toArray, List.getElem?_cons_zero, List.getElem?_cons_succ] at c0 c1 c2 c3 c4 c5 c6 c7 c8 c9 c10 c11
            refine wpAnyH_ready (rs := [11]) (by kernel_rfl) (by simp) ?_
            refine AllReadyH.cons (o := ⟨none, _, _, _, _, _⟩) rfl (fun K hK => ?_) AllReadyH.nil
            go_simp
            have htw := twelve _ _ _ _ _ _ _ _ _ _ _ _ _ _ _ (.int .i64 m1k) (.string m1s) (.string m1l) (.string m1t) (.int .i64 m2k) (.string m2s) (.string m2l) (.string m2t) (.int .i64 m3k) (.string m3s) (.string m3l) (.string m3t) hg
            refine hK.out _ _ (hS.moved htw.2 (fun e => by omega)) (fun hS => ?_)
            clear hK K
            try simp only [Act.put, List.setIfInBounds_toArray, List.set_cons_zero, List.set_cons_succ]
            have hal9 := (⟨htw.2.os.trans hal.os, htw.2.tape.trans hal.tape, htw.2.output.trans hal.output, Nat.le_trans hal.size htw.2.size, fun j hj => (htw.2.block j (Nat.lt_of_lt_of_le hj hal.size) (by omega)).trans (hal.block j hj)⟩ : Below w.heap.size w _)
            have hr9 := hr.moved htw.2 (fun e => by omega)
            have hg9 := htw.1
            clear htw hal hr hg c0 e0 c1 e1 c2 e2 c3 e3 c4 e4 c5 e5 c6 e6 c7 e7 c8 e8 c9 e9 c10 e10 c11 e11
            generalize World.setCell (World.setCell (World.setCell (World.setCell (World.setCell (World.setCell (World.setCell (World.setCell (World.setCell (World.setCell (World.setCell (World.setCell _ _ _) _ _) _ _) _ _) _ _) _ _) _ _) _ _) _ _) _ _) _ _) _ _ = v9 at hal9 hr9 hg9 hS ⊢
            refine wpAnyH_done (by kernel_rfl) ?_ _

            go_wp2_with fail
            go_meet
            exact ⟨_, rfl, hlt, hg9, hS, hr9, hal9⟩
      · have hlt : w.heap.size + 1 < v1.heap.size := hr.lt
        go_simp
        refine hK.out _ _ (hS.alloc _) (fun hS => ?_)
        clear hK K
        try simp only [Act.put, List.setIfInBounds_toArray, List.set_cons_zero, List.set_cons_succ]
        have hg := Blk.new v1 #[.int .i64 0, .string ⟨#[]⟩, .string ⟨#[]⟩, .string ⟨#[]⟩, .int .i64 0, .string ⟨#[]⟩, .string ⟨#[]⟩, .string ⟨#[]⟩, .int .i64 0, .string ⟨#[]⟩, .string ⟨#[]⟩, .string ⟨#[]⟩] 33
        have hal' := hal.alloc hal.size (.cells #[.int .i64 0, .string ⟨#[]⟩, .string ⟨#[]⟩, .string ⟨#[]⟩, .int .i64 0, .string ⟨#[]⟩, .string ⟨#[]⟩, .string ⟨#[]⟩, .int .i64 0, .string ⟨#[]⟩, .string ⟨#[]⟩, .string ⟨#[]⟩] 33)
        have hr' := hr.alloc (.cells #[.int .i64 0, .string ⟨#[]⟩, .string ⟨#[]⟩, .string ⟨#[]⟩, .int .i64 0, .string ⟨#[]⟩, .string ⟨#[]⟩, .string ⟨#[]⟩, .int .i64 0, .string ⟨#[]⟩, .string ⟨#[]⟩, .string ⟨#[]⟩] 33)
        clear hal hr
        have hal := hal'
        have hr := hr'
        clear hal' hr'
        generalize World.alloc v1 _ = v1a at hal hr hg hS ⊢
        refine wpAnyH_ready (rs := [5]) (by kernel_rfl) (by simp) ?_
        refine AllReadyH.cons (o := ⟨some 9, _, _, _, _, _⟩) rfl (fun K hK => ?_) (AllReadyH.nil)
        · go_simp
          refine (HT2.out _).mono ?_
          rintro en v2 ⟨rfl, hbn⟩
          have hal' := hal.trans (hbn.mono hal.size)
          have hr' : Blk v2 (w.heap.size + 1) #[.int .i64 0, .string ⟨#[]⟩, .string ⟨#[]⟩, .string ⟨#[]⟩, .int .i64 0, .string ⟨#[]⟩, .string ⟨#[]⟩, .string ⟨#[]⟩, .int .i64 0, .string ⟨#[]⟩, .string ⟨#[]⟩, .string ⟨#[]⟩] 33 := (hbn.block _ hr.lt).trans hr
          have hg' : Blk v2 v1.heap.size #[.int .i64 0, .string ⟨#[]⟩, .string ⟨#[]⟩, .string ⟨#[]⟩, .int .i64 0, .string ⟨#[]⟩, .string ⟨#[]⟩, .string ⟨#[]⟩, .int .i64 0, .string ⟨#[]⟩, .string ⟨#[]⟩, .string ⟨#[]⟩] 33 := (hbn.block _ hg.lt).trans hg
          refine hK.out _ _ ((hbn.block _ hS.lt).trans hS) (fun hS => ?_)
          clear hK K
          try simp only [Act.put, List.setIfInBounds_toArray, List.set_cons_zero, List.set_cons_succ]
          clear hal hr hg hbn
          have hal := hal'
          have hr := hr'
          have hg := hg'
          clear hal' hr' hg'
          refine wpAnyH_ready (rs := [8]) (by kernel_rfl) (by simp) ?_
          refine AllReadyH.cons (o := ⟨some 12, _, _, _, _, _⟩) rfl (fun K hK => ?_) (AllReadyH.nil)
          · go_simp
            refine (HT3.out _).mono ?_
            rintro en v3 ⟨rfl, hbn⟩
            have hal' := hal.trans (hbn.mono hal.size)
            have hr' : Blk v3 (w.heap.size + 1) #[.int .i64 0, .string ⟨#[]⟩, .string ⟨#[]⟩, .string ⟨#[]⟩, .int .i64 0, .string ⟨#[]⟩, .string ⟨#[]⟩, .string ⟨#[]⟩, .int .i64 0, .string ⟨#[]⟩, .string ⟨#[]⟩, .string ⟨#[]⟩] 33 := (hbn.block _ hr.lt).trans hr
            have hg' : Blk v3 v1.heap.size #[.int .i64 0, .string ⟨#[]⟩, .string ⟨#[]⟩, .string ⟨#[]⟩, .int .i64 0, .string ⟨#[]⟩, .string ⟨#[]⟩, .string ⟨#[]⟩, .int .i64 0, .string ⟨#[]⟩, .string ⟨#[]⟩, .string ⟨#[]⟩] 33 := (hbn.block _ hg.lt).trans hg
            refine hK.out _ _ ((hbn.block _ hS.lt).trans hS) (fun hS => ?_)
            clear hK K
            try simp only [Act.put, List.setIfInBounds_toArray, List.set_cons_zero, List.set_cons_succ]
            clear hal hr hg hbn
            have hal := hal'
            have hr := hr'
            have hg := hg'
            clear hal' hr' hg'
            refine wpAnyH_take (i := 9) (oi := ⟨some 13, _, _, _, _, _⟩) (v := ?_) rfl (by kernel_rfl) (by kernel_rfl) (by kernel_rfl) (fun _ _ _ h => h) (Or.inl ⟨by simp only [Region.wanted], ?_⟩) hS ?_
            rotate_left
            · intro wz hSw
              clear hSw
              go_simp
              first | done | with_reducible rfl
            try simp only [Act.put, List.setIfInBounds_toArray, List.set_cons_zero, List.set_cons_succ]
            have c0 := hg.cell 0; have e0 := hg.frozen 0; have c1 := hg.cell 1; have e1 := hg.frozen 1; have c2 := hg.cell 2; have e2 := hg.frozen 2; have c3 := hg.cell 3; have e3 := hg.frozen 3; have c4 := hg.cell 4; have e4 := hg.frozen 4; have c5 := hg.cell 5; have e5 := hg.frozen 5; have c6 := hg.cell 6; have e6 := hg.frozen 6; have c7 := hg.cell 7; have e7 := hg.frozen 7; have c8 := hg.cell 8; have e8 := hg.frozen 8; have c9 := hg.cell 9; have e9 := hg.frozen 9; have c10 := hg.cell 10; have e10 := hg.frozen 10; have c11 := hg.cell 11; have e11 := hg.frozen 11
            simp only [List.getElem?_toArray, List.getElem?_cons_zero, List.getElem?_cons_succ] at c0 c1 c2 c3 c4 c5 c6 c7 c8 c9 c10 c11
            refine wpAnyH_ready (rs := [11]) (by kernel_rfl) (by simp) ?_
            refine AllReadyH.cons (o := ⟨none, _, _, _, _, _⟩) rfl (fun K hK => ?_) AllReadyH.nil
            go_simp
            have htw := twelve _ _ _ _ _ _ _ _ _ _ _ _ _ _ _ (.int .i64 m1k) (.string m1s) (.string m1l) (.string m1t) (.int .i64 m2k) (.string m2s) (.string m2l) (.string m2t) (.int .i64 m3k) (.string m3s) (.string m3l) (.string m3t) hg
            refine hK.out _ _ (hS.moved htw.2 (fun e => by omega)) (fun hS => ?_)
            clear hK K
            try simp only [Act.put, List.setIfInBounds_toArray, List.set_cons_zero, List.set_cons_succ]
            have hal9 := (⟨htw.2.os.trans hal.os, htw.2.tape.trans hal.tape, htw.2.output.trans hal.output, Nat.le_trans hal.size htw.2.size, fun j hj => (htw.2.block j (Nat.lt_of_lt_of_le hj hal.size) (by omega)).trans (hal.block j hj)⟩ : Below w.heap.size w _)
            have hr9 := hr.moved htw.2 (fun e => by omega)
            have hg9 := htw.1
            clear htw hal hr hg c0 e0 c1 e1 c2 e2 c3 e3 c4 e4 c5 e5 c6 e6 c7 e7 c8 e8 c9 e9 c10 e10 c11 e11
            generalize World.setCell (World.setCell (World.setCell (World.setCell (World.setCell (World.setCell (World.setCell (World.setCell (World.setCell (World.setCell (World.setCell (World.setCell _ _ _) _ _) _ _) _ _) _ _) _ _) _ _) _ _) _ _) _ _) _ _) _ _ = v9 at hal9 hr9 hg9 hS ⊢
            refine wpAnyH_done (by kernel_rfl) ?_ _

            go_wp2_with fail
            go_meet
            exact ⟨_, rfl, hlt, hg9, hS, hr9, hal9⟩
    · have hlt : w.heap.size + 1 < v0.heap.size := hr.lt
      go_simp
      refine hK.out _ _ (hS.alloc _) (fun hS => ?_)
      clear hK K
      try simp only [Act.put, List.setIfInBounds_toArray, List.set_cons_zero, List.set_cons_succ]
      have hg := Blk.new v0 #[.int .i64 0, .string ⟨#[]⟩, .string ⟨#[]⟩, .string ⟨#[]⟩, .int .i64 0, .string ⟨#[]⟩, .string ⟨#[]⟩, .string ⟨#[]⟩, .int .i64 0, .string ⟨#[]⟩, .string ⟨#[]⟩, .string ⟨#[]⟩] 33
      have hal' := hal.alloc hal.size (.cells #[.int .i64 0, .string ⟨#[]⟩, .string ⟨#[]⟩, .string ⟨#[]⟩, .int .i64 0, .string ⟨#[]⟩, .string ⟨#[]⟩, .string ⟨#[]⟩, .int .i64 0, .string ⟨#[]⟩, .string ⟨#[]⟩, .string ⟨#[]⟩] 33)
      have hr' := hr.alloc (.cells #[.int .i64 0, .string ⟨#[]⟩, .string ⟨#[]⟩, .string ⟨#[]⟩, .int .i64 0, .string ⟨#[]⟩, .string ⟨#[]⟩, .string ⟨#[]⟩, .int .i64 0, .string ⟨#[]⟩, .string ⟨#[]⟩, .string ⟨#[]⟩] 33)
      clear hal hr
      have hal := hal'
      have hr := hr'
      clear hal' hr'
      generalize World.alloc v0 _ = v0a at hal hr hg hS ⊢
      refine wpAnyH_ready (rs := [2]) (by kernel_rfl) (by simp) ?_
      refine AllReadyH.cons (o := ⟨some 6, _, _, _, _, _⟩) rfl (fun K hK => ?_) (AllReadyH.nil)
      · go_simp
        refine (HT1.out _).mono ?_
        rintro en v1 ⟨rfl, hbn⟩
        have hal' := hal.trans (hbn.mono hal.size)
        have hr' : Blk v1 (w.heap.size + 1) #[.int .i64 0, .string ⟨#[]⟩, .string ⟨#[]⟩, .string ⟨#[]⟩, .int .i64 0, .string ⟨#[]⟩, .string ⟨#[]⟩, .string ⟨#[]⟩, .int .i64 0, .string ⟨#[]⟩, .string ⟨#[]⟩, .string ⟨#[]⟩] 33 := (hbn.block _ hr.lt).trans hr
        have hg' : Blk v1 v0.heap.size #[.int .i64 0, .string ⟨#[]⟩, .string ⟨#[]⟩, .string ⟨#[]⟩, .int .i64 0, .string ⟨#[]⟩, .string ⟨#[]⟩, .string ⟨#[]⟩, .int .i64 0, .string ⟨#[]⟩, .string ⟨#[]⟩, .string ⟨#[]⟩] 33 := (hbn.block _ hg.lt).trans hg
        refine hK.out _ _ ((hbn.block _ hS.lt).trans hS) (fun hS => ?_)
        clear hK K
        try simp only [Act.put, List.setIfInBounds_toArray, List.set_cons_zero, List.set_cons_succ]
        clear hal hr hg hbn
        have hal := hal'
        have hr := hr'
        have hg := hg'
        clear hal' hr' hg'
        refine wpAnyH_ready (rs := [5]) (by kernel_rfl) (by simp) ?_
        refine AllReadyH.cons (o := ⟨some 9, _, _, _, _, _⟩) rfl (fun K hK => ?_) (AllReadyH.nil)
        · go_simp
          refine (HT2.out _).mono ?_
          rintro en v2 ⟨rfl, hbn⟩
          have hal' := hal.trans (hbn.mono hal.size)
          have hr' : Blk v2 (w.heap.size + 1) #[.int .i64 0, .string ⟨#[]⟩, .string ⟨#[]⟩, .string ⟨#[]⟩, .int .i64 0, .string ⟨#[]⟩, .string ⟨#[]⟩, .string ⟨#[]⟩, .int .i64 0, .string ⟨#[]⟩, .string ⟨#[]⟩, .string ⟨#[]⟩] 33 := (hbn.block _ hr.lt).trans hr
          have hg' : Blk v2 v0.heap.size #[.int .i64 0, .string ⟨#[]⟩, .string ⟨#[]⟩, .string ⟨#[]⟩, .int .i64 0, .string ⟨#[]⟩, .string ⟨#[]⟩, .string ⟨#[]⟩, .int .i64 0, .string ⟨#[]⟩, .string ⟨#[]⟩, .string ⟨#[]⟩] 33 := (hbn.block _ hg.lt).trans hg
          refine hK.out _ _ ((hbn.block _ hS.lt).trans hS) (fun hS => ?_)
          clear hK K
          try simp only [Act.put, List.setIfInBounds_toArray, List.set_cons_zero, List.set_cons_succ]
          clear hal hr hg hbn
          have hal := hal'
          have hr := hr'
          have hg := hg'
          clear hal' hr' hg'
          refine wpAnyH_ready (rs := [8]) (by kernel_rfl) (by simp) ?_
          refine AllReadyH.cons (o := ⟨some 12, _, _, _, _, _⟩) rfl (fun K hK => ?_) (AllReadyH.nil)
          · go_simp
            refine (HT3.out _).mono ?_
            rintro en v3 ⟨rfl, hbn⟩
            have hal' := hal.trans (hbn.mono hal.size)
            have hr' : Blk v3 (w.heap.size + 1) #[.int .i64 0, .string ⟨#[]⟩, .string ⟨#[]⟩, .string ⟨#[]⟩, .int .i64 0, .string ⟨#[]⟩, .string ⟨#[]⟩, .string ⟨#[]⟩, .int .i64 0, .string ⟨#[]⟩, .string ⟨#[]⟩, .string ⟨#[]⟩] 33 := (hbn.block _ hr.lt).trans hr
            have hg' : Blk v3 v0.heap.size #[.int .i64 0, .string ⟨#[]⟩, .string ⟨#[]⟩, .string ⟨#[]⟩, .int .i64 0, .string ⟨#[]⟩, .string ⟨#[]⟩, .string ⟨#[]⟩, .int .i64 0, .string ⟨#[]⟩, .string ⟨#[]⟩, .string ⟨#[]⟩] 33 := (hbn.block _ hg.lt).trans hg
            refine hK.out _ _ ((hbn.block _ hS.lt).trans hS) (fun hS => ?_)
            clear hK K
            try simp only [Act.put, List.setIfInBounds_toArray, List.set_cons_zero, List.set_cons_succ]
            clear hal hr hg hbn
            have hal := hal'
            have hr := hr'
            have hg := hg'
            clear hal' hr' hg'
            refine wpAnyH_take (i := 9) (oi := ⟨some 13, _, _, _, _, _⟩) (v := ?_) rfl (by kernel_rfl) (by kernel_rfl) (by kernel_rfl) (fun _ _ _ h => h) (Or.inl ⟨by simp only [Region.wanted], ?_⟩) hS ?_
            rotate_left
            · intro wz hSw
              clear hSw
              go_simp
              first | done | with_reducible rfl
            try simp only [Act.put, List.setIfInBounds_toArray, List.set_cons_zero, List.set_cons_succ]
            have c0 := hg.cell 0; have e0 := hg.frozen 0; have c1 := hg.cell 1; have e1 := hg.frozen 1; have c2 := hg.cell 2; have e2 := hg.frozen 2; have c3 := hg.cell 3; have e3 := hg.frozen 3; have c4 := hg.cell 4; have e4 := hg.frozen 4; have c5 := hg.cell 5; have e5 := hg.frozen 5; have c6 := hg.cell 6; have e6 := hg.frozen 6; have c7 := hg.cell 7; have e7 := hg.frozen 7; have c8 := hg.cell 8; have e8 := hg.frozen 8; have c9 := hg.cell 9; have e9 := hg.frozen 9; have c10 := hg.cell 10; have e10 := hg.frozen 10; have c11 := hg.cell 11; have e11 := hg.frozen 11
            simp only [List.getElem?_toArray, List.getElem?_cons_zero, List.getElem?_cons_succ] at c0 c1 c2 c3 c4 c5 c6 c7 c8 c9 c10 c11
            refine wpAnyH_ready (rs := [11]) (by kernel_rfl) (by simp) ?_
            refine AllReadyH.cons (o := ⟨none, _, _, _, _, _⟩) rfl (fun K hK => ?_) AllReadyH.nil
            go_simp
            have htw := twelve _ _ _ _ _ _ _ _ _ _ _ _ _ _ _ (.int .i64 m1k) (.string m1s) (.string m1l) (.string m1t) (.int .i64 m2k) (.string m2s) (.string m2l) (.string m2t) (.int .i64 m3k) (.string m3s) (.string m3l) (.string m3t) hg
            refine hK.out _ _ (hS.moved htw.2 (fun e => by omega)) (fun hS => ?_)
            clear hK K
            try simp only [Act.put, List.setIfInBounds_toArray, List.set_cons_zero, List.set_cons_succ]
            have hal9 := (⟨htw.2.os.trans hal.os, htw.2.tape.trans hal.tape, htw.2.output.trans hal.output, Nat.le_trans hal.size htw.2.size, fun j hj => (htw.2.block j (Nat.lt_of_lt_of_le hj hal.size) (by omega)).trans (hal.block j hj)⟩ : Below w.heap.size w _)
            have hr9 := hr.moved htw.2 (fun e => by omega)
            have hg9 := htw.1
            clear htw hal hr hg c0 e0 c1 e1 c2 e2 c3 e3 c4 e4 c5 e5 c6 e6 c7 e7 c8 e8 c9 e9 c10 e10 c11 e11
            generalize World.setCell (World.setCell (World.setCell (World.setCell (World.setCell (World.setCell (World.setCell (World.setCell (World.setCell (World.setCell (World.setCell (World.setCell _ _ _) _ _) _ _) _ _) _ _) _ _) _ _) _ _) _ _) _ _) _ _) _ _ = v9 at hal9 hr9 hg9 hS ⊢
            refine wpAnyH_done (by kernel_rfl) ?_ _

            go_wp2_with fail
            go_meet
            exact ⟨_, rfl, hlt, hg9, hS, hr9, hal9⟩
end Go.Proofs.YtbkokckpjmbjhaaDoor
