/- Package value's laws: Make. -/
import Derived.Test.YtecomfhbdonkbaaGreatDoorCk
namespace Go.Proofs.YtecomfhbdonkbaaGreatDoor
open Go.RowKit Go.Shelf Flo
set_option maxRecDepth 100000
set_option linter.unusedVariables false
set_option linter.unusedSimpArgs false

theorem mexpr_any (m : Nat) (nsv : Value) (ns : List Int) : ∀ (d : Nat), d ≤ 10 → ∀ w, MkI m nsv ns w → Calls Tryz.prog 26 #[.pointer (some ⟨m, 0, none⟩), .int .i64 (d : Int)] w fun e' w' => MadeP m nsv ns w d e' w'
  | 0, _, w, h => mexpr_zero m nsv ns w h
  | d + 1, hd, w, h => mexpr_succ m nsv ns d w h (by omega) (mexpr_any m nsv ns d (by omega))
/-- Numbers that came in. -/
structure IntIn (w : World) (nsv : Value) (l : List Int) : Prop where
  form : ∃ ao cap, nsv = .slice ao l.length cap
  row : ∀ j (h : j < l.length), ∃ b o cap, nsv = .slice (some ⟨b, o, none⟩) l.length cap ∧ b < w.heap.size ∧ w.cell? ⟨b, o + j, none⟩ = some (.int .i64 l[j])
  rng : ∀ x ∈ l, In64 x
  len : l.length ≤ maxLen
theorem IntIn.keep {w w' : World} {nsv : Value} {l : List Int} (h : IntIn w nsv l) (hb : Below w.heap.size w w') : IntIn w' nsv l :=
  ⟨h.form, fun j hj => by
    obtain ⟨b, o, cap, h1, h2, h3⟩ := h.row j hj
    exact ⟨b, o, cap, h1, Nat.lt_of_lt_of_le h2 hb.size, (hb.cell (p := ⟨b, o + j, none⟩) h2).trans h3⟩, h.rng, h.len⟩
theorem IntIn.of_nl {w : World} {v : Value} {l : List Int} (h : Nl w v l) (hr : ∀ x ∈ l, In64 x) : IntIn w v l := by
  obtain ⟨ao, cap, e, h1, h2, h3, h4⟩ := h
  refine ⟨⟨ao, cap, e⟩, fun j hj => ?_, hr, Nat.le_trans h1 h2⟩
  obtain ⟨b, off, cap', e', g1, g2, g3⟩ := Nl.at (w := w) (v := v) (l := l) ⟨ao, cap, e, h1, h2, h3, h4⟩ (by omega)
  exact ⟨b, off, cap', e', World.block_lt_of_cell? w _ (g3 j hj), g3 j hj⟩
set_option maxHeartbeats 4000000 in
theorem make_any (nsv : Value) (ns : List Int) (w : World) (h : IntIn w nsv ns) : Calls Tryz.prog 9 #[nsv] w fun e' w' => ∃ (x : Exp) (kv : Value), e' = .returned (.agg #[.int .i64 x.op, .int .i64 x.tm.k, .string x.tm.s, .string x.tm.l, .string x.tm.t, kv]) ∧ opIn x.op ∧ x.tm.Sm ∧ KidsP w'.heap.size w' 4 kv x.kids ∧ Below w.heap.size w w' := by
  obtain ⟨ao, cap, rfl⟩ := h.form
  have b1 := (Below.refl w.heap.size w).alloc (Nat.le_refl _) (.cells #[.int .i64 0, .int .i64 0, .string ⟨#[]⟩, .string ⟨#[]⟩, .string ⟨#[]⟩, .slice none 0 0] 28)
  have x1 := Blk.new w #[.int .i64 0, .int .i64 0, .string ⟨#[]⟩, .string ⟨#[]⟩, .string ⟨#[]⟩, .slice none 0 0] 28
  have z1 : (w.alloc (.cells #[.int .i64 0, .int .i64 0, .string ⟨#[]⟩, .string ⟨#[]⟩, .string ⟨#[]⟩, .slice none 0 0] 28)).heap.size = w.heap.size + 1 := by simp
  have HN : Hid (∃ W, W = (w.alloc (.cells #[.int .i64 0, .int .i64 0, .string ⟨#[]⟩, .string ⟨#[]⟩, .string ⟨#[]⟩, .slice none 0 0] 28)).alloc (.cells #[.slice ao ns.length cap, .int .i64 0] 61) ∧ Below w.heap.size w W ∧ Blk W w.heap.size #[.int .i64 0, .int .i64 0, .string ⟨#[]⟩, .string ⟨#[]⟩, .string ⟨#[]⟩, .slice none 0 0] 28 ∧ W.heap.size = w.heap.size + 2 ∧ MkI (w.heap.size + 1) (.slice ao ns.length cap) ns W) := Lib.hid (by
    refine ⟨_, rfl, ?_⟩
    generalize w.alloc (.cells #[.int .i64 0, .int .i64 0, .string ⟨#[]⟩, .string ⟨#[]⟩, .string ⟨#[]⟩, .slice none 0 0] 28) = w1 at b1 x1 z1 ⊢
    have b2 := (Below.refl w1.heap.size w1).alloc (Nat.le_refl _) (.cells #[.slice ao ns.length cap, .int .i64 0] 61)
    have x2 := Blk.new w1 #[.slice ao ns.length cap, .int .i64 0] 61
    have z2 : (w1.alloc (.cells #[.slice ao ns.length cap, .int .i64 0] 61)).heap.size = w1.heap.size + 1 := by simp
    generalize w1.alloc (.cells #[.slice ao ns.length cap, .int .i64 0] 61) = w2 at b2 x2 z2 ⊢
    rw [z1] at x2
    have b12 : Below w.heap.size w w2 := b1.trans (b2.mono (by omega))
    refine ⟨b12, blk_on x1 b2, by omega, ⟨0, Nat.zero_le _, x2⟩, ⟨ao, cap, rfl⟩, fun j hj => ?_, h.rng, h.len⟩
    obtain ⟨b, o, cap', h1, h2, h3⟩ := h.row j hj
    exact ⟨b, o, cap', h1, by omega, (b12.cell (p := ⟨b, o + j, none⟩) h2).trans h3⟩)
  obtain ⟨W, hW, hB, hA, hz, hmk⟩ := HN.out
  have HEX : Hid (Calls Tryz.prog 26 #[.pointer (some ⟨w.heap.size + 1, 0, none⟩), .int .i64 4] W fun e' w' => MadeP (w.heap.size + 1) (.slice ao ns.length cap) ns W 4 e' w') := Lib.hid (mexpr_any (w.heap.size + 1) (.slice ao ns.length cap) ns 4 (by decide) W hmk)
  have HB := Lib.hid hB
  have HA := Lib.hid hA
  have HZ := Lib.hid hz
  have HW := Lib.hid hW
  clear hB hA hz hmk HN b1 x1 z1 h hW
  go_enter Tryz.func9, Tryz.ntmps9
  go_upto_region 2 with fail
  rw [← HW.out]
  clear HW
  go_wp2_with fail
  refine HEX.out.mono ?_
  rintro e w2 ⟨x, kv, rfl, hop, hsm, hkk, hmk, hmv⟩
  obtain ⟨-, xo, xc, rfl⟩ := hkk.now.form
  have hA2 : Blk w2 w.heap.size #[.int .i64 0, .int .i64 0, .string ⟨#[]⟩, .string ⟨#[]⟩, .string ⟨#[]⟩, .slice none 0 0] 28 := (hmv.block w.heap.size (by have := HZ.out; omega) (by omega)).trans HA.out
  have z0 := hA2.cell 0
  have z1 := hA2.cell 1
  have z2 := hA2.cell 2
  have z3 := hA2.cell 3
  have z4 := hA2.cell 4
  have z5 := hA2.cell 5
  simp only [List.getElem?_toArray, List.getElem?_cons_zero, List.getElem?_cons_succ] at z0 z1 z2 z3 z4 z5
  have f0 := hA2.frozen 0
  have f1 := hA2.frozen 1
  have f2 := hA2.frozen 2
  have f3 := hA2.frozen 3
  have f4 := hA2.frozen 4
  have f5 := hA2.frozen 5
  have hb2 : Below w.heap.size w w2 := by
    have h1 := HB.out
    exact ⟨hmv.os.trans h1.os, hmv.tape.trans h1.tape, hmv.output.trans h1.output, Nat.le_trans h1.size hmv.size, fun j hj => (hmv.block j (by have := HZ.out; omega) (by omega)).trans (h1.block j hj)⟩
  have hb3 := (((((hb2.setCell (p := ⟨w.heap.size, 0, none⟩) (Nat.le_refl _) (.int .i64 x.op)).setCell (p := ⟨w.heap.size, 1, none⟩) (Nat.le_refl _) (.int .i64 x.tm.k)).setCell (p := ⟨w.heap.size, 2, none⟩) (Nat.le_refl _) (.string x.tm.s)).setCell (p := ⟨w.heap.size, 3, none⟩) (Nat.le_refl _) (.string x.tm.l)).setCell (p := ⟨w.heap.size, 4, none⟩) (Nat.le_refl _) (.string x.tm.t)).setCell (p := ⟨w.heap.size, 5, none⟩) (Nat.le_refl _) (.slice xo x.kids.length xc)
  have hm : Moved (fun k => k = w.heap.size) w2 _ := ((((((Moved.refl (fun k => k = w.heap.size) w2).setCell ⟨w.heap.size, 0, none⟩ (.int .i64 x.op) (.inl rfl)).setCell ⟨w.heap.size, 1, none⟩ (.int .i64 x.tm.k) (.inl rfl)).setCell ⟨w.heap.size, 2, none⟩ (.string x.tm.s) (.inl rfl)).setCell ⟨w.heap.size, 3, none⟩ (.string x.tm.l) (.inl rfl)).setCell ⟨w.heap.size, 4, none⟩ (.string x.tm.t) (.inl rfl)).setCell ⟨w.heap.size, 5, none⟩ (.slice xo x.kids.length xc) (.inl rfl)
  have hk3 := (hkk _ (fun k h1 h2 => hm.block k h2 (by have := HZ.out; omega))).mono hm.size
  have HF := Lib.hid (And.intro (And.intro hop hsm) (And.intro hk3 hb3))
  clear hA2 hb2 hb3 hm hk3 hop hsm hkk hmk hmv
  go_wp2_with fail
  exact bodyPost_ret (v := .agg #[.int .i64 x.op, .int .i64 x.tm.k, .string x.tm.s, .string x.tm.l, .string x.tm.t, .slice xo x.kids.length xc]) (by simp [results, Tryz.results9, go_sem, z0, z1, z2, z3, z4, z5]) rfl ⟨x, _, rfl, HF.out.1.1, HF.out.1.2, HF.out.2.1, HF.out.2.2⟩
end Go.Proofs.YtecomfhbdonkbaaGreatDoor
