/- Package value's laws: the maker: next. -/
import Derived.Test.YtecomfhbdonkbaaGreatDoorCf
namespace Go.Proofs.YtecomfhbdonkbaaGreatDoor
open Go.RowKit Go.Shelf Flo
set_option maxRecDepth 100000
set_option linter.unusedVariables false
set_option linter.unusedSimpArgs false

theorem Moved.drewN {P : Nat → Prop} {a b : World} (h : Moved P a b) : ∀ n, Moved P a (b.drewN n)
  | 0 => h
  | n + 1 => (Moved.drewN h n).drew
/-- A maker at m: the numbers that it takes lie ahead of it. -/
structure MkI (m : Nat) (nsv : Value) (l : List Int) (w : World) : Prop where
  blk : ∃ p : Nat, p ≤ l.length ∧ Blk w m #[nsv, .int .i64 (p : Int)] 61
  form : ∃ ao cap, nsv = .slice ao l.length cap
  row : ∀ j (h : j < l.length), ∃ b o cap, nsv = .slice (some ⟨b, o, none⟩) l.length cap ∧ b < m ∧ w.cell? ⟨b, o + j, none⟩ = some (.int .i64 l[j])
  rng : ∀ x ∈ l, In64 x
  len : l.length ≤ maxLen
theorem MkI.lt {m : Nat} {nsv : Value} {l : List Int} {w : World} (h : MkI m nsv l w) : m < w.heap.size := by
  obtain ⟨p, -, hb⟩ := h.blk
  exact hb.lt
theorem MkI.moved {m : Nat} {nsv : Value} {l : List Int} {w w' : World} (h : MkI m nsv l w) (hm : Moved (fun k => k = m) w w') {p : Nat} (hp : p ≤ l.length) (hb : Blk w' m #[nsv, .int .i64 (p : Int)] 61) : MkI m nsv l w' :=
  ⟨⟨p, hp, hb⟩, h.form, fun j hj => by
    obtain ⟨b, o, cap, h1, h2, h3⟩ := h.row j hj
    refine ⟨b, o, cap, h1, h2, ?_⟩
    rw [← h3]
    exact World.cell?_of_block (a := ⟨b, o + j, none⟩) (hm.block b (Nat.lt_trans h2 h.lt) (fun e => by subst e; exact Nat.lt_irrefl _ h2)), h.rng, h.len⟩
theorem MkI.below {m : Nat} {nsv : Value} {l : List Int} {w w' : World} (h : MkI m nsv l w) (hb : Below w.heap.size w w') : MkI m nsv l w' := by
  obtain ⟨p, hp, hk⟩ := h.blk
  exact h.moved (Moved.of_below hb _) hp (hk.moved (Moved.of_below hb (fun _ => False)) (fun h => h))
set_option maxHeartbeats 2000000 in
theorem mnext_any (m : Nat) (nsv : Value) (l : List Int) (w : World) (h : MkI m nsv l w) : Calls Tryz.prog 42 #[.pointer (some ⟨m, 0, none⟩)] w fun e w' => ∃ n, e = .returned (.int .i64 n) ∧ In64 n ∧ MkI m nsv l w' ∧ Moved (fun k => k = m) w w' := by
  have HM := Lib.hid h
  have hmx := h.len
  obtain ⟨p, hp, hb⟩ := h.blk
  obtain ⟨ao, cap, rfl⟩ := h.form
  have c0 : w.cell? ⟨m, 0, none⟩ = some (.slice ao l.length cap) := hb.cell 0
  have c1 : w.cell? ⟨m, 1, none⟩ = some (.int .i64 (p : Int)) := hb.cell 1
  have f1 := hb.frozen 1
  have HB := Lib.hid hb
  unfold maxLen at hmx
  by_cases hlt : p < l.length
  · obtain ⟨b, o, cap', e, hbm, hcell⟩ := h.row p hlt
    simp only [Value.slice.injEq, true_and] at e
    obtain ⟨rfl, rfl⟩ := e
    have HIN := Lib.hid (h.rng _ (List.getElem_mem hlt))
    obtain ⟨n, hn⟩ : ∃ n, n = l[p] := ⟨_, rfl⟩
    rw [← hn] at hcell HIN
    have hd : decide (l.length ≤ p) = false := decide_eq_false (by omega)
    have hw1 : wrap64 ((p : Int) + 1) = (p : Int) + 1 := by unfold wrap64; omega
    have hw3 : IntKind.i64.wrap (p : Int) = (p : Int) := by rw [IntKind.wrap_i64]; omega
    have HPL := Lib.hid hlt
    have hbn : ¬ b = m := by omega
    have HC := Lib.hid hcell
    have HBM := Lib.hid hbn
    have HMX := Lib.hid hmx
    clear h hb hn hcell hbm hmx hp hlt
    go_enter Tryz.func42, Tryz.ntmps42
    go_wp2_with fail
    go_quiet (fail)
    go_upto_region 4 with fail
    have hmv : Moved (fun k => k = m) w ((w.drewN nq).setCell ⟨m, 1, none⟩ (.int .i64 ((p : Int) + 1))) := ((Moved.refl (fun k => k = m) w).drewN nq).setCell _ _ (.inl rfl)
    have hb2 : Blk ((w.drewN nq).setCell ⟨m, 1, none⟩ (.int .i64 ((p : Int) + 1))) m #[.slice (some ⟨b, o, none⟩) l.length cap, .int .i64 ((p : Int) + 1)] 61 := (show Blk (w.drewN nq) m _ _ from HB.out).set 1 _
    have hc2 : ((w.drewN nq).setCell ⟨m, 1, none⟩ (.int .i64 ((p : Int) + 1))).cell? ⟨b, o + p, none⟩ = some (.int .i64 n) := (World.cell?_setCell_other _ _ _ _ (by simp [Ne.symm HBM.out])).trans HC.out
    generalize World.setCell _ _ _ = w2 at hmv hb2 hc2 ⊢
    have d0 : w2.cell? ⟨m, 0, none⟩ = some (.slice (some ⟨b, o, none⟩) l.length cap) := hb2.cell 0
    have d1 : w2.cell? ⟨m, 1, none⟩ = some (.int .i64 ((p : Int) + 1)) := hb2.cell 1
    have HMV := Lib.hid hmv
    have HB2 := Lib.hid hb2
    have hpl : (p : Int) < (l.length : Int) := by have := HPL.out; omega
    clear c0 c1 f1 hmv hb2
    go_quiet (fail)
    go_wp2_with fail
    go_ret
    refine ⟨n, rfl, HIN.out, HM.out.moved (p := p + 1) (HMV.out.drewN _) HPL.out (by rw [Int.natCast_add, Int.natCast_one]; exact HB2.out), HMV.out.drewN _⟩
  · have hd : decide (l.length ≤ p) = true := decide_eq_true (by omega)
    have HP := Lib.hid hp
    clear h hb hmx hp hlt
    go_enter Tryz.func42, Tryz.ntmps42
    go_wp2_with fail
    go_quiet (fail)
    go_wp2_with fail
    go_ret
    exact ⟨0, rfl, by unfold In64; decide, HM.out.moved (p := p) ((Moved.refl (fun k => k = m) w).drewN nq) HP.out HB.out, (Moved.refl (fun k => k = m) w).drewN nq⟩
end Go.Proofs.YtecomfhbdonkbaaGreatDoor
