/- Rows of triples of the call's own. -/
import Derived.Test.YtefkppeicmipbaaGreatDoorGc
import Derived.Test.YtefkppeicmipbaaGreatDoorTv
import Derived.Deep.AppendLies
namespace Go.Proofs.YtefkppeicmipbaaGreatDoor
open Go.RowKit
set_option maxRecDepth 100000
set_option linter.unusedVariables false
abbrev Tri3 := Tm × Tm × Tm
def rcells1 (x : Tri3) : List Value := [.int .i64 x.1.k, .string x.1.s, .string x.1.l, .string x.1.t, .int .i64 x.2.1.k, .string x.2.1.s, .string x.2.1.l, .string x.2.1.t, .int .i64 x.2.2.k, .string x.2.2.s, .string x.2.2.l, .string x.2.2.t]
def rcells (l : List Tri3) : List Value := l.flatMap rcells1
theorem rcells_append (a b : List Tri3) : rcells (a ++ b) = rcells a ++ rcells b := by unfold rcells; rw [List.flatMap_append]
theorem Tryz.infoTr : (Tryz.prog.info? 35).map (fun i => (i.zero, i.size, i.bytes)) = some (some (.agg #[.int .i64 0, .string ⟨#[]⟩, .string ⟨#[]⟩, .string ⟨#[]⟩, .int .i64 0, .string ⟨#[]⟩, .string ⟨#[]⟩, .string ⟨#[]⟩, .int .i64 0, .string ⟨#[]⟩, .string ⟨#[]⟩, .string ⟨#[]⟩]), 12, 168) := by kernel_rfl
def OwR (w : World) (base : Nat) (v : Value) (l : List Tri3) : Prop := w.ownsRow base 35 12 v l.length (rcells l)
theorem OwR.nil (w : World) (base : Nat) : OwR w base (.slice none 0 0) [] := World.ownsRow_nil _ _ _ _
theorem OwR.lt {w : World} {base : Nat} {v : Value} {l : List Tri3} (h : OwR w base v l) : ∀ q, v.ownBlock = some q → base ≤ q ∧ q < w.heap.size := World.ownsRow.lt h
theorem OwR.form {w : World} {base : Nat} {v : Value} {l : List Tri3} (h : OwR w base v l) : ∃ ao cap, v = .slice ao l.length cap ∧ l.length ≤ cap ∧ cap ≤ 9223372036854775807 := owns_form h
theorem OwR.moved {P : Nat → Prop} {w w' : World} {base : Nat} {v : Value} {l : List Tri3} (h : OwR w base v l) (hm : Moved P w w') (hP : ∀ q, v.ownBlock = some q → ¬ P q) : OwR w' base v l := owns_moved h hm hP
theorem OwR.mono {w : World} {base base' : Nat} {v : Value} {l : List Tri3} (h : OwR w base v l) (hb : base' ≤ base) : OwR w base' v l := by
  obtain ⟨h0, h1⟩ := h
  refine ⟨h0, ?_⟩
  rcases h1 with h1 | ⟨g, cap, cur, rfl, hg, k⟩
  · exact .inl h1
  · exact .inr ⟨g, cap, cur, rfl, Nat.le_trans hb hg, k⟩
theorem OwR.below {w w' : World} {base : Nat} {v : Value} {l : List Tri3} (h : OwR w base v l) (hb : Below w.heap.size w w') : OwR w' base v l := h.moved (Moved.of_below hb (fun _ => False)) (fun _ _ h => h)
theorem wpList_append_tr {w : World} {ops : Array Oper} {rest : List Oper} {o : Oper} {a : Act} {Q : Exit → Act → World → Prop} (hgd : o.guard = none) (s x : Operand)
    (ho : o.op = .call { callee := .builtin .append, args := #[s, x], argTypes := #[26, 26] }) (base : Nat) (hbase : base ≤ w.heap.size)
    (v : Value) (l : List Tri3) (hs : a.eval s = v) (hown : OwR w base v l) (g0 : Nat) (hx : a.eval x = .slice (some ⟨g0, 0, none⟩) 1 1) (e : Tri3) (hg : Blk w g0 (rcells1 e).toArray 35) (n : Nat) (hn : n = l.length + 1) (hl : n ≤ 1000000)
    (h : ∀ ao cap w', OwR w' base (.slice ao n cap) (l ++ [e]) → n ≤ cap → cap ≤ 9223372036854775807 → w.grownBy w' v.ownBlock → (∀ q, (Value.slice ao n cap).ownBlock = some q → v.ownBlock = some q ∨ w.heap.size ≤ q) → wpList Tryz.prog ops Q rest (a.put o.dst (.slice ao n cap)) w') :
    wpList Tryz.prog ops Q (o :: rest) a w := by
  obtain ⟨i0, hi, hz0, hz1, hz2⟩ := info_parts Tryz.infoTr
  refine wpList_append_lies w hgd s x _ ho base 35 i0 _ 12 168 Tryz.underlying26 hi hz0 hz1 hz2 rfl (by decide) v l.length (rcells l) hs hown ⟨g0, 0, none⟩ 1 1 (rcells1 e) hx rfl ?_ ?_ (by decide) (by simp [maxLen]; omega) (by omega) hbase _ rfl ?_
  · intro j u hj
    rw [show (⟨g0, 0, none⟩ : Addr).add j = ⟨g0, j, none⟩ from by unfold Addr.add; split <;> simp_all, hg.cell]
    simpa using hj
  · intro u hu
    simp [rcells1] at hu
    rcases hu with rfl | rfl | rfl | rfl | rfl | rfl | rfl | rfl | rfl | rfl | rfl | rfl <;> rfl
  · intro g cap w' k1 k2 k3 k4
    subst hn
    obtain ⟨aox, capx, ex, hx1, hx2⟩ := owns_form k1
    simp only [Value.slice.injEq] at ex
    obtain ⟨-, -, rfl⟩ := ex
    refine h _ _ w' ?_ hx1 hx2 k2 (fun q hq => ?_)
    · unfold OwR
      rw [rcells_append, List.length_append]
      simpa [rcells] using k1
    · have : g = q := Option.some.inj hq
      subst this
      rcases k3 with k3 | k3
      · exact .inl k3
      · exact .inr (by omega)
end Go.Proofs.YtefkppeicmipbaaGreatDoor
