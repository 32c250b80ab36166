/- append onto a slice that goes on being used: what it held it holds still (of stage 1's XSpare). -/
import Derived.Test.YtkhdahipnfloeaaCut
namespace Go.Proofs.Ytkhdahipnfloeaa
open Go.RowKit
set_option maxRecDepth 100000

/-- What append leaves: it went into the slice's own spare room, or into a new row, or nothing was appended. -/
def Appended (w w' : World) (base : Nat) (v v' : Value) (l m : List UInt8) : Prop :=
  Own w' base v' (l ++ m) ∧
  ((∃ g cap, v = .slice (some ⟨g, 0, none⟩) l.length cap ∧ v' = .slice (some ⟨g, 0, none⟩) (l ++ m).length cap ∧ w.grownBy w' (some g)) ∨
   (w.grownBy w' none ∧ ∀ q, v'.ownBlock = some q → w.heap.size ≤ q) ∨ (v' = v ∧ w' = w ∧ m = []))
theorem ok_inj {v v' : Value} {w w' : World} {x : Result Value} (h : x = .ok v w) (h' : x = .ok v' w') : v' = v ∧ w' = w := by
  rw [h] at h'
  simp only [Result.ok.injEq] at h'
  exact ⟨h'.1.symm, h'.2.symm⟩
theorem run_append_kept (w : World) (base : Nat) (ty : TypeId) (v : Value) (l : List UInt8) (hown : Own w base v l) (y : Value) (m : List UInt8) (hbs : Bs w y m)
    (hl : l.length + m.length ≤ 140737488355328) (hbase : base ≤ w.heap.size) :
    ∃ v' w', (Builtin.append_ #[41, 41] ty #[v, y]).run Try.prog w = .ok v' w' ∧ Appended w w' base v v' l m := by
  obtain ⟨i0, hi, hz0, hz1, hz2⟩ := info_parts Try.infoU8
  obtain ⟨ao, cap, rfl, h1, h2, h3, h4⟩ := hbs
  cases ao with
  | none =>
    have h0 := h3 rfl
    obtain rfl : m = [] := List.eq_nil_of_length_eq_zero (by omega)
    subst h0
    exact ⟨v, w, run_append_owned_none (P := Try.prog) (w := w) base 41 ty 5 i0 1 Try.underlying41 hi v _ _ hown, by simpa using hown, .inr (.inr ⟨rfl, rfl, rfl⟩)⟩
  | some ad =>
    have hm63 : l.length + m.length ≤ maxLen := by simp [maxLen]; omega
    obtain ⟨v', w', hr, ho, hg, -⟩ := run_append_own (P := Try.prog) w base 41 ty 5 i0 (.int .u8 0) 1 1 Try.underlying41 hi hz0 hz1 hz2 rfl (by decide) v _ _ hown ad m.length cap (vbs m) (by simp [vbs]) (h4 ad rfl) (vbs_oneCell m) hm63 (by omega) hbase
    refine ⟨v', w', hr, Own.of ho (by simp) (by rw [vbs_append]), ?_⟩
    rcases hown.2 with ⟨rfl, hn⟩ | ⟨g, c, cur, rfl, hb, hh, k1, k2, k3, k4⟩
    · obtain rfl : l = [] := List.eq_nil_of_length_eq_zero hn
      obtain ⟨v2, w2, hr2, ho2, -, -⟩ := run_append_own (P := Try.prog) w w.heap.size 41 ty 5 i0 (.int .u8 0) 1 1 Try.underlying41 hi hz0 hz1 hz2 rfl (by decide) (.slice none 0 0) 0 [] (World.ownsRow_nil _ _ _ _) ad m.length cap (vbs m) (by simp [vbs]) (h4 ad rfl) (vbs_oneCell m) (by omega) (by omega) (Nat.le_refl _)
      obtain ⟨rfl, rfl⟩ := ok_inj hr hr2
      exact .inr (.inl ⟨hg, fun q hq => (ho2.lt q hq).1⟩)
    · by_cases hroom : l.length + m.length ≤ c
      · have hr2 := run_append_room (P := Try.prog) w 41 ty 5 i0 Try.underlying41 hi g l.length c cur hh ad m.length cap (vbs m) (by rw [hz1]; simp [vbs]) (h4 ad rfl) (vbs_oneCell m) hroom (by rw [hz1, vbs_length]; omega)
        obtain ⟨e1, -⟩ := ok_inj hr2 hr
        exact .inl ⟨g, c, rfl, by rw [e1]; simp, hg⟩
      · have hr2 := run_append_grow (P := Try.prog) w 41 ty 5 i0 (.int .u8 0) Try.underlying41 hi hz0 ⟨g, 0, none⟩ l.length c (vbs l) (by rw [hz1]; simp [vbs]) (hown.out.cells rfl) ad m.length cap (vbs m) (by rw [hz1]; simp [vbs]) (h4 ad rfl) (by omega) (by simp only [maxLen] at hm63; omega) (by rw [hz2]; exact growslice_fits (by omega) (by omega))
        obtain ⟨e1, e2⟩ := ok_inj hr2 hr
        refine .inr (.inl ⟨?_, ?_⟩)
        · rw [e2]
          exact ⟨rfl, rfl, rfl, by simp, fun k hk _ => heap_alloc_old w.drew _ hk⟩
        · intro q hq
          rw [e1] at hq
          simp [Value.ownBlock] at hq
          omega
theorem wpList_append_kept {w : World} {ops : Array Oper} {rest : List Oper} {o : Oper} {a : Act} {Q : Exit → Act → World → Prop} (hgd : o.guard = none) (s x : Operand)
    (ho : o.op = .call { callee := .builtin .append, args := #[s, x], argTypes := #[41, 41] })
    (base : Nat) (v : Value) (l : List UInt8) (hs : a.eval s = v) (hown : Own w base v l) (y : Value) (m : List UInt8) (hx : a.eval x = y) (hbs : Bs w y m)
    (hl : l.length + m.length ≤ 140737488355328) (hbase : base ≤ w.heap.size)
    (h : ∀ v' w', Appended w w' base v v' l m → wpList Try.prog ops Q rest (a.put o.dst v') w') : wpList Try.prog ops Q (o :: rest) a w := by
  refine wpList_plain hgd fun K hK => ?_
  obtain ⟨v', w', hr, h2⟩ := run_append_kept w base o.type v l hown y m hbs hl hbase
  unfold Oper.wp execOp
  simp only [ho, resolve, invoke, builtin, Sem.run_bind, Sem.run_pure, Result.andThen_ok, List.map_toArray, List.map_cons, List.map_nil, hs, hx, hr]
  exact hK _ _ (h v' w' h2)
/-- v, that held l when it began (world w), holds it still in wr, and b holds L. -/
structure Spare (w wr : World) (base : Nat) (v : Value) (l : List UInt8) (b : Value) (L : List UInt8) : Prop where
  own : Own wr base b L
  old : Own wr base v l
  grown : w.grownBy wr v.ownBlock
  rel : (∃ g cap, v = .slice (some ⟨g, 0, none⟩) l.length cap ∧ b = .slice (some ⟨g, 0, none⟩) L.length cap) ∨ ∀ q, b.ownBlock = some q → w.heap.size ≤ q
theorem Own.front {w : World} {base g cap : Nat} {l T : List UInt8} (h : Own w base (.slice (some ⟨g, 0, none⟩) (l ++ T).length cap) (l ++ T)) : Own w base (.slice (some ⟨g, 0, none⟩) l.length cap) l := by
  refine ⟨by simp [vbs], .inr ?_⟩
  rcases h.2 with ⟨h', _⟩ | ⟨g', cap', cur, h', hb, hh, k1, k2, k3, k4⟩
  · simp at h'
  · simp only [Value.slice.injEq, Option.some.injEq, Addr.mk.injEq, and_true, true_and] at h'
    obtain ⟨rfl, rfl⟩ := h'
    rw [List.length_append] at k1
    refine ⟨g, cap, cur, rfl, hb, hh, by omega, k2, k3, ?_⟩
    rw [Nat.mul_one] at k4 ⊢
    have := congrArg (List.take l.length) k4
    rw [List.take_take, Nat.min_eq_left (by simp), vbs_append, ← vbs_length l, List.take_left] at this
    rw [← vbs_length l]
    exact this
theorem Spare.start {w : World} {base : Nat} {v : Value} {l : List UInt8} (h : Own w base v l) : Spare w w base v l v l := by
  refine ⟨h, h, World.grownBy.refl _ _, ?_⟩
  rcases h.2 with ⟨rfl, hn⟩ | ⟨g, c, cur, rfl, -⟩
  · exact .inr (by simp [Value.ownBlock])
  · exact .inl ⟨g, c, rfl, rfl⟩
theorem Spare.below {w wr w' : World} {base : Nat} {v b : Value} {l L : List UInt8} (h : Spare w wr base v l b L) (hb : Below wr.heap.size wr w') : Spare w w' base v l b L := by
  refine ⟨h.own.below hb, h.old.below hb, ?_, h.rel⟩
  exact ⟨hb.os.trans h.grown.os, hb.tape.trans h.grown.tape, hb.output.trans h.grown.output, Nat.le_trans h.grown.size hb.size,
    fun k hk hne => (hb.block k (Nat.lt_of_lt_of_le hk h.grown.size)).trans (h.grown.block k hk hne)⟩
theorem Spare.step {w wr w' : World} {base : Nat} {v b b' : Value} {l T m : List UInt8} (hv : Own w base v l) (h : Spare w wr base v l b (l ++ T)) (a : Appended wr w' base b b' (l ++ T) m) : Spare w w' base v l b' (l ++ (T ++ m)) := by
  have hlt := fun q (hq : v.ownBlock = some q) => (hv.out.lt q hq).2
  obtain ⟨hown, a⟩ := a
  rw [List.append_assoc] at hown
  have gtrans : ∀ row, wr.grownBy w' row → (row = v.ownBlock ∨ ∀ q, row = some q → w.heap.size ≤ q) → w.grownBy w' v.ownBlock := by
    intro row hg hrow
    refine ⟨hg.os.trans h.grown.os, hg.tape.trans h.grown.tape, hg.output.trans h.grown.output, Nat.le_trans h.grown.size hg.size, fun k hk hne => ?_⟩
    refine (hg.block k (Nat.lt_of_lt_of_le hk h.grown.size) ?_).trans (h.grown.block k hk hne)
    rcases hrow with rfl | hrow
    · exact hne
    · intro e
      have := hrow k e.symm
      omega
  rcases a with ⟨g, cap, rfl, rfl, hg⟩ | ⟨hg, hq⟩ | ⟨rfl, rfl, rfl⟩
  · rcases h.rel with ⟨g', cap', e1, e2⟩ | hrel
    · simp only [Value.slice.injEq, Option.some.injEq, Addr.mk.injEq, and_true, true_and] at e2
      obtain ⟨rfl, rfl⟩ := e2
      subst e1
      refine ⟨hown, ?_, gtrans _ hg (.inl rfl), .inl ⟨g, cap, rfl, by rw [List.append_assoc]⟩⟩
      rw [List.append_assoc] at hown
      exact hown.front
    · have hgw := hrel g rfl
      refine ⟨hown, World.ownsRow.kept h.old hg ?_, gtrans _ hg (.inr fun q e => by cases e; exact hgw), .inr fun q e => ?_⟩
      · right
        intro e
        have := hlt g e
        omega
      · simp [Value.ownBlock] at e
        omega
  · refine ⟨hown, h.old.below (grownBy_below hg), gtrans _ hg (.inr fun q e => by cases e), .inr fun q e => Nat.le_trans h.grown.size (hq q e)⟩
  · rw [List.append_nil]
    exact h
theorem shr_byte (x : Int) (k : Nat) (hk : k < 8) : IntKind.u64.wrap x / 2 ^ (8 * k) % 256 = x / 2 ^ (8 * k) % 256 := by
  rw [IntKind.wrap_u64]
  match k, hk with
  | 0, _ => simp only [Nat.reduceMul, Int.reducePow]; omega
  | 1, _ => simp only [Nat.reduceMul, Int.reducePow]; omega
  | 2, _ => simp only [Nat.reduceMul, Int.reducePow]; omega
  | 3, _ => simp only [Nat.reduceMul, Int.reducePow]; omega
  | 4, _ => simp only [Nat.reduceMul, Int.reducePow]; omega
  | 5, _ => simp only [Nat.reduceMul, Int.reducePow]; omega
  | 6, _ => simp only [Nat.reduceMul, Int.reducePow]; omega
  | 7, _ => simp only [Nat.reduceMul, Int.reducePow]; omega
end Go.Proofs.Ytkhdahipnfloeaa
