/- copy over rows of triples of the call's own; a place made in a row. -/
import Derived.Test.YtbkokckpjmbjhaaDoorNj
import Derived.Laws.CopyOwn
import Derived.Laws.CopyRow
namespace Go.Proofs.YtbkokckpjmbjhaaDoor
open Go.RowKit Go.Shelf
set_option maxRecDepth 100000
set_option linter.unusedVariables false
theorem run_copy_wide {P : Program} (w : World) (dT sT ty elem : TypeId) (dp sp : Option Addr) (dLen dCap sLen sCap sz n : Nat) (hu : P.underlying dT = some (.slice elem)) (hsz : (P.info? elem).map (·.size) = some sz)
    (hn : n = Nat.min sLen dLen) (g off : Nat) (cur : Array Value) (t : TypeId) (hg : w.heap[g]? = some (.cells cur t (0, 0))) (cs : List Value) (hlen : cs.length = n * sz)
    (hpos : 0 < n → dp = some ⟨g, off, none⟩ ∧ ∃ ad, sp = some ad ∧ ∀ j v, cs[j]? = some v → w.cell? (ad.add j) = some v) (hfit : off + cs.length ≤ cur.size) (h1 : ∀ v ∈ cs, v.oneCell' = true) :
    (Builtin.copy_ #[dT, sT] ty #[.slice dp dLen dCap, .slice sp sLen sCap]).run P w = .ok (goInt n) (w.setRow g (cur.toList.take off ++ cs ++ cur.toList.drop (off + cs.length)).toArray) := by
  cases hq : P.info? elem with
  | none => simp [hq] at hsz
  | some i =>
    have hi : i.size = sz := by simpa [hq] using hsz
    by_cases h0 : n = 0
    · subst h0
      obtain rfl : cs = [] := List.eq_nil_of_length_eq_zero (by rw [hlen, Nat.zero_mul])
      have hself : w.setRow g (cur.toList.take off ++ [] ++ cur.toList.drop (off + ([] : List Value).length)).toArray = w := by
        rw [List.append_nil, List.length_nil, Nat.add_zero, List.take_append_drop, Array.toArray_toList, setRow_self w g cur t (0, 0) hg]
      rw [hself]
      have hf : (Builtin.firstCells sz 0 (.slice sp sLen sCap)).run P w = .ok #[] w := by
        cases sp with
        | none => exact run_firstCells_none _ _ _ _ _
        | some ad => exact run_firstCells_some _ _ _ _ _ _ [] (by simp) (fun j v h => by simp at h)
      cases dp with
      | none => simp [Builtin.copy_, run_underlying hu, Builtin.lenOf, sizeOf, typeInfo, hq, hi, ← hn, hf]
      | some a => simp [Builtin.copy_, run_underlying hu, Builtin.lenOf, sizeOf, typeInfo, hq, hi, ← hn, hf, storeCells]
    · obtain ⟨rfl, ad, rfl, hsrc⟩ := hpos (by omega)
      have hf := run_firstCells_some (P := P) w sz n ad sLen sCap cs hlen hsrc
      have hst := run_storeCells_at P g off t cs 0 cur w hg (by simpa using hfit) h1
      simp [Builtin.copy_, run_underlying hu, Builtin.lenOf, sizeOf, typeInfo, hq, hi, ← hn, hf, hst]
theorem step_copy_wide {P : Program} {ops : Array Oper} {o : Oper} {a : Act} {w : World} {K : Act → World → Prop} {Q : Exit → Act → World → Prop} {E : Prop} (hgd : o.guard = none) (d s : Operand) (dT sT : TypeId)
    (ho : o.op = .call { callee := .builtin .copy, args := #[d, s], argTypes := #[dT, sT] }) (elem : TypeId) (sz : Nat) (hu : P.underlying dT = some (.slice elem)) (hsz : (P.info? elem).map (·.size) = some sz)
    (dp sp : Option Addr) (dLen dCap sLen sCap n : Nat) (hd : a.eval d = .slice dp dLen dCap) (hs : a.eval s = .slice sp sLen sCap) (hn : n = Nat.min sLen dLen)
    (g off : Nat) (cur : Array Value) (t : TypeId) (hg : w.heap[g]? = some (.cells cur t (0, 0))) (cs : List Value) (hlen : cs.length = n * sz)
    (hpos : 0 < n → dp = some ⟨g, off, none⟩ ∧ ∃ ad, sp = some ad ∧ ∀ j v, cs[j]? = some v → w.cell? (ad.add j) = some v) (hfit : off + cs.length ≤ cur.size) (h1 : ∀ v ∈ cs, v.oneCell' = true)
    (h : K (a.put o.dst (goInt n)) (w.setRow g (cur.toList.take off ++ cs ++ cur.toList.drop (off + cs.length)).toArray)) :
    if Region.wanted o (yielded ops a.tmps) = true then Oper.wp P o a w K Q else E := by
  have hw : Region.wanted o (yielded ops a.tmps) = true := by simp [Region.wanted, hgd]
  rw [if_pos hw]
  have hrun := run_copy_wide w dT sT o.type elem dp sp dLen dCap sLen sCap sz n hu hsz hn g off cur t hg cs hlen hpos hfit h1
  unfold Oper.wp
  simp [execOp, ho, resolve, invoke, builtin, hd, hs, hrun, Result.andThen]
  rw [List.append_assoc] at h
  exact h
theorem rcells_len (l : List Tri3) : (rcells l).length = l.length * 12 := by
  induction l with
  | nil => rfl
  | cons x l ih =>
    show (rcells1 x ++ rcells l).length = _
    rw [List.length_append, ih, List.length_cons]
    show 12 + _ = _
    omega
theorem rcells_take : ∀ (l : List Tri3) (k : Nat), (rcells l).take (k * 12) = rcells (l.take k)
  | [], k => by rw [List.take_nil]; show List.take _ [] = []; rw [List.take_nil]
  | x :: l, 0 => by rw [Nat.zero_mul]; rfl
  | x :: l, k + 1 => by
    show (rcells1 x ++ rcells l).take ((k + 1) * 12) = rcells1 x ++ rcells (l.take k)
    rw [← rcells_take l k, List.take_append, List.take_of_length_le (by show 12 ≤ _; omega)]
    congr 2
    show (k + 1) * 12 - 12 = _
    omega
theorem rcells_drop : ∀ (l : List Tri3) (k : Nat), (rcells l).drop (k * 12) = rcells (l.drop k)
  | [], k => by rw [List.drop_nil]; show List.drop _ [] = []; rw [List.drop_nil]
  | x :: l, 0 => by rw [Nat.zero_mul]; rfl
  | x :: l, k + 1 => by
    show (rcells1 x ++ rcells l).drop ((k + 1) * 12) = rcells (l.drop k)
    rw [← rcells_drop l k, List.drop_append, List.drop_eq_nil_of_le (by show 12 ≤ _; omega), List.nil_append]
    congr 1
    show (k + 1) * 12 - 12 = _
    omega
theorem rcells_one (l : List Tri3) : ∀ v ∈ rcells l, v.oneCell' = true := by
  intro v hv
  obtain ⟨x, -, hx⟩ := List.mem_flatMap.1 hv
  simp [rcells1] at hx
  rcases hx with rfl | rfl | rfl | rfl | rfl | rfl | rfl | rfl | rfl | rfl | rfl | rfl <;> rfl
/-- A row that has one more, and what is from k on moved behind it. -/
theorem moved_cells (R : List Tri3) (z : Tri3) (k : Nat) (hk : k ≤ R.length) (cur : List Value) (hc : cur.take ((R.length + 1) * 12) = rcells (R ++ [z])) (hl : (R.length + 1) * 12 ≤ cur.length) :
    (cur.take ((k + 1) * 12) ++ rcells (R.drop k) ++ cur.drop ((k + 1) * 12 + (rcells (R.drop k)).length)).take ((R.length + 1) * 12) = rcells ((R ++ [z]).take (k + 1) ++ R.drop k) := by
  have h1 : cur.take ((k + 1) * 12) = rcells ((R ++ [z]).take (k + 1)) := by
    rw [← rcells_take, ← hc, List.take_take, Nat.min_eq_left (by omega)]
  have h2 : (cur.take ((k + 1) * 12) ++ rcells (R.drop k)).length = (R.length + 1) * 12 := by
    rw [List.length_append, rcells_len, List.length_drop, List.length_take]
    omega
  rw [List.take_append_of_le_length (by rw [h2]; exact Nat.le_refl _), List.take_of_length_le (by rw [h2]; exact Nat.le_refl _), h1, rcells_append]
theorem set12 (P Q : List Value) (y0 y1 y2 y3 y4 y5 y6 y7 y8 y9 y10 y11 x0 x1 x2 x3 x4 x5 x6 x7 x8 x9 x10 x11 : Value) :
    ((((((((((((P ++ y0 :: y1 :: y2 :: y3 :: y4 :: y5 :: y6 :: y7 :: y8 :: y9 :: y10 :: y11 :: Q).set P.length x0).set (P.length + 1) x1).set (P.length + 2) x2).set (P.length + 3) x3).set (P.length + 4) x4).set (P.length + 5) x5).set (P.length + 6) x6).set (P.length + 7) x7).set (P.length + 8) x8).set (P.length + 9) x9).set (P.length + 10) x10).set (P.length + 11) x11 = P ++ x0 :: x1 :: x2 :: x3 :: x4 :: x5 :: x6 :: x7 :: x8 :: x9 :: x10 :: x11 :: Q := by
  simp
/-- A triple that is laid at a place in a row of the call's own. -/
theorem OwR.laid {w : World} {base g cap : Nat} {A B : List Tri3} {y : Tri3} (n o : Nat) (hn : n = (A ++ y :: B).length) (ho : o = A.length * 12) (h : OwR w base (.slice (some ⟨g, 0, none⟩) n cap) (A ++ y :: B)) (x : Tri3) :
    OwR ((((((((((((w.setCell ⟨g, o, none⟩ (.int .i64 x.1.k)).setCell ⟨g, o + 1, none⟩ (.string x.1.s)).setCell ⟨g, o + 2, none⟩ (.string x.1.l)).setCell ⟨g, o + 3, none⟩ (.string x.1.t)).setCell ⟨g, o + 4, none⟩ (.int .i64 x.2.1.k)).setCell ⟨g, o + 5, none⟩ (.string x.2.1.s)).setCell ⟨g, o + 6, none⟩ (.string x.2.1.l)).setCell ⟨g, o + 7, none⟩ (.string x.2.1.t)).setCell ⟨g, o + 8, none⟩ (.int .i64 x.2.2.k)).setCell ⟨g, o + 9, none⟩ (.string x.2.2.s)).setCell ⟨g, o + 10, none⟩ (.string x.2.2.l)).setCell ⟨g, o + 11, none⟩ (.string x.2.2.t)) base (.slice (some ⟨g, 0, none⟩) n cap) (A ++ x :: B) := by
  subst hn
  subst ho
  unfold OwR at h ⊢
  have hl : (A ++ x :: B).length = (A ++ y :: B).length := by simp
  rw [hl]
  have hx : rcells (A ++ x :: B) = rcells A ++ .int .i64 x.1.k :: .string x.1.s :: .string x.1.l :: .string x.1.t :: .int .i64 x.2.1.k :: .string x.2.1.s :: .string x.2.1.l :: .string x.2.1.t :: .int .i64 x.2.2.k :: .string x.2.2.s :: .string x.2.2.l :: .string x.2.2.t :: rcells B := by rw [rcells_append]; rfl
  have hy : rcells (A ++ y :: B) = rcells A ++ .int .i64 y.1.k :: .string y.1.s :: .string y.1.l :: .string y.1.t :: .int .i64 y.2.1.k :: .string y.2.1.s :: .string y.2.1.l :: .string y.2.1.t :: .int .i64 y.2.2.k :: .string y.2.2.s :: .string y.2.2.l :: .string y.2.2.t :: rcells B := by rw [rcells_append]; rfl
  rw [hy] at h
  rw [hx, ← set12 (rcells A) (rcells B) (.int .i64 y.1.k) (.string y.1.s) (.string y.1.l) (.string y.1.t) (.int .i64 y.2.1.k) (.string y.2.1.s) (.string y.2.1.l) (.string y.2.1.t) (.int .i64 y.2.2.k) (.string y.2.2.s) (.string y.2.2.l) (.string y.2.2.t), rcells_len]
  exact ((((((((((((h.stored _ _).1.stored _ _).1.stored _ _).1.stored _ _).1.stored _ _).1.stored _ _).1.stored _ _).1.stored _ _).1.stored _ _).1.stored _ _).1.stored _ _).1.stored _ _).1
/-- A row of the call's own whose cells were set anew. -/
theorem OwR.reset {w : World} {base g cap : Nat} {l l' : List Tri3} (h : OwR w base (.slice (some ⟨g, 0, none⟩) l.length cap) l) (hl : l'.length = l.length) (cur new : Array Value) (hg : w.heap[g]? = some (.cells cur 33 (0, 0))) (hs : new.size = cur.size) (hn : new.toList.take (l.length * 12) = rcells l') :
    OwR (w.setRow g new) base (.slice (some ⟨g, 0, none⟩) l.length cap) l' := by
  unfold OwR at h ⊢
  rw [hl]
  obtain ⟨h0, h1⟩ := h
  refine ⟨by rw [rcells_len, hl], ?_⟩
  rcases h1 with ⟨h2, -⟩ | ⟨g', cap', cur', h2, hb, hh, h3, h4, h5, h6⟩
  · simp at h2
  · simp only [Value.slice.injEq, Option.some.injEq, Addr.mk.injEq, and_true, true_and] at h2
    obtain ⟨rfl, rfl⟩ := h2
    rw [hg] at hh
    obtain rfl : cur = cur' := by simpa using hh
    exact .inr ⟨g, cap, new, rfl, hb, setRow_heap w g cur new _ _ hg, h3, h4, by rw [hs, h5], hn⟩
end Go.Proofs.YtbkokckpjmbjhaaDoor
