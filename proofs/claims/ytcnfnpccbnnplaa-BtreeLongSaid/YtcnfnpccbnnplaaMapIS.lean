/- A map from int to string that reads as a function, with so many entries: made, asked, set, deleted, counted. No function of the program is named. -/
import Derived.Test.YtcnfnpccbnnplaaEnds4
import Derived.Maps.OwnSet
import Derived.Maps.StringElems
import Derived.Maps.Views
import Derived.Maps.Own
namespace Go.Proofs.Ytcnfnpccbnnplaa
open Go.RowKit Go.Maps
set_option maxRecDepth 100000

/-- Block b of w is a map from int (type k) to string (type e) that reads as f, with n entries. -/
def Im (P : Program) (k e : TypeId) (w : World) (b : Nat) (f : Int → Option ByteArray) (n : Nat) : Prop :=
  ∃ D : DataW Unit, w.ownsMap P k (plainElem P e) b n D ∧ Maps.size D = n ∧ ∀ i : Int, (Lit.int .i64 i).wf = true → Maps.has D (.int .i64 i) = (f i).isSome ∧ ∀ s, f i = some s → ∀ z, D.atKey (.int .i64 i) z = .lit (.string s.data.toList)

section
variable {P : Program} {t k e : TypeId} {w : World} {b n : Nat} {f : Int → Option ByteArray}

theorem owns_fit {D : DataW Unit} {N : Nat} {R : Value → Option (DataW Unit × List MemPlace)} (h : w.ownsMap P k R b N D) : w.ownsMap P k R b (Maps.size D) D := by
  obtain ⟨es, clock, hb, F, hs, rfl⟩ := h
  refine ⟨es, clock, hb, F, ?_, rfl⟩
  rw [Maps.size_eq, length_read]
  exact Nat.le_refl _

theorem Im.lt (h : Im P k e w b f n) : b < w.heap.size := by
  obtain ⟨D, h1, -⟩ := h
  exact h1.lt
theorem Im.made (w : World) : Im P k e (w.alloc (.map #[] 0)) w.heap.size (fun _ => none) 0 :=
  ⟨.map [], World.ownsMap_made w P k _, rfl, fun i _ => ⟨rfl, fun s hs => by cases hs⟩⟩
theorem Im.moved {Q : Nat → Prop} {w' : World} (h : Im P k e w b f n) (hm : Moved Q w w') (hQ : ¬ Q b) : Im P k e w' b f n := by
  obtain ⟨D, ⟨es, clock, hb, F, hs, rfl⟩, h2⟩ := h
  refine ⟨_, ⟨es, clock, ?_, F, hs, rfl⟩, h2⟩
  have hlt : b < w.heap.size := (Array.getElem?_eq_some_iff.1 hb).1
  exact (hm.block b hlt hQ).trans hb
theorem turned_moved {w' : World} (h : w.mapTurned w' b) : Moved (· = b) w w' := by
  have g := h.grown
  exact ⟨g.os, g.tape, g.output, g.size, fun j hj hn => g.block j hj (fun e => hn (by simpa using e))⟩

theorem bytes_toList_inj {a b : ByteArray} (h : a.data.toList = b.data.toList) : a = b := by
  cases a; cases b
  simpa using h

/-- 'x, is := m[i]'. -/
theorem Im.look (h : Im P k e w b f n) (hk : P.underlying k = some (.int .i64)) (he : P.underlying e = some .string) (ht : P.underlying t = some (.map k e)) (hz : (zeroValue e).run P w = .ok (.string ByteArray.empty) w) {i : Int} (hi : (Lit.int .i64 i).wf = true) :
    (Instr.lookup t (.map (some b)) (.int .i64 i) true).run P w = .ok (.tuple #[.string ((f i).getD ByteArray.empty), .bool (f i).isSome]) w := by
  obtain ⟨D, h1, h2, h3⟩ := h
  obtain ⟨q1, q2⟩ := h3 i hi
  obtain ⟨v, ps, hr, hv⟩ := h1.look_ok (int_keyed hk) ht hz (plainElem_string he (by simp [maxLen])) (keyOf_int_mk hk hi)
  obtain ⟨s, rfl, hs, -⟩ := Go.plainElem_string_inv he hv
  rw [hr, q1]
  have e1 : s = (f i).getD ByteArray.empty := by
    simp only [Prod.mk.injEq] at hs
    cases hf : f i with
    | none =>
      rw [hf] at q1
      rw [Maps.atKey_of_not_has (by simpa using q1)] at hs
      have h4 := hs.1
      simp only [DataW.lit.injEq, Lit.string.injEq] at h4
      exact (bytes_toList_inj h4).symm
    | some x =>
      rw [q2 x hf] at hs
      have h4 := hs.1
      simp only [DataW.lit.injEq, Lit.string.injEq] at h4
      exact (bytes_toList_inj h4).symm
  rw [e1]

/-- 'len(m)'. -/
theorem Im.len (h : Im P k e w b f n) (ht : P.underlying t = some (.map k e)) (ty : TypeId) : (Builtin.len_ #[t] ty #[.map (some b)]).run P w = .ok (.int .i64 n) w := by
  obtain ⟨D, h1, h2, -⟩ := h
  have := h1.len ht ty
  rwa [h2] at this

theorem lit_ne {i j : Int} (h : j ≠ i) : (Lit.int .i64 j) ≠ (Lit.int .i64 i) := by
  intro e
  cases e
  exact h rfl

/-- 'm[i] = s'. -/
theorem Im.store (h : Im P k e w b f n) (hk : P.underlying k = some (.int .i64)) (he : P.underlying e = some .string) (ht : P.underlying t = some (.map k e)) {i : Int} (hi : (Lit.int .i64 i).wf = true) (s : ByteArray) (hs : s.size ≤ maxLen) (hn : n < maxLen) :
    ∃ w', (Instr.mapUpdate t (.map (some b)) (.int .i64 i) (.string s)).run P w = .ok () w' ∧ Im P k e w' b (fun j => if j = i then some s else f j) (if (f i).isSome then n else n + 1) ∧ w.mapTurned w' b := by
  obtain ⟨D, h1, h2, h3⟩ := h
  have hkl : WideAt.IsKeyLit (Lit.int .i64 i) := by trivial
  obtain ⟨w', r1, r2, r3⟩ := h1.store (int_keyed hk) ht hn (keyOf_int_mk hk hi) (plainElem_string he hs)
  refine ⟨w', r1, ⟨D.put (.int .i64 i) (.lit (.string s.data.toList)), ?_, ?_, fun j hj => ?_⟩, r3⟩
  · have := owns_fit r2
    rw [Maps.size_put (h1.tidy (int_keyed hk)), (h3 i hi).1, h2] at this
    exact this
  · rw [Maps.size_put (h1.tidy (int_keyed hk)), (h3 i hi).1, h2]
  · by_cases hji : j = i
    · subst hji
      simp only [if_true]
      refine ⟨Maps.has_put_same h1.isMap hkl _, fun x hx z => ?_⟩
      cases hx
      exact Maps.atKey_put_same h1.isMap hkl _ z
    · simp only [if_neg hji]
      refine ⟨(Maps.has_put_other (lit_ne hji) _).trans (h3 j hj).1, fun x hx z => ?_⟩
      exact (Maps.atKey_put_other (lit_ne hji) _ z).trans ((h3 j hj).2 x hx z)

/-- 'delete(m, i)'. -/
theorem Im.drop (h : Im P k e w b f n) (hk : P.underlying k = some (.int .i64)) (ht : P.underlying t = some (.map k e)) {i : Int} (hi : (Lit.int .i64 i).wf = true) (ty : TypeId) :
    ∃ w', (Builtin.delete_ #[t, k] ty #[.map (some b), .int .i64 i]).run P w = .ok (.tuple #[]) w' ∧ Im P k e w' b (fun j => if j = i then none else f j) (if (f i).isSome then n - 1 else n) ∧ w.mapTurned w' b := by
  obtain ⟨D, h1, h2, h3⟩ := h
  obtain ⟨w', r1, r2, r3⟩ := h1.drop (int_keyed hk) ht (keyOf_int_mk hk hi) ty
  have hsz : Maps.size (D.del (.int .i64 i)) = if (f i).isSome then n - 1 else n := by
    have := Maps.size_del (k := .int .i64 i) (h1.tidy (int_keyed hk))
    rw [(h3 i hi).1, h2] at this
    split <;> simp_all <;> omega
  refine ⟨w', r1, ⟨D.del (.int .i64 i), ?_, hsz, fun j hj => ?_⟩, r3⟩
  · have := owns_fit r2
    rwa [hsz] at this
  · by_cases hji : j = i
    · subst hji
      simp only [if_true]
      exact ⟨Maps.has_del_same, fun x hx => by cases hx⟩
    · simp only [if_neg hji]
      refine ⟨(Maps.has_del_other (lit_ne hji)).trans (h3 j hj).1, fun x hx z => ?_⟩
      exact (Maps.atKey_del_other (lit_ne hji) z).trans ((h3 j hj).2 x hx z)
end
end Go.Proofs.Ytcnfnpccbnnplaa
