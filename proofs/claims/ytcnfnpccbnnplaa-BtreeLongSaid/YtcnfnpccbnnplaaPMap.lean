/- A map from int to pages of 504 bytes that reads as a function, with so many entries: made, asked, set, deleted. -/
import Derived.Test.YtcnfnpccbnnplaaMapIS
import Derived.Test.YtcnfnpccbnnplaaPage
namespace Go.Proofs.Ytcnfnpccbnnplaa
open Go.RowKit Go.Maps
set_option maxRecDepth 100000

def unvb : Value → Option UInt8
  | .int .u8 z => if 0 ≤ z ∧ z < 256 then some (UInt8.ofNat z.toNat) else none
  | _ => none
def unvbs : List Value → Option (List UInt8)
  | [] => some []
  | v :: r => match unvb v, unvbs r with
    | some c, some l => some (c :: l)
    | _, _ => none
def unpg : Value → Option (List UInt8)
  | .agg a => unvbs a.toList
  | _ => none
theorem unvb_vb (c : UInt8) : unvb (vb c) = some c := by
  have h : c.toNat < 256 := c.toNat_lt
  simp [unvb, vb]
  omega
theorem unvbs_vbs : ∀ l : List UInt8, unvbs (vbs l) = some l
  | [] => rfl
  | c :: l => by
    have ih := unvbs_vbs l
    show (match unvb (vb c), unvbs (vbs l) with | some c, some l => some (c :: l) | _, _ => none) = _
    rw [unvb_vb, ih]
theorem unvb_inv {v : Value} {c : UInt8} (h : unvb v = some c) : v = vb c := by
  unfold unvb at h
  split at h
  · rename_i z
    split at h
    · rename_i hz
      cases h
      unfold vb
      congr 1
      have : (UInt8.ofNat z.toNat).toNat = z.toNat := by rw [UInt8.toNat_ofNat']; omega
      rw [this]
      omega
    · cases h
  · cases h
theorem unvbs_inv : ∀ {vs : List Value} {l : List UInt8}, unvbs vs = some l → vs = vbs l
  | [], l, h => by cases h; rfl
  | v :: r, l, h => by
    unfold unvbs at h
    split at h
    · rename_i c m h1 h2
      cases h
      rw [unvb_inv h1, unvbs_inv h2]
      rfl
    · cases h
theorem unpg_pg (l : List UInt8) : unpg (pg l) = some l := unvbs_vbs l
theorem unpg_inv {v : Value} {l : List UInt8} (h : unpg v = some l) : v = pg l := by
  unfold unpg at h
  split at h
  · rename_i a
    unfold pg
    rw [← unvbs_inv h]
  · cases h
/-- How a page reads as an element of a map. -/
def pgR (v : Value) : Option (DataW Unit × List MemPlace) := (unpg v).map fun l => (.lit (.string l), [])
theorem pgR_pg (l : List UInt8) : pgR (pg l) = some (.lit (.string l), []) := by unfold pgR; rw [unpg_pg]; rfl
theorem pgR_inv {v : Value} {x : DataW Unit × List MemPlace} (h : pgR v = some x) : ∃ l, v = pg l ∧ x = (.lit (.string l), []) := by
  unfold pgR at h
  cases hu : unpg v with
  | none => rw [hu] at h; cases h
  | some l => rw [hu] at h; cases h; exact ⟨l, unpg_inv hu, rfl⟩

/-- Block b of w is a map from int to pages that reads as f, with n entries. -/
def Pm (w : World) (b : Nat) (f : Int → Option (List UInt8)) (n : Nat) : Prop :=
  ∃ D : DataW Unit, w.ownsMap Try.prog 3 pgR b n D ∧ Maps.size D = n ∧ ∀ i : Int, (Lit.int .i64 i).wf = true → Maps.has D (.int .i64 i) = (f i).isSome ∧ ∀ s, f i = some s → ∀ z, D.atKey (.int .i64 i) z = .lit (.string s)

section
variable {w : World} {b n : Nat} {f : Int → Option (List UInt8)}
theorem und_pk : Try.prog.underlying 3 = some (.int .i64) := Try.underlying3
theorem und_pm : Try.prog.underlying 84 = some (.map 3 103) := Try.underlying84

theorem Pm.lt (h : Pm w b f n) : b < w.heap.size := by
  obtain ⟨D, h1, -⟩ := h
  exact h1.lt
theorem Pm.made (w : World) : Pm (w.alloc (.map #[] 0)) w.heap.size (fun _ => none) 0 :=
  ⟨.map [], World.ownsMap_made w _ _ _, rfl, fun i _ => ⟨rfl, fun s hs => by cases hs⟩⟩
theorem Pm.moved {Q : Nat → Prop} {w' : World} (h : Pm w b f n) (hm : Moved Q w w') (hQ : ¬ Q b) : Pm w' b f n := by
  obtain ⟨D, ⟨es, clock, hb, F, hs, rfl⟩, h2⟩ := h
  refine ⟨_, ⟨es, clock, ?_, F, hs, rfl⟩, h2⟩
  have hlt : b < w.heap.size := (Array.getElem?_eq_some_iff.1 hb).1
  exact (hm.block b hlt hQ).trans hb

/-- 'x, is := m[i]'. -/
theorem Pm.look (h : Pm w b f n) {i : Int} (hi : (Lit.int .i64 i).wf = true) :
    (Instr.lookup 84 (.map (some b)) (.int .i64 i) true).run Try.prog w = .ok (.tuple #[pg ((f i).getD (zeros 504)), .bool (f i).isSome]) w := by
  obtain ⟨D, h1, h2, h3⟩ := h
  obtain ⟨q1, q2⟩ := h3 i hi
  obtain ⟨v, ps, hr, hv⟩ := h1.look_ok (int_keyed und_pk) und_pm (pg_zero w) (pgR_pg (zeros 504)) (keyOf_int_mk und_pk hi)
  obtain ⟨s, rfl, hs⟩ := pgR_inv hv
  rw [hr, q1]
  have e1 : s = (f i).getD (zeros 504) := by
    simp only [Prod.mk.injEq] at hs
    cases hf : f i with
    | none =>
      rw [hf] at q1
      rw [Maps.atKey_of_not_has (by simpa using q1)] at hs
      have h4 := hs.1
      simp only [DataW.lit.injEq, Lit.string.injEq] at h4
      exact h4.symm
    | some x =>
      rw [q2 x hf] at hs
      have h4 := hs.1
      simp only [DataW.lit.injEq, Lit.string.injEq] at h4
      exact h4.symm
  rw [e1]

/-- 'm[i] = s'. -/
theorem Pm.store (h : Pm w b f n) {i : Int} (hi : (Lit.int .i64 i).wf = true) (s : List UInt8) (hn : n < maxLen) :
    ∃ w', (Instr.mapUpdate 84 (.map (some b)) (.int .i64 i) (pg s)).run Try.prog w = .ok () w' ∧ Pm w' b (fun j => if j = i then some s else f j) (if (f i).isSome then n else n + 1) ∧ Moved (· = b) w w' := by
  obtain ⟨D, h1, h2, h3⟩ := h
  have hkl : WideAt.IsKeyLit (Lit.int .i64 i) := by trivial
  obtain ⟨w', r1, r2, r3⟩ := h1.store (int_keyed und_pk) und_pm hn (keyOf_int_mk und_pk hi) (pgR_pg s)
  refine ⟨w', r1, ⟨D.put (.int .i64 i) (.lit (.string s)), ?_, ?_, fun j hj => ?_⟩, turned_moved r3⟩
  · have := owns_fit r2
    rw [Maps.size_put (h1.tidy (int_keyed und_pk)), (h3 i hi).1, h2] at this
    exact this
  · rw [Maps.size_put (h1.tidy (int_keyed und_pk)), (h3 i hi).1, h2]
  · by_cases hji : j = i
    · subst hji
      simp only [if_true]
      refine ⟨Maps.has_put_same h1.isMap hkl _, fun x hx z => ?_⟩
      cases hx
      exact Maps.atKey_put_same h1.isMap hkl _ z
    · simp only [if_neg hji]
      refine ⟨(Maps.has_put_other (lit_ne hji) _).trans (h3 j hj).1, fun x hx z => ?_⟩
      exact (Maps.atKey_put_other (lit_ne hji) _ z).trans ((h3 j hj).2 x hx z)

/-- 'delete(m, i)'. -/
theorem Pm.drop (h : Pm w b f n) {i : Int} (hi : (Lit.int .i64 i).wf = true) (ty : TypeId) :
    ∃ w', (Builtin.delete_ #[84, 3] ty #[.map (some b), .int .i64 i]).run Try.prog w = .ok (.tuple #[]) w' ∧ Pm w' b (fun j => if j = i then none else f j) (if (f i).isSome then n - 1 else n) ∧ Moved (· = b) w w' := by
  obtain ⟨D, h1, h2, h3⟩ := h
  obtain ⟨w', r1, r2, r3⟩ := h1.drop (int_keyed und_pk) und_pm (keyOf_int_mk und_pk hi) ty
  have hsz : Maps.size (D.del (.int .i64 i)) = if (f i).isSome then n - 1 else n := by
    have := Maps.size_del (k := .int .i64 i) (h1.tidy (int_keyed und_pk))
    rw [(h3 i hi).1, h2] at this
    split <;> simp_all <;> omega
  refine ⟨w', r1, ⟨D.del (.int .i64 i), ?_, hsz, fun j hj => ?_⟩, turned_moved r3⟩
  · have := owns_fit r2
    rwa [hsz] at this
  · by_cases hji : j = i
    · subst hji
      simp only [if_true]
      exact ⟨Maps.has_del_same, fun x hx => by cases hx⟩
    · simp only [if_neg hji]
      refine ⟨(Maps.has_del_other (lit_ne hji)).trans (h3 j hj).1, fun x hx z => ?_⟩
      exact (Maps.atKey_del_other (lit_ne hji) z).trans ((h3 j hj).2 x hx z)
end
end Go.Proofs.Ytcnfnpccbnnplaa
