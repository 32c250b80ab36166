/- B5b; B5c -/
import Derived.Test.YtbkokckpjmbjhaaDoorGl
namespace Go.Proofs.YtbkokckpjmbjhaaDoor
open Go.RowKit Go.Maps
set_option maxRecDepth 100000
set_option linter.unusedVariables false
/-- The slice v reads as n elements of sz cells each, xs. -/
def Rw (sz : Nat) (w : World) (v : Value) (n : Nat) (xs : List Value) : Prop :=
  xs.length = n * sz ∧ ∃ ao cap, v = .slice ao n cap ∧ n ≤ cap ∧ cap ≤ maxLen ∧ (ao = none → cap = 0) ∧ ∀ ad, ao = some ad → ∀ j u, xs[j]? = some u → w.cell? (ad.add j) = some u
section
variable {sz n : Nat} {w w' : World} {v : Value} {xs : List Value}
theorem Rw.nil (sz : Nat) (w : World) : Rw sz w (.slice none 0 0) 0 [] := ⟨by simp, none, 0, rfl, Nat.le_refl _, by simp [maxLen], fun _ => rfl, fun ad h => by cases h⟩
theorem Rw.form (h : Rw sz w v n xs) : ∃ ao cap, v = .slice ao n cap ∧ n ≤ cap ∧ cap ≤ 9223372036854775807 := by
  obtain ⟨-, ao, cap, e, h1, h2, -⟩ := h; exact ⟨ao, cap, e, h1, h2⟩
theorem Rw.at (h : Rw sz w v n xs) (hn : 0 < n) (hz : 0 < sz) : ∃ b off cap, v = .slice (some ⟨b, off, none⟩) n cap ∧ n ≤ cap ∧ cap ≤ 9223372036854775807 ∧ b < w.heap.size ∧ ∀ j u, xs[j]? = some u → w.cell? ⟨b, off + j, none⟩ = some u := by
  obtain ⟨h0, ao, cap, rfl, h1, h2, h3, h4⟩ := h
  have hx : 0 < xs.length := by rw [h0]; exact Nat.mul_pos hn hz
  cases ao with
  | none => have := h3 rfl; omega
  | some ad =>
    obtain ⟨b, off, spot⟩ := ad
    have k0 := h4 _ rfl 0 _ (List.getElem?_eq_getElem hx)
    have hs : spot = none := by simpa [Addr.add] using World.cell?_spot k0
    subst hs
    have key : ∀ j u, xs[j]? = some u → w.cell? ⟨b, off + j, none⟩ = some u := fun j u hu => by
      have := h4 _ rfl j u hu
      rwa [Addr.add_lit] at this
    exact ⟨b, off, cap, rfl, h1, h2, World.block_lt_of_cell? w _ (key 0 _ (List.getElem?_eq_getElem hx)), key⟩
theorem Rw.moved {P : Nat → Prop} (h : Rw sz w v n xs) (hm : Moved P w w') (hP : 0 < xs.length → ∀ g, v.ownBlock = some g → ¬ P g) : Rw sz w' v n xs := by
  obtain ⟨h0, ao, cap, rfl, h1, h2, h3, h4⟩ := h
  refine ⟨h0, ao, cap, rfl, h1, h2, h3, fun ad had j u hu => ?_⟩
  subst had
  have hx : 0 < xs.length := by have := (List.getElem?_eq_some_iff.1 hu).1; omega
  have := h4 ad rfl j u hu
  have hlt := World.block_lt_of_cell? w _ this
  rw [← this]
  rw [block_add] at hlt
  exact World.cell?_of_block (by rw [block_add]; exact hm.block ad.block hlt (hP hx _ rfl))
theorem Rw.below (h : Rw sz w v n xs) (hb : Below w.heap.size w w') : Rw sz w' v n xs := h.moved (Moved.of_below hb (fun _ => False)) (fun _ _ _ h => h)
theorem Rw.lt (h : Rw sz w v n xs) (hx : 0 < xs.length) : ∀ g, v.ownBlock = some g → g < w.heap.size := by
  obtain ⟨h0, ao, cap, rfl, h1, h2, h3, h4⟩ := h
  intro g hg
  cases ao with
  | none => cases hg
  | some ad =>
    have := World.block_lt_of_cell? w _ (h4 ad rfl 0 _ (List.getElem?_eq_getElem hx))
    rw [block_add] at this
    cases hg
    exact this
theorem Rw.of_own {base : Nat} {t : TypeId} (h : w.ownsRow base t sz v n xs) : Rw sz w v n xs := by
  have hc := fun g (hg : v.ownBlock = some g) => World.ownsRow.cells h hg
  rcases id h with ⟨h0, ⟨rfl, rfl⟩ | ⟨g, cap, cur, rfl, hb, hh, h1, h2, h3, h4⟩⟩
  · obtain rfl : xs = [] := List.eq_nil_of_length_eq_zero (by omega)
    exact Rw.nil _ _
  · exact ⟨h.1, some ⟨g, 0, none⟩, cap, rfl, h1, h2, (fun e => by cases e), fun ad had j u hu => by cases had; exact hc g rfl j u hu⟩
theorem Rw.takes {ao : Option Addr} {cap : Nat} (h : Rw sz w (.slice ao n cap) n xs) (m : Nat) (hm : m ≤ n) : Rw sz w (.slice ao m cap) m (xs.take (m * sz)) := by
  obtain ⟨h0, a, c, e, h1, h2, h3, h4⟩ := h
  simp only [Value.slice.injEq, true_and] at e
  obtain ⟨rfl, rfl⟩ := e
  have hle : m * sz ≤ n * sz := Nat.mul_le_mul_right _ hm
  refine ⟨by rw [List.length_take, h0]; omega, ao, cap, rfl, by omega, h2, h3, fun ad had j u hu => h4 ad had j u ?_⟩
  rw [List.getElem?_take] at hu
  split at hu
  · exact hu
  · cases hu
theorem Rw.drops {ao : Option Addr} {cap : Nat} (h : Rw sz w (.slice ao n cap) n xs) (m : Nat) (hm : m ≤ n) : Rw sz w (.slice (if cap = m then ao else Option.map (fun x => x.add (m * sz)) ao) (n - m) (cap - m)) (n - m) (xs.drop (m * sz)) := by
  obtain ⟨h0, a, c, e, h1, h2, h3, h4⟩ := h
  simp only [Value.slice.injEq, true_and] at e
  obtain ⟨rfl, rfl⟩ := e
  refine ⟨by rw [List.length_drop, h0, Nat.sub_mul], _, cap - m, rfl, by omega, by omega, ?_, fun ad had j u hu => ?_⟩
  · intro h
    split at h
    · omega
    · cases ao with
      | none => have := h3 rfl; omega
      | some x => simp at h
  · rw [List.getElem?_drop] at hu
    by_cases hc : cap = m
    · have := (List.getElem?_eq_some_iff.1 hu).1
      have hnm : n = m := by omega
      rw [h0, hnm] at this
      omega
    · rw [if_neg hc] at had
      cases ao with
      | none => simp at had
      | some x =>
        simp at had
        subst had
        rw [add_add]
        exact h4 x rfl (m * sz + j) u hu
end
/-- An entry: a key, its value; or a kid's page. -/
structure Ent where
  key : ByteArray
  val : ByteArray
  kid : Int
def Ent.cells (e : Ent) : List Value := [.string e.key, .string e.val, .int .i64 e.kid]
def Ent.agg (e : Ent) : Value := .agg #[.string e.key, .string e.val, .int .i64 e.kid]
def ecells (es : List Ent) : List Value := es.flatMap Ent.cells
theorem ecells_cons (e : Ent) (es : List Ent) : ecells (e :: es) = .string e.key :: .string e.val :: .int .i64 e.kid :: ecells es := rfl
theorem ecells_append (a b : List Ent) : ecells (a ++ b) = ecells a ++ ecells b := by unfold ecells; rw [List.flatMap_append]
theorem ecells_length (es : List Ent) : (ecells es).length = es.length * 3 := by
  induction es with
  | nil => rfl
  | cons e t ih => rw [ecells_cons]; simp only [List.length_cons, ih]; omega
theorem ecells_at : ∀ (es : List Ent) (k : Nat) (hk : k < es.length), (ecells es)[k * 3]? = some (.string es[k].key) ∧ (ecells es)[k * 3 + 1]? = some (.string es[k].val) ∧ (ecells es)[k * 3 + 2]? = some (.int .i64 es[k].kid)
  | e :: t, 0, _ => ⟨rfl, rfl, rfl⟩
  | e :: t, k + 1, hk => by
    have ih := ecells_at t k (by simpa using hk)
    rw [ecells_cons, show (k + 1) * 3 = k * 3 + 3 by omega, show k * 3 + 3 + 1 = k * 3 + 1 + 3 by omega, show k * 3 + 3 + 2 = k * 3 + 2 + 3 by omega]
    simpa using ih
theorem ecells_take : ∀ (es : List Ent) (k : Nat), (ecells es).take (k * 3) = ecells (es.take k)
  | [], k => by simp [ecells]
  | e :: t, 0 => by simp [ecells]
  | e :: t, k + 1 => by
    rw [List.take_succ_cons, ecells_cons, ecells_cons, show (k + 1) * 3 = k * 3 + 1 + 1 + 1 by omega, List.take_succ_cons, List.take_succ_cons, List.take_succ_cons, ecells_take t k]
theorem ecells_drop : ∀ (es : List Ent) (k : Nat), (ecells es).drop (k * 3) = ecells (es.drop k)
  | [], k => by simp [ecells]
  | e :: t, 0 => by simp
  | e :: t, k + 1 => by
    rw [List.drop_succ_cons, ecells_cons, show (k + 1) * 3 = k * 3 + 1 + 1 + 1 by omega, List.drop_succ_cons, List.drop_succ_cons, List.drop_succ_cons, ecells_drop t k]
theorem ecells_one (es : List Ent) : ∀ u ∈ ecells es, u.oneCell' = true := by
  intro u hu
  unfold ecells at hu
  obtain ⟨e, -, he⟩ := List.mem_flatMap.1 hu
  simp only [Ent.cells, List.mem_cons, List.not_mem_nil, or_false] at he
  rcases he with rfl | rfl | rfl <;> rfl
/-- The slice v reads as the entries es. -/
def Ens (w : World) (v : Value) (es : List Ent) : Prop := Rw 3 w v es.length (ecells es)
section
variable {w w' : World} {v : Value} {es : List Ent}
theorem Ens.nil (w : World) : Ens w (.slice none 0 0) [] := Rw.nil 3 w
theorem Ens.form (h : Ens w v es) : ∃ ao cap, v = .slice ao es.length cap ∧ es.length ≤ cap ∧ cap ≤ 9223372036854775807 := Rw.form h
theorem Ens.at (h : Ens w v es) (hn : 0 < es.length) : ∃ b off cap, v = .slice (some ⟨b, off, none⟩) es.length cap ∧ es.length ≤ cap ∧ cap ≤ 9223372036854775807 ∧ b < w.heap.size ∧
    ∀ k (hk : k < es.length), w.cell? ⟨b, off + k * 3, none⟩ = some (.string es[k].key) ∧ w.cell? ⟨b, off + k * 3 + 1, none⟩ = some (.string es[k].val) ∧ w.cell? ⟨b, off + k * 3 + 2, none⟩ = some (.int .i64 es[k].kid) := by
  obtain ⟨b, off, cap, e, h1, h2, h3, h4⟩ := Rw.at h hn (by decide)
  refine ⟨b, off, cap, e, h1, h2, h3, fun k hk => ?_⟩
  obtain ⟨c0, c1, c2⟩ := ecells_at es k hk
  exact ⟨h4 _ _ c0, by rw [Nat.add_assoc]; exact h4 _ _ c1, by rw [Nat.add_assoc]; exact h4 _ _ c2⟩
theorem Ens.moved {P : Nat → Prop} (h : Ens w v es) (hm : Moved P w w') (hP : 0 < es.length → ∀ g, v.ownBlock = some g → ¬ P g) : Ens w' v es := Rw.moved h hm (fun h0 => hP (by rw [ecells_length] at h0; omega))
theorem Ens.below (h : Ens w v es) (hb : Below w.heap.size w w') : Ens w' v es := Rw.below h hb
theorem Ens.lt (h : Ens w v es) (hn : 0 < es.length) : ∀ g, v.ownBlock = some g → g < w.heap.size := Rw.lt h (by rw [ecells_length]; omega)
theorem Ens.takes {ao : Option Addr} {cap : Nat} (h : Ens w (.slice ao es.length cap) es) (m : Nat) (hm : m ≤ es.length) : Ens w (.slice ao m cap) (es.take m) := by
  have := Rw.takes h m hm
  rw [ecells_take] at this
  have hl : (es.take m).length = m := by rw [List.length_take]; omega
  unfold Ens; rw [hl]; exact this
theorem Ens.drops {ao : Option Addr} {cap : Nat} (h : Ens w (.slice ao es.length cap) es) (m : Nat) (hm : m ≤ es.length) : Ens w (.slice (if cap = m then ao else Option.map (fun x => x.add (m * 3)) ao) (es.length - m) (cap - m)) (es.drop m) := by
  have := Rw.drops h m hm
  rw [ecells_drop] at this
  unfold Ens; rw [List.length_drop]; exact this
end
def esize (lvl : Int) (e : Ent) : Nat := if 0 < lvl then 2 else 3 + e.key.size + e.val.size
end Go.Proofs.YtbkokckpjmbjhaaDoor
namespace Go.Proofs.YtbkokckpjmbjhaaDoor
open Go.RowKit Go.Maps
set_option maxRecDepth 100000
set_option linter.unusedVariables false
def encE (lvl : Int) (e : Ent) : List UInt8 := if 0 < lvl then le e.kid 1 ++ le (e.kid / 256) 1 else le e.key.size 1 ++ tx (e.key ++ e.val)
/-- The sizes that an entry may have. -/
def EntOk (e : Ent) : Prop := e.key.size ≤ 1000000 ∧ e.val.size ≤ 1000000
/-- A page's bytes: the level, how many entries, the entries. -/
def encs (lvl : Int) (es : List Ent) : List UInt8 := es.flatMap (encE lvl)
def enc (lvl : Int) (es : List Ent) : List UInt8 := le lvl 1 ++ le es.length 1 ++ encs lvl es
theorem encs_snoc (lvl : Int) (es : List Ent) (e : Ent) : encs lvl (es ++ [e]) = encs lvl es ++ encE lvl e := by unfold encs; rw [List.flatMap_append]; simp
theorem lgNew_some {H : Lg} {a : Nat} {rest : List Nat} (hf : H.free = a :: rest) : lgNew (some H) = ((a : Int), 0, some { H with free := rest, page := upd H.page a (zeros 504) }) := by
  unfold lgNew; simp only [hf]
end Go.Proofs.YtbkokckpjmbjhaaDoor
