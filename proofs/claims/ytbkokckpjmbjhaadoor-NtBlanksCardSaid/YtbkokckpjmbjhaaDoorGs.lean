/- Zt; Zu; Zv; Zw; Zx -/
import Derived.Test.YtbkokckpjmbjhaaDoorGc
import Derived.Laws.ResultCell
import Derived.Deep.Grids
import Derived.Deep.Slices
import Derived.ProofKit
import Derived.Lib.AppendZeros
import Derived.Maps.OwnSet
import Derived.Maps.StringElems
import Derived.Maps.Views
import Derived.Maps.Own
import Derived.Deep.WholeRow
import Derived.WalkArith
import Derived.Deep.DeepMust
import Derived.ChangeKeysEq
import Derived.Defers
import Derived.Laws.EntriesVeiled
namespace Go.Proofs.YtbkokckpjmbjhaaDoor
set_option maxRecDepth 100000
set_option linter.unusedVariables false
/-- A tree of so many levels above its leaves: each node its page, and its entries or its kids. -/
def BT (α : Type) : Nat → Type
  | 0 => Nat × List α
  | n + 1 => Nat × List (BT α n)
namespace BT
variable {α : Type}
def page : {n : Nat} → BT α n → Nat
  | 0, t => t.1
  | _ + 1, t => t.1
/-- What it holds, in its order. -/
def flat : {n : Nat} → BT α n → List α
  | 0, t => t.2
  | n + 1, t => t.2.flatMap (fun k => flat (n := n) k)
/-- Its pages. -/
def pages : {n : Nat} → BT α n → List Nat
  | 0, t => [t.1]
  | n + 1, t => t.1 :: t.2.flatMap (fun k => pages (n := n) k)
/-- No leaf is empty, and no node above has fewer than two kids: of all that is not the root. -/
def Proper : {n : Nat} → BT α n → Prop
  | 0, t => t.2 ≠ []
  | n + 1, t => 2 ≤ t.2.length ∧ ∀ k ∈ t.2, Proper (n := n) k
/-- .. and of the root, which may be an empty leaf. -/
def Root : {n : Nat} → BT α n → Prop
  | 0, t => True
  | n + 1, t => Proper (n := n + 1) t
theorem page_mem : {n : Nat} → (t : BT α n) → page t ∈ pages t
  | 0, t => by simp [page, pages]
  | n + 1, t => by simp [page, pages]
theorem split_flat {n : Nat} (l : List (BT α n)) (i : Nat) (hi : i < l.length) :
    l.flatMap flat = (l.take i).flatMap flat ++ (flat l[i] ++ (l.drop (i + 1)).flatMap flat) := by
  conv => lhs; rw [← List.take_append_drop i l, List.drop_eq_getElem_cons hi]
  rw [List.flatMap_append, List.flatMap_cons]
theorem flat_pos : {n : Nat} → (t : BT α n) → Proper t → flat t ≠ []
  | 0, t, h => h
  | n + 1, t, h => by
    intro he
    obtain ⟨h1, h2⟩ := h
    cases hk : t.2 with
    | nil => rw [hk] at h1; simp at h1
    | cons k l =>
      simp only [flat, hk, List.flatMap_cons, List.append_eq_nil_iff] at he
      exact flat_pos k (h2 k (by rw [hk]; simp)) he.1
/-- The least thing below a kid: the first entry of the first leaf. -/
def first : {n : Nat} → BT α n → Option α
  | 0, t => t.2.head?
  | n + 1, t => t.2.head?.bind (fun k => first (n := n) k)
theorem first_flat : {n : Nat} → (t : BT α n) → Proper t → first t = (flat t).head?
  | 0, t, _ => rfl
  | n + 1, t, h => by
    obtain ⟨h1, h2⟩ := h
    cases hk : t.2 with
    | nil => rw [hk] at h1; simp at h1
    | cons k l =>
      have hkp := h2 k (by rw [hk]; simp)
      have e := first_flat k hkp
      have hne := flat_pos k hkp
      simp only [first, hk, List.head?_cons, Option.bind_some, e, flat, List.flatMap_cons]
      cases hf : flat k with
      | nil => exact (hne hf).elim
      | cons a b => simp
/-- Entries in strict order: then each kid's lie between those of its neighbours. -/
theorem sorted_kid {n : Nat} {r : α → α → Prop} (l : List (BT α n)) (i : Nat) (hi : i < l.length) (h : (l.flatMap flat).Pairwise r) :
    (flat l[i]).Pairwise r ∧ (∀ x ∈ (l.take i).flatMap flat, ∀ y ∈ flat l[i], r x y) ∧ (∀ x ∈ flat l[i], ∀ y ∈ (l.drop (i + 1)).flatMap flat, r x y) := by
  rw [split_flat l i hi, List.pairwise_append, List.pairwise_append] at h
  obtain ⟨_, ⟨h2, _, h4⟩, h5⟩ := h
  exact ⟨h2, fun x hx y hy => h5 x hx y (List.mem_append_left _ hy), h4⟩
end BT
end Go.Proofs.YtbkokckpjmbjhaaDoor
namespace Go.Proofs.YtbkokckpjmbjhaaDoor
set_option maxRecDepth 100000
set_option linter.unusedVariables false
namespace BT
variable {α : Type}
/-- Where a key stands in a list cut in two: all ahead are below it, none behind is. -/
def Cut (ge : α → Bool) (a b : List α) : Prop := (∀ x ∈ a, ge x = false) ∧ ∀ x ∈ b, ge x = true
theorem Cut.eq {ge : α → Bool} {a b : List α} (h : Cut ge a b) : a = (a ++ b).filter (fun x => !ge x) ∧ b = (a ++ b).filter ge := by
  obtain ⟨h1, h2⟩ := h
  constructor
  · rw [List.filter_append, List.filter_eq_self.2 (fun x hx => by simp [h1 x hx]), List.filter_eq_nil_iff.2 (fun x hx => by simp [h2 x hx]), List.append_nil]
  · rw [List.filter_append, List.filter_eq_nil_iff.2 (fun x hx => by simp [h1 x hx]), List.filter_eq_self.2 (fun x hx => h2 x hx), List.nil_append]
/-- In order, the two at the cut tell it. -/
theorem Cut.of {r : α → α → Prop} {ge : α → Bool} (hm : ∀ x y, r x y → ge x = true → ge y = true) {l : List α} {m : Nat} (hs : l.Pairwise r)
    (h1 : ∀ x, l[m]? = some x → ge x = true) (h2 : m = 0 ∨ ∀ x, l[m - 1]? = some x → ge x = false) (hl : m ≤ l.length) : Cut ge (l.take m) (l.drop m) := by
  have hp := List.pairwise_iff_getElem.1 hs
  constructor
  · intro x hx
    obtain ⟨i, hi, rfl⟩ := List.mem_iff_getElem.1 hx
    rw [List.length_take] at hi
    rw [List.getElem_take]
    rcases h2 with h2 | h2
    · omega
    · have h3 := h2 _ (List.getElem?_eq_getElem (show m - 1 < l.length by omega))
      by_cases he : i = m - 1
      · subst he; exact h3
      · cases hg : ge l[i] with
        | false => rfl
        | true => rw [hm _ _ (hp i (m - 1) (by omega) (by omega) (by omega)) hg] at h3; exact h3
  · intro x hx
    obtain ⟨i, hi, rfl⟩ := List.mem_iff_getElem.1 hx
    rw [List.length_drop] at hi
    rw [List.getElem_drop]
    have h3 := h1 _ (List.getElem?_eq_getElem (show m < l.length by omega))
    by_cases he : i = 0
    · subst he; exact h3
    · exact hm _ _ (hp m (m + i) (by omega) (by omega) (by omega)) h3
theorem first_some {n : Nat} (t : BT α n) (h : Proper t) : ∃ x l, first t = some x ∧ flat t = x :: l := by
  have e := first_flat t h
  cases hf : flat t with
  | nil => exact (flat_pos t h hf).elim
  | cons x l => exact ⟨x, l, by rw [e, hf]; rfl, rfl⟩
/-- The kid on the way, and the cut below it: the cut of all. -/
theorem Cut.kid {n : Nat} {r : α → α → Prop} {ge le : α → Bool} (hm : ∀ x y, r x y → ge x = true → ge y = true)
    (h1 : ∀ x y, r x y → le y = true → ge x = false) (h2 : ∀ x, le x = false → ge x = true)
    {ka kb : List (BT α n)} {k : BT α n} (hs : ((ka ++ k :: kb).flatMap flat).Pairwise r) (hp : ∀ x ∈ ka ++ k :: kb, Proper x)
    (hk : ka = [] ∨ ∀ x, first k = some x → le x = true) (hb : ∀ k' ∈ kb, ∀ x, first k' = some x → le x = false)
    {a b : List α} (he : flat k = a ++ b) (hc : Cut ge a b) :
    (ka ++ k :: kb).flatMap flat = (ka.flatMap flat ++ a) ++ (b ++ kb.flatMap flat) ∧ Cut ge (ka.flatMap flat ++ a) (b ++ kb.flatMap flat) := by
  have e : (ka ++ k :: kb).flatMap flat = ka.flatMap flat ++ (flat k ++ kb.flatMap flat) := by rw [List.flatMap_append, List.flatMap_cons]
  rw [e, List.pairwise_append, List.pairwise_append] at hs
  obtain ⟨hs1, ⟨hs2, hs3, hs4⟩, hs5⟩ := hs
  refine ⟨by rw [e, he]; simp only [List.append_assoc], ?_, ?_⟩
  · intro x hx
    rcases List.mem_append.1 hx with hx | hx
    · rcases hk with hk | hk
      · subst hk; simp at hx
      · obtain ⟨y, l, hy, hf⟩ := first_some k (hp k (by simp))
        exact h1 x y (hs5 x hx y (by rw [hf]; simp)) (hk y hy)
    · exact hc.1 x hx
  · intro x hx
    rcases List.mem_append.1 hx with hx | hx
    · exact hc.2 x hx
    · obtain ⟨k', hk', hx'⟩ := List.mem_flatMap.1 hx
      obtain ⟨y, l, hy, hf⟩ := first_some k' (hp k' (by simp [hk']))
      have h3 := h2 y (hb k' hk' y hy)
      rw [hf] at hx'
      rcases List.mem_cons.1 hx' with rfl | hx'
      · exact h3
      · have hsk : (flat k').Pairwise r := by
          obtain ⟨u, v, huv⟩ := List.append_of_mem hk'
          rw [huv, List.flatMap_append, List.flatMap_cons, List.pairwise_append, List.pairwise_append] at hs3
          exact hs3.2.1.1
        rw [hf] at hsk
        exact hm _ _ ((List.pairwise_cons.1 hsk).1 x hx') h3
/-- Which kid it is, looked for by halves: as the loop leaves it. -/
theorem kid_found {n : Nat} {r : α → α → Prop} {le : α → Bool} (h : ∀ x y, r x y → le y = true → le x = true)
    {l : List (BT α n)} (hs : (l.flatMap flat).Pairwise r) (hp : ∀ x ∈ l, Proper x) {i j : Nat} (hij : i < j) (hj : j < l.length)
    {x y : α} (hx : first l[i] = some x) (hy : first l[j] = some y) (hle : le y = true) : le x = true := by
  obtain ⟨x', a, hx', ha⟩ := first_some l[i] (hp _ (List.getElem_mem _))
  obtain ⟨y', b, hy', hb⟩ := first_some l[j] (hp _ (List.getElem_mem _))
  rw [hx] at hx'; rw [hy] at hy'
  obtain rfl := Option.some.inj hx'
  obtain rfl := Option.some.inj hy'
  have h3 := (sorted_kid l i (by omega) hs).2.2 x (by rw [ha]; simp) y
    (List.mem_flatMap.2 ⟨l[j], by
      rw [List.mem_iff_getElem]
      exact ⟨j - (i + 1), by rw [List.length_drop]; omega, by rw [List.getElem_drop]; congr 1; omega⟩, by rw [hb]; simp⟩)
  exact h x y h3 hle
end BT
end Go.Proofs.YtbkokckpjmbjhaaDoor
namespace Go.Proofs.YtbkokckpjmbjhaaDoor
set_option maxRecDepth 100000
set_option linter.unusedVariables false
namespace BT
variable {α : Type}
/-- A leaf; a node above. -/
def leaf (p : Nat) (l : List α) : BT α 0 := (p, l)
def node {n : Nat} (p : Nat) (l : List (BT α n)) : BT α (n + 1) := (p, l)
theorem leaf_flat (p : Nat) (l : List α) : (leaf p l).flat = l := rfl
theorem node_flat {n : Nat} (p : Nat) (l : List (BT α n)) : (node p l).flat = l.flatMap flat := rfl
theorem node_pages {n : Nat} (p : Nat) (l : List (BT α n)) : (node p l).pages = p :: l.flatMap pages := rfl
theorem node_proper {n : Nat} (p : Nat) (l : List (BT α n)) : (node p l).Proper ↔ 2 ≤ l.length ∧ ∀ k ∈ l, Proper k := Iff.rfl
/-- A way from a node of level n up to the root, of level N: each node's page, and the kids beside the way. -/
inductive Path (α : Type) : Nat → Nat → Type
  | top {n : Nat} : Path α n n
  | up {n N : Nat} (page : Nat) (ka kb : List (BT α n)) (rest : Path α (n + 1) N) : Path α n N
/-- The tree with this at the end of the way. -/
def Path.plug : {n N : Nat} → Path α n N → BT α n → BT α N
  | _, _, .top, t => t
  | n, _, .up page ka kb rest, t => rest.plug (node page (ka ++ t :: kb))
/-- What stands ahead of it, and behind. -/
def Path.pre : {n N : Nat} → Path α n N → List α
  | _, _, .top => []
  | _, _, .up page ka kb rest => rest.pre ++ ka.flatMap flat
def Path.post : {n N : Nat} → Path α n N → List α
  | _, _, .top => []
  | _, _, .up page ka kb rest => kb.flatMap flat ++ rest.post
/-- The pages beside it. -/
def Path.pages : {n N : Nat} → Path α n N → List Nat
  | _, _, .top => []
  | _, _, .up page ka kb rest => page :: (ka.flatMap BT.pages ++ kb.flatMap BT.pages) ++ rest.pages
/-- All beside it is as it must be; and no node is one alone. -/
def Path.Proper : {n N : Nat} → Path α n N → Prop
  | _, _, .top => True
  | _, _, .up page ka kb rest => 1 ≤ ka.length + kb.length ∧ (∀ k ∈ ka, BT.Proper k) ∧ (∀ k ∈ kb, BT.Proper k) ∧ rest.Proper
def Path.len : {n N : Nat} → Path α n N → Nat
  | _, _, .top => 0
  | _, _, .up page ka kb rest => rest.len + 1
theorem Path.plug_up {n N : Nat} (page : Nat) (ka kb : List (BT α n)) (rest : Path α (n + 1) N) (t : BT α n) : (Path.up page ka kb rest).plug t = rest.plug (node page (ka ++ t :: kb)) := rfl
theorem Path.levels : {n N : Nat} → (p : Path α n N) → n + p.len = N
  | _, _, .top => rfl
  | n, N, .up page ka kb rest => by have := rest.levels; simp only [Path.len]; omega
theorem Path.flat : {n N : Nat} → (p : Path α n N) → (t : BT α n) → BT.flat (p.plug t) = p.pre ++ (BT.flat t ++ p.post)
  | _, _, .top, t => by simp [Path.plug, Path.pre, Path.post]
  | n, N, .up page ka kb rest, t => by
    simp only [Path.plug_up, Path.pre, Path.post]
    rw [rest.flat, node_flat, List.flatMap_append, List.flatMap_cons]
    simp only [List.append_assoc]
theorem Path.pages_perm : {n N : Nat} → (p : Path α n N) → (t : BT α n) → (BT.pages (p.plug t)).Perm (BT.pages t ++ p.pages)
  | _, _, .top, t => by simp [Path.plug, Path.pages]
  | n, N, .up page ka kb rest, t => by
    simp only [Path.plug_up, Path.pages]
    refine (rest.pages_perm _).trans ?_
    rw [node_pages, List.flatMap_append, List.flatMap_cons, ← List.append_assoc (BT.pages t)]
    refine List.Perm.append_right rest.pages ?_
    refine List.Perm.trans ?_ List.perm_middle.symm
    refine List.Perm.cons _ ?_
    rw [← List.append_assoc, ← List.append_assoc]
    exact List.Perm.append_right _ List.perm_append_comm
theorem Path.proper : {n N : Nat} → (p : Path α n N) → p.Proper → (t : BT α n) → BT.Proper t → BT.Proper (p.plug t)
  | _, _, .top, _, t, ht => ht
  | n, N, .up page ka kb rest, hp, t, ht => by
    obtain ⟨h1, h2, h3, h4⟩ := hp
    rw [Path.plug_up]
    refine rest.proper h4 _ ((node_proper _ _).2 ⟨by rw [List.length_append, List.length_cons]; omega, ?_⟩)
    intro k hk
    rcases List.mem_append.1 hk with hk | hk
    · exact h2 k hk
    · rcases List.mem_cons.1 hk with rfl | hk
      · exact ht
      · exact h3 k hk
/-- Out of a tree that is as it must be, each way is. -/
theorem Path.of_proper : {n N : Nat} → (p : Path α n N) → (t : BT α n) → BT.Proper (p.plug t) → p.Proper ∧ BT.Proper t
  | _, _, .top, t, h => ⟨trivial, h⟩
  | n, N, .up page ka kb rest, t, h => by
    rw [Path.plug_up] at h
    obtain ⟨h1, h⟩ := rest.of_proper _ h
    obtain ⟨h2', h3⟩ := (node_proper _ _).1 h
    rw [List.length_append, List.length_cons] at h2'
    exact ⟨⟨by omega, fun k hk => h3 k (by simp [hk]), fun k hk => h3 k (by simp [hk]), h1⟩, h3 t (by simp)⟩
/-- Ways one behind the other. -/
def Path.app : {n m N : Nat} → Path α n m → Path α m N → Path α n N
  | _, _, _, .top, q => q
  | _, _, _, .up page ka kb rest, q => .up page ka kb (rest.app q)
theorem Path.app_plug : {n m N : Nat} → (p : Path α n m) → (q : Path α m N) → (t : BT α n) → (p.app q).plug t = q.plug (p.plug t)
  | _, _, _, .top, q, t => rfl
  | _, _, _, .up page ka kb rest, q, t => rest.app_plug q _
/-- The way a key takes: at each node the last kid whose least key is not above it, else the first. -/
def Path.On (le : α → Bool) : {n N : Nat} → Path α n N → BT α n → Prop
  | _, _, .top, _ => True
  | n, _, .up page ka kb rest, t => (ka = [] ∨ ∀ x, first t = some x → le x = true) ∧ (∀ k' ∈ kb, ∀ x, first k' = some x → le x = false) ∧ rest.On le (node page (ka ++ t :: kb))
/-- The cut at the end of such a way is the cut of all. -/
theorem Path.cut {r : α → α → Prop} {ge le : α → Bool} (hm : ∀ x y, r x y → ge x = true → ge y = true)
    (h1 : ∀ x y, r x y → le y = true → ge x = false) (h2 : ∀ x, le x = false → ge x = true) :
    {n N : Nat} → (p : Path α n N) → (t : BT α n) → (BT.flat (p.plug t)).Pairwise r → BT.Proper (p.plug t) → p.On le t →
    {a b : List α} → BT.flat t = a ++ b → Cut ge a b → BT.flat (p.plug t) = (p.pre ++ a) ++ (b ++ p.post) ∧ Cut ge (p.pre ++ a) (b ++ p.post)
  | _, _, .top, t, hs, hp, ho, a, b, he, hc => by
    simp only [Path.plug, Path.pre, Path.post, List.nil_append, List.append_nil]
    exact ⟨he, hc⟩
  | n, N, .up page ka kb rest, t, hs, hp, ho, a, b, he, hc => by
    obtain ⟨o1, o2, o3⟩ := ho
    rw [Path.plug_up] at hs hp
    have hs' : ((ka ++ t :: kb).flatMap BT.flat).Pairwise r := by
      have h := hs
      rw [rest.flat, List.pairwise_append, List.pairwise_append] at h
      exact h.2.1.1
    have hp' := (node_proper _ _).1 (rest.of_proper _ hp).2
    obtain ⟨e1, c1⟩ := Cut.kid hm h1 h2 hs' hp'.2 o1 o2 he hc
    obtain ⟨e2, c2⟩ := Path.cut hm h1 h2 rest (node page (ka ++ t :: kb)) hs hp o3 (by rw [node_flat]; exact e1) c1
    rw [Path.plug_up]
    simp only [Path.pre, Path.post]
    simp only [List.append_assoc] at e2 c2 ⊢
    exact ⟨e2, c2⟩
end BT
end Go.Proofs.YtbkokckpjmbjhaaDoor
namespace Go.Proofs.YtbkokckpjmbjhaaDoor
set_option maxRecDepth 100000
set_option linter.unusedVariables false
namespace BT
variable {α : Type}
def kids {n : Nat} (t : BT α (n + 1)) : List (BT α n) := t.2
/-- Two rows of nodes with the same entries in them, or the same kids. -/
def Same : {n : Nat} → List (BT α n) → List (BT α n) → Prop
  | 0, a, b => a.flatMap flat = b.flatMap flat
  | n + 1, a, b => a.flatMap kids = b.flatMap kids
theorem flats_kids {n : Nat} : ∀ l : List (BT α (n + 1)), l.flatMap flat = (l.flatMap kids).flatMap flat
  | [] => rfl
  | t :: l => by
    rw [List.flatMap_cons, List.flatMap_cons, List.flatMap_append, flats_kids l]
    rfl
theorem Same.flat : {n : Nat} → {a b : List (BT α n)} → Same a b → a.flatMap BT.flat = b.flatMap BT.flat
  | 0, a, b, h => h
  | n + 1, a, b, h => by rw [flats_kids, flats_kids, show a.flatMap kids = b.flatMap kids from h]
theorem pages_kids {n : Nat} : ∀ l : List (BT α (n + 1)), (l.flatMap pages).Perm (l.map page ++ (l.flatMap kids).flatMap pages)
  | [] => by simp
  | t :: l => by
    rw [List.flatMap_cons, List.flatMap_cons, List.flatMap_append, List.map_cons]
    have e : pages t = page t :: t.kids.flatMap pages := rfl
    rw [e, List.cons_append, List.cons_append]
    refine List.Perm.cons _ ?_
    refine (List.Perm.append_left _ (pages_kids l)).trans ?_
    rw [← List.append_assoc, ← List.append_assoc]
    exact List.Perm.append_right _ List.perm_append_comm
theorem pages_leaves : ∀ l : List (BT α 0), l.flatMap pages = l.map page
  | [] => rfl
  | t :: l => by rw [List.flatMap_cons, List.map_cons, pages_leaves l]; rfl
theorem Same.pages : {n : Nat} → {a b : List (BT α n)} → Same a b → ∃ c, (a.flatMap BT.pages).Perm (a.map page ++ c) ∧ (b.flatMap BT.pages).Perm (b.map page ++ c)
  | 0, a, b, h => ⟨[], by rw [pages_leaves, List.append_nil], by rw [pages_leaves, List.append_nil]⟩
  | n + 1, a, b, h => ⟨(a.flatMap kids).flatMap BT.pages, pages_kids a, by rw [show a.flatMap kids = b.flatMap kids from h]; exact pages_kids b⟩
/-- A node where kids may have come or gone: its kids are as they must be. -/
def Near : {n : Nat} → BT α n → Prop
  | 0, _ => True
  | n + 1, t => ∀ k ∈ kids t, Proper k
/-- What settle does, from a node that was changed: f, the free pages, before and after; the root, then. -/
inductive Settled : {n N : Nat} → Path α n N → BT α n → List Nat → (M : Nat) → BT α M → List Nat → Prop
  | good {n N : Nat} {p : Path α n (N + 1)} {c : BT α n} {f : List Nat} : n < N + 1 → Proper c → Settled p c f (N + 1) (p.plug c) f
  | laid {n N : Nat} {page : Nat} {ka kb la lb old ks : List (BT α n)} {rest : Path α (n + 1) N} {c : BT α n} {f f' : List Nat} :
      ka ++ c :: kb = la ++ (old ++ lb) → Same old ks → (∀ k ∈ la ++ (ks ++ lb), Proper k) → ks.length = old.length → (f' ++ ks.map BT.page).Perm (f ++ old.map BT.page) →
      Settled (.up page ka kb rest) c f N (rest.plug (node page (la ++ (ks ++ lb)))) f'
  | on {n N M : Nat} {page : Nat} {ka kb la lb old ks : List (BT α n)} {rest : Path α (n + 1) N} {c : BT α n} {f f' f'' : List Nat} {t : BT α M} :
      ka ++ c :: kb = la ++ (old ++ lb) → Same old ks → (∀ k ∈ la ++ (ks ++ lb), Proper k) → (f' ++ ks.map BT.page).Perm (f ++ old.map BT.page) →
      Settled rest (node page (la ++ (ks ++ lb))) f' M t f'' → Settled (.up page ka kb rest) c f M t f''
  | one {n : Nat} {page : Nat} {k : BT α n} {f : List Nat} : Proper k → Settled .top (node page [k]) f n k (page :: f)
  | top {n : Nat} {c c' : BT α n} {f : List Nat} : Same [c] [c'] → Root c' → c'.page = c.page → Settled .top c f n c' f
  | split {n : Nat} {page : Nat} {c : BT α n} {ks : List (BT α n)} {f f' : List Nat} : Same [c] ks → (∀ k ∈ ks, Proper k) → 2 ≤ ks.length →
      (f' ++ page :: ks.map BT.page).Perm (f ++ [c.page]) → Settled .top c f (n + 1) (node page ks) f'
theorem relaid_pages {n : Nat} {page : Nat} {l la lb old ks : List (BT α n)} {f f' : List Nat} (h : l = la ++ (old ++ lb)) (hs : Same old ks)
    (hf : (f' ++ ks.map BT.page).Perm (f ++ old.map BT.page)) : (f' ++ (node page (la ++ (ks ++ lb))).pages).Perm (f ++ (node page l).pages) := by
  obtain ⟨c, h1, h2⟩ := hs.pages
  rw [node_pages, node_pages, h]
  simp only [List.flatMap_append]
  refine List.perm_middle.trans (List.Perm.trans ?_ List.perm_middle.symm)
  refine List.Perm.cons _ ?_
  have key : ∀ (g : List Nat) (o : List (BT α n)), (o.flatMap BT.pages).Perm (o.map BT.page ++ c) →
      (g ++ (la.flatMap BT.pages ++ (o.flatMap BT.pages ++ lb.flatMap BT.pages))).Perm ((g ++ o.map BT.page) ++ (c ++ (la.flatMap BT.pages ++ lb.flatMap BT.pages))) := by
    intro g o ho
    rw [List.append_assoc]
    refine List.Perm.append_left _ ?_
    rw [← List.append_assoc]
    refine (List.Perm.append_right _ List.perm_append_comm).trans ?_
    rw [List.append_assoc]
    refine (List.Perm.append_right _ ho).trans ?_
    rw [List.append_assoc]
  exact (key f' ks h2).trans ((List.Perm.append_right _ hf).trans (key f old h1).symm)
theorem plug_perm {n N : Nat} (p : Path α n N) {t t' : BT α n} {f f' : List Nat} (h : (f' ++ t'.pages).Perm (f ++ t.pages)) : (f' ++ (p.plug t').pages).Perm (f ++ (p.plug t).pages) := by
  refine (List.Perm.append_left _ (p.pages_perm t')).trans (List.Perm.trans ?_ (List.Perm.append_left _ (p.pages_perm t)).symm)
  rw [← List.append_assoc, ← List.append_assoc]
  exact List.Perm.append_right _ h
/-- The content is the changed one; the pages and the free ones are what they were. -/
theorem Settled.gives : {n N M : Nat} → {p : Path α n N} → {c : BT α n} → {f f' : List Nat} → {t : BT α M} → Settled p c f M t f' → p.Proper →
    t.flat = p.pre ++ (c.flat ++ p.post) ∧ Root t ∧ (f' ++ t.pages).Perm (f ++ (p.plug c).pages) := by
  intro n N M p c f f' t h
  induction h with
  | @good n N p c f hn hc =>
    intro hp
    exact ⟨p.flat c, p.proper hp c hc, List.Perm.refl _⟩
  | @laid n N page ka kb la lb old ks rest c f f' he hs hk hl hf =>
    intro hp
    obtain ⟨h1, h2, h3, h4⟩ := hp
    have hlen : (ka ++ c :: kb).length = (la ++ (ks ++ lb)).length := by rw [he]; simp only [List.length_append]; omega
    have hflat : (la ++ (ks ++ lb)).flatMap BT.flat = (ka ++ c :: kb).flatMap BT.flat := by rw [he]; simp only [List.flatMap_append]; rw [hs.flat]
    refine ⟨?_, ?_, ?_⟩
    · rw [rest.flat, node_flat, hflat, List.flatMap_append, List.flatMap_cons]
      simp only [Path.pre, Path.post, List.append_assoc]
    · have hpr : BT.Proper (rest.plug (node page (la ++ (ks ++ lb)))) := by
        refine rest.proper h4 _ ((node_proper _ _).2 ⟨?_, hk⟩)
        rw [← hlen, List.length_append, List.length_cons]; omega
      revert hpr
      generalize rest.plug (node page (la ++ (ks ++ lb))) = u
      cases N with
      | zero => intro _; trivial
      | succ N => exact fun h => h
    · rw [Path.plug_up]
      exact plug_perm rest (relaid_pages he hs hf)
  | @on n N M page ka kb la lb old ks rest c f f' f'' t he hs hk hf hst ih =>
    intro hp
    obtain ⟨h1, h2, h3, h4⟩ := hp
    obtain ⟨g1, g2, g3⟩ := ih h4
    have hflat : (la ++ (ks ++ lb)).flatMap BT.flat = (ka ++ c :: kb).flatMap BT.flat := by rw [he]; simp only [List.flatMap_append]; rw [hs.flat]
    refine ⟨?_, g2, ?_⟩
    · rw [g1, node_flat, hflat, List.flatMap_append, List.flatMap_cons]
      simp only [Path.pre, Path.post, List.append_assoc]
    · rw [Path.plug_up]
      exact g3.trans (plug_perm rest (relaid_pages he hs hf))
  | @one n page k f hk =>
    intro hp
    refine ⟨by simp [Path.pre, Path.post, node_flat], ?_, ?_⟩
    · cases n with
      | zero => trivial
      | succ n => exact hk
    · simp only [Path.plug, node_pages, List.flatMap_cons, List.flatMap_nil, List.append_nil]
      exact List.perm_middle.symm
  | @top n c c' f hs hr hpg =>
    intro hp
    have h := hs.flat
    simp only [List.flatMap_cons, List.flatMap_nil, List.append_nil] at h
    refine ⟨by simp [Path.pre, Path.post, h], hr, ?_⟩
    obtain ⟨d, h1, h2⟩ := hs.pages
    simp only [List.flatMap_cons, List.flatMap_nil, List.append_nil, List.map_cons, List.map_nil] at h1 h2
    rw [hpg] at h2
    simp only [Path.plug]
    exact List.Perm.append_left _ (h2.trans h1.symm)
  | @split n page c ks f f' hs hk hl hf =>
    intro hp
    have h := hs.flat
    simp only [List.flatMap_cons, List.flatMap_nil, List.append_nil] at h
    refine ⟨by simp [Path.pre, Path.post, h, node_flat], ⟨hl, hk⟩, ?_⟩
    obtain ⟨d, h1, h2⟩ := hs.pages
    simp only [List.flatMap_cons, List.flatMap_nil, List.append_nil, List.map_cons, List.map_nil] at h1
    simp only [Path.plug, node_pages]
    refine (List.Perm.append_left _ (List.Perm.cons _ h2)).trans (List.Perm.trans ?_ (List.Perm.append_left _ h1.symm))
    rw [← List.cons_append, ← List.append_assoc, ← List.append_assoc]
    exact List.Perm.append_right _ hf
end BT
end Go.Proofs.YtbkokckpjmbjhaaDoor
namespace Go.Proofs.YtbkokckpjmbjhaaDoor
set_option maxRecDepth 100000
set_option linter.unusedVariables false
namespace Parts
variable {α : Type} (sz : α → Nat)
def size (l : List α) : Nat := (l.map sz).sum
def step (most : Int) (st : List (List α) × List α) (x : α) : List (List α) × List α :=
  if st.2 ≠ [] ∧ most < (size sz st.2 + sz x : Nat) then (st.1 ++ [st.2], [x]) else (st.1, st.2 ++ [x])
def run (most : Int) (st : List (List α) × List α) (l : List α) : List (List α) × List α := l.foldl (step sz most) st
def parts (most : Int) (l : List α) : List (List α) := (run sz most ([], []) l).1 ++ [(run sz most ([], []) l).2]
variable {sz}
theorem size_append (a b : List α) : size sz (a ++ b) = size sz a + size sz b := by unfold size; rw [List.map_append, List.sum_append]
theorem size_one (x : α) : size sz [x] = sz x := by simp [size]
theorem run_append (most : Int) (st : List (List α) × List α) (a b : List α) : run sz most st (a ++ b) = run sz most (run sz most st a) b := by unfold run; rw [List.foldl_append]
theorem run_snoc (most : Int) (st : List (List α) × List α) (a : List α) (x : α) : run sz most st (a ++ [x]) = step sz most (run sz most st a) x := by rw [run_append]; rfl
theorem snoc {P : List α → Prop} (h0 : P []) (h1 : ∀ l x, P l → P (l ++ [x])) (l : List α) : P l := by
  rw [← List.reverse_reverse l]
  induction l.reverse with
  | nil => exact h0
  | cons x t ih => rw [List.reverse_cons]; exact h1 _ _ ih
theorem flatten (most : Int) (l : List α) : (parts sz most l).flatten = l := by
  have : (run sz most ([], []) l).1.flatten ++ (run sz most ([], []) l).2 = l := by
    refine snoc (P := fun l => (run sz most ([], []) l).1.flatten ++ (run sz most ([], []) l).2 = l) rfl (fun l x ih => ?_) l
    rw [run_snoc]
    unfold step
    split
    · simp only [List.flatten_append, List.flatten_cons, List.flatten_nil, List.append_nil]; rw [ih]
    · dsimp only; rw [← List.append_assoc, ih]
  unfold parts
  rw [List.flatten_append]
  simpa using this
/-- No part is empty, if there is anything; and none is longer than the most there may be, and than the longest entry. -/
theorem run_good {M B : Nat} (hB : M ≤ B) (l : List α) (h : ∀ x ∈ l, sz x ≤ B) : (∀ p ∈ (run sz M ([], []) l).1, p ≠ [] ∧ size sz p ≤ B) ∧ size sz (run sz M ([], []) l).2 ≤ B ∧ (l ≠ [] → (run sz M ([], []) l).2 ≠ []) := by
  revert h
  refine snoc (P := fun l => (∀ x ∈ l, sz x ≤ B) → (∀ p ∈ (run sz M ([], []) l).1, p ≠ [] ∧ size sz p ≤ B) ∧ size sz (run sz M ([], []) l).2 ≤ B ∧ (l ≠ [] → (run sz M ([], []) l).2 ≠ [])) (fun _ => ⟨by simp [run], by simp [run, size], fun h => (h rfl).elim⟩) (fun l x ih h => ?_) l
  obtain ⟨h1, h2, h3⟩ := ih (fun y hy => h y (by simp [hy]))
  rw [run_snoc]
  unfold step
  split
  · rename_i hc
    refine ⟨?_, ?_, ?_⟩
    · intro p hp
      rcases List.mem_append.1 hp with hp | hp
      · exact h1 p hp
      · rw [List.mem_singleton] at hp; subst hp; exact ⟨hc.1, h2⟩
    · rw [size_one]; exact h x (by simp)
    · intro _; simp
  · rename_i hc
    refine ⟨h1, ?_, ?_⟩
    · dsimp only
      rw [size_append, size_one]
      by_cases he : (run sz M ([], []) l).2 = []
      · rw [he]; have := h x (by simp); simpa [size] using this
      · have : ¬ ((M : Int) < ((size sz (run sz M ([], []) l).2 + sz x : Nat) : Int)) := fun hh => hc ⟨he, hh⟩
        omega
    · intro _; simp
theorem parts_good {M B : Nat} (hB : M ≤ B) {l : List α} (h : ∀ x ∈ l, sz x ≤ B) : ∀ p ∈ parts sz M l, size sz p ≤ B ∧ (l ≠ [] → p ≠ []) := by
  obtain ⟨h1, h2, h3⟩ := run_good hB l h
  intro p hp
  rcases List.mem_append.1 hp with hp | hp
  · exact ⟨(h1 p hp).2, fun _ => (h1 p hp).1⟩
  · rw [List.mem_singleton] at hp; subst hp; exact ⟨h2, h3⟩
/-- A row that fits a page ends one part at most, and none where it begins one. -/
theorem run_fits {M : Nat} (cl : List (List α)) (cur l : List α) (h : size sz l ≤ M) :
    ((run sz M (cl, cur) l).1 = cl ∧ (run sz M (cl, cur) l).2 = cur ++ l) ∨ (cur ≠ [] ∧ (run sz M (cl, cur) l).1.length = cl.length + 1 ∧ ∃ p, l = p ++ (run sz M (cl, cur) l).2) := by
  revert h
  refine snoc (P := fun l => size sz l ≤ M → ((run sz M (cl, cur) l).1 = cl ∧ (run sz M (cl, cur) l).2 = cur ++ l) ∨ (cur ≠ [] ∧ (run sz M (cl, cur) l).1.length = cl.length + 1 ∧ ∃ p, l = p ++ (run sz M (cl, cur) l).2)) (fun _ => .inl ⟨rfl, by simp [run]⟩) (fun l x ih h => ?_) l
  rw [size_append, size_one] at h
  rw [run_snoc]
  rcases ih (by omega) with ⟨h1, h2⟩ | ⟨h1, h2, p, h3⟩
  · unfold step
    split
    · rename_i hc
      refine .inr ⟨?_, ?_, l, rfl⟩
      · intro he
        obtain ⟨c1, c2⟩ := hc
        rw [h2, he, List.nil_append] at c2
        omega
      · simp [h1]
    · exact .inl ⟨h1, by dsimp only; rw [h2, List.append_assoc]⟩
  · have hs : size sz l = size sz p + size sz (run sz M (cl, cur) l).2 := by
      conv => lhs; rw [h3]
      exact size_append _ _
    unfold step
    rw [if_neg (by intro hc; have := hc.2; omega)]
    exact .inr ⟨h1, h2, p, by dsimp only; rw [← List.append_assoc, ← h3]⟩
/-- As few parts as can be: what lay on so many pages needs no more. -/
theorem fewest {M : Nat} : ∀ (L : List (List α)), (∀ l ∈ L, size sz l ≤ M) → (parts sz M L.flatten).length ≤ L.length ∨ L = [] := by
  intro L h
  cases L with
  | nil => exact .inr rfl
  | cons l0 L =>
    left
    have key : ∀ (L : List (List α)) (cl : List (List α)) (cur : List α), (∀ l ∈ L, size sz l ≤ M) → (run sz M (cl, cur) L.flatten).1.length ≤ cl.length + L.length := by
      intro L
      induction L with
      | nil => intro cl cur _; simp [run]
      | cons l L ih =>
        intro cl cur hL
        rw [List.flatten_cons, run_append]
        have h1 := ih (run sz M (cl, cur) l).1 (run sz M (cl, cur) l).2 (fun x hx => hL x (by simp [hx]))
        rcases run_fits cl cur l (hL l (by simp)) with ⟨e, _⟩ | ⟨_, e, _⟩
        · have e2 : ((run sz (↑M) (cl, cur) l).1, (run sz (↑M) (cl, cur) l).2) = run sz M (cl, cur) l := rfl
          rw [e2, e] at h1
          simp only [List.length_cons]; omega
        · have e2 : ((run sz (↑M) (cl, cur) l).1, (run sz (↑M) (cl, cur) l).2) = run sz M (cl, cur) l := rfl
          rw [e2] at h1
          simp only [List.length_cons]; omega
    unfold parts
    rw [List.length_append, List.flatten_cons, run_append]
    simp only [List.length_cons, List.length_nil]
    have h1 := key L (run sz M ([], []) l0).1 (run sz M ([], []) l0).2 (fun x hx => h x (by simp [hx]))
    rcases run_fits [] [] l0 (h l0 (by simp)) with ⟨e, _⟩ | ⟨e, _⟩
    · have e2 : ((run sz (↑M) ([], []) l0).1, (run sz (↑M) ([], []) l0).2) = run sz M ([], []) l0 := rfl
      rw [e2, e] at h1
      simp only [List.length_nil] at h1
      omega
    · exact (e rfl).elim
/-- Of kids, two bytes each: parts of q, and the rest. -/
theorem run_twos {M q : Nat} (h2 : ∀ x : α, sz x = 2) (hq : q = max 1 (M / 2)) (l : List α) :
    (∀ p ∈ (run sz M ([], []) l).1, p.length = q) ∧ (run sz M ([], []) l).2.length ≤ q ∧ (l ≠ [] → (run sz M ([], []) l).2 ≠ []) ∧ l.length = (run sz M ([], []) l).1.length * q + (run sz M ([], []) l).2.length := by
  have hs : ∀ l : List α, size sz l = 2 * l.length := by
    intro l
    unfold size
    induction l with
    | nil => rfl
    | cons x t ih => rw [List.map_cons, List.sum_cons, ih, h2, List.length_cons]; omega
  refine snoc (P := fun l => (∀ p ∈ (run sz M ([], []) l).1, p.length = q) ∧ (run sz M ([], []) l).2.length ≤ q ∧ (l ≠ [] → (run sz M ([], []) l).2 ≠ []) ∧ l.length = (run sz M ([], []) l).1.length * q + (run sz M ([], []) l).2.length) (by simp [run]) (fun l x ih => ?_) l
  obtain ⟨i1, i2, i3, i4⟩ := ih
  rw [run_snoc]
  unfold step
  rw [hs, h2]
  split
  · rename_i hc
    obtain ⟨c1, c2⟩ := hc
    have hp : 0 < (run sz M ([], []) l).2.length := List.length_pos_iff.2 c1
    have he : (run sz M ([], []) l).2.length = q := by omega
    refine ⟨?_, by simp; omega, by simp, ?_⟩
    · intro p hp
      rcases List.mem_append.1 hp with hp | hp
      · exact i1 p hp
      · rw [List.mem_singleton] at hp; subst hp; exact he
    · simp only [List.length_append, List.length_cons, List.length_nil]
      rw [i4, he, Nat.add_mul, Nat.one_mul]
  · rename_i hc
    have hle : (run sz M ([], []) l).2.length + 1 ≤ q := by
      by_cases he : (run sz M ([], []) l).2 = []
      · rw [he]; simp; omega
      · have : ¬ ((M : Int) < ((2 * (run sz M ([], []) l).2.length + 2 : Nat) : Int)) := fun hh => hc ⟨he, hh⟩
        omega
    refine ⟨i1, by simp; omega, by simp, ?_⟩
    simp only [List.length_append, List.length_cons, List.length_nil]
    omega
/-- Divided evenly, for as few pages as can be: each has two kids or more. -/
theorem even_twos {m : Nat} {l : List α} (h2 : ∀ x : α, sz x = 2) (hn : 2 ≤ l.length) (hn2 : l.length ≤ 10000) (hm : m ≤ 502)
    (he : (parts sz m l).length = (parts sz 502 l).length) (hl : m = 0 ∨ (parts sz ((m - 1 : Nat) : Int) l).length ≠ (parts sz 502 l).length) : ∀ p ∈ parts sz m l, 2 ≤ p.length := by
  have hne : l ≠ [] := by intro h; rw [h] at hn; simp at hn
  have hlen : ∀ M : Nat, (parts sz M l).length = (run sz M ([], []) l).1.length + 1 := fun M => by unfold parts; simp
  obtain ⟨a1, a2, a3, a4⟩ := run_twos (M := 502) (q := 251) h2 rfl l
  obtain ⟨q, hq⟩ : ∃ q, q = max 1 (m / 2) := ⟨_, rfl⟩
  obtain ⟨b1, b2, b3, b4⟩ := run_twos h2 hq l
  have b5 := List.length_pos_iff.2 (b3 hne)
  have a5 := List.length_pos_iff.2 (a3 hne)
  rw [hlen, show ((502 : Int)) = ((502 : Nat) : Int) from rfl, hlen] at he
  obtain ⟨P, hP⟩ : ∃ P, P = (run sz (m : Int) ([], []) l).1.length := ⟨_, rfl⟩
  have hP2 : (run sz ((502 : Nat) : Int) ([], []) l).1.length = P := by omega
  rw [hP2] at a4
  rw [← hP] at b4
  obtain ⟨ra, hra⟩ : ∃ ra, ra = (run sz ((502 : Nat) : Int) ([], []) l).2.length := ⟨_, rfl⟩
  obtain ⟨rb, hrb⟩ : ∃ rb, rb = (run sz (m : Int) ([], []) l).2.length := ⟨_, rfl⟩
  rw [← hra] at a2 a4 a5
  rw [← hrb] at b2 b4 b5
  have hP40 : P ≤ 39 := by omega
  have main : 2 ≤ rb ∧ (P = 0 ∨ 2 ≤ q) := by
    by_cases hP0 : P = 0
    · subst hP0; omega
    · by_cases hq1 : q ≤ 1
      · have : q = 1 := by omega
        subst this; omega
      · -- one byte less: the same parts, were m odd; else parts of q - 1, one more
        rcases hl with hl | hl
        · omega
        · obtain ⟨c1, c2, c3, c4⟩ := run_twos (M := m - 1) (q := max 1 ((m - 1) / 2)) h2 rfl l
          rw [show (502 : Int) = ((502 : Nat) : Int) from rfl, hlen, hlen, hP2] at hl
          have c5 := List.length_pos_iff.2 (c3 hne)
          obtain ⟨rc, hrc⟩ : ∃ rc, rc = (run sz ((m - 1 : Nat) : Int) ([], []) l).2.length := ⟨_, rfl⟩
          obtain ⟨C, hC⟩ : ∃ C, C = (run sz ((m - 1 : Nat) : Int) ([], []) l).1.length := ⟨_, rfl⟩
          rw [← hrc] at c2 c4 c5
          rw [← hC] at c4 hl
          by_cases hodd : m % 2 = 1
          · exfalso
            have : max 1 ((m - 1) / 2) = q := by omega
            rw [this] at c2 c4
            rcases Nat.lt_trichotomy C P with h | h | h
            · have : (C + 1) * q ≤ P * q := Nat.mul_le_mul_right q h
              rw [Nat.add_mul, Nat.one_mul] at this; omega
            · omega
            · have : (P + 1) * q ≤ C * q := Nat.mul_le_mul_right q h
              rw [Nat.add_mul, Nat.one_mul] at this; omega
          · have hq' : max 1 ((m - 1) / 2) = q - 1 := by omega
            rw [hq'] at c2 c4
            have hCP : P < C := by
              rcases Nat.lt_trichotomy C P with h | h | h
              · exfalso
                have h1 : (C + 1) * (q - 1) ≤ P * (q - 1) := Nat.mul_le_mul_right _ h
                have h3 : P * (q - 1) ≤ P * q := Nat.mul_le_mul_left _ (by omega)
                rw [Nat.add_mul, Nat.one_mul] at h1; omega
              · omega
              · exact h
            have h1 : (P + 1) * (q - 1) ≤ C * (q - 1) := Nat.mul_le_mul_right _ hCP
            have h3 : (P + 1) * (q - 1) + (P + 1) = P * q + q := by
              obtain ⟨r, rfl⟩ : ∃ r, q = r + 1 := ⟨q - 1, by omega⟩
              rw [Nat.add_sub_cancel, Nat.add_mul, Nat.mul_add]; omega
            -- l.length ≥ P q + q - P, so what is left is at least q - P
            have h4 : P * 251 ≤ P * q + rb := by omega
            have h5 : 60 ≤ q := by
              by_cases h60 : 60 ≤ q
              · exact h60
              · exfalso
                have : P * q ≤ P * 59 := Nat.mul_le_mul_left _ (by omega)
                omega
            omega
  intro p hp
  rcases List.mem_append.1 hp with hp | hp
  · rw [b1 p hp]
    rcases main.2 with h | h
    · rw [← hP] at *
      have := List.length_pos_iff.2 (List.ne_nil_of_mem hp)
      omega
    · exact h
  · rw [List.mem_singleton] at hp; subst hp; rw [← hrb]; exact main.1
end Parts
end Go.Proofs.YtbkokckpjmbjhaaDoor
