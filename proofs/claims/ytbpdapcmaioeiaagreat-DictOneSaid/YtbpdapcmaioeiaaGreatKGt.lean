/- Gt -/
import Derived.Test.YtbpdapcmaioeiaaGreatKGs
namespace Go.Proofs.YtbpdapcmaioeiaaGreat
set_option maxRecDepth 100000
set_option linter.unusedVariables false
namespace BT
variable {α : Type}
/-- What a node has: entries, or kids. -/
def Item (α : Type) : Nat → Type
 | 0 => α
 | n + 1 => BT α n
def items : {n : Nat} → BT α n → List (Item α n)
 | 0, t => t.2
 | n + 1, t => t.2
def mk : {n : Nat} → Nat → List (Item α n) → BT α n
 | 0, p, l => (p, l)
 | n + 1, p, l => (p, l)
/-- What may be in a node: any entry; a kid that is as it must be. -/
def Item.Ok : {n : Nat} → Item α n → Prop
 | 0, _ => True
 | n + 1, t => Proper (n := n) t
/-- And how many there are to be. -/
def enough : Nat → Nat
 | 0 => 1
 | n + 1 => 2
theorem items_mk : {n : Nat} → (p : Nat) → (l : List (Item α n)) → items (mk p l) = l
 | 0, p, l => rfl
 | n + 1, p, l => rfl
theorem page_mk : {n : Nat} → (p : Nat) → (l : List (Item α n)) → page (mk p l) = p
 | 0, p, l => rfl
 | n + 1, p, l => rfl
theorem mk_items : {n : Nat} → (t : BT α n) → mk t.page (items t) = t
 | 0, t => rfl
 | n + 1, t => rfl
theorem proper_mk : {n : Nat} → (p : Nat) → (l : List (Item α n)) → enough n ≤ l.length → (∀ x ∈ l, x.Ok) → Proper (mk p l)
 | 0, p, l, h, _ => List.length_pos_iff.1 h
 | n + 1, p, l, h, hk => ⟨h, hk⟩
theorem of_proper : {n : Nat} → {t : BT α n} → Proper t → enough n ≤ t.items.length ∧ ∀ x ∈ t.items, x.Ok
 | 0, t, h => ⟨List.length_pos_iff.2 h, fun _ _ => trivial⟩
 | n + 1, t, h => h
theorem Same.iff : {n : Nat} → {a b : List (BT α n)} → (Same a b ↔ a.flatMap items = b.flatMap items)
 | 0, a, b => Iff.rfl
 | n + 1, a, b => Iff.rfl
theorem near_iff : {n : Nat} → {t : BT α n} → (Near t ↔ ∀ x ∈ t.items, x.Ok)
 | 0, t => ⟨fun _ _ _ => trivial, fun _ => trivial⟩
 | n + 1, t => Iff.rfl
/-- The pages of so many parts: the nodes' own, then free ones; and what is free then. -/
def laidPages {n : Nat} (old : List (BT α n)) (f : List Nat) (L : Nat) : List Nat := (old.map page ++ f).take L
def laidFree {n : Nat} (old : List (BT α n)) (f : List Nat) (L : Nat) : List Nat := ((old.map page).drop L).reverse ++ f.drop (L - old.length)
/-- The nodes then. -/
def laid {n : Nat} (old : List (BT α n)) (f : List Nat) (ls : List (List (Item α n))) : List (BT α n) := List.zipWith mk (laidPages old f ls.length) ls
theorem zip_items {n : Nat} : ∀ (ps : List Nat) (ls : List (List (Item α n))), ps.length = ls.length → (List.zipWith mk ps ls).flatMap items = ls.flatten ∧ (List.zipWith mk ps ls).map page = ps
 | [], [], _ => ⟨rfl, rfl⟩
 | p :: ps, l :: ls, h => by
  obtain ⟨h1, h2⟩ := zip_items ps ls (by simpa using h)
  rw [List.zipWith_cons_cons, List.flatMap_cons, List.map_cons, items_mk, page_mk, h1, h2]
  exact ⟨rfl, rfl⟩
 | [], _ :: _, h => by simp at h
 | _ :: _, [], h => by simp at h
theorem zip_mem {n : Nat} : ∀ (ps : List Nat) (ls : List (List (Item α n))), ∀ k ∈ List.zipWith mk ps ls, ∃ p, ∃ l ∈ ls, k = mk p l
 | [], _, k, h => by simp at h
 | _ :: _, [], k, h => by simp at h
 | p :: ps, l :: ls, k, h => by
  rw [List.zipWith_cons_cons] at h
  rcases List.mem_cons.1 h with rfl | h
  ·exact ⟨p, l, by simp, rfl⟩
  ·obtain ⟨p', l', hl, e⟩ := zip_mem ps ls k h
   exact ⟨p', l', by simp [hl], e⟩
/-- Laid anew: the same content; as many as there are parts; its pages out of theirs and the free ones, and all of them accounted for. -/
theorem laid_gives {n : Nat} {old : List (BT α n)} {f : List Nat} {ls : List (List (Item α n))} (hf : ls.length ≤ old.length + f.length) (hc : ls.flatten = old.flatMap items)
 (he : ∀ l ∈ ls, enough n ≤ l.length) (ho : ∀ t ∈ old, Near t) :
 Same old (laid old f ls) ∧ (laid old f ls).length = ls.length ∧ (∀ k ∈ laid old f ls, Proper k) ∧ (laidFree old f ls.length ++ (laid old f ls).map page).Perm (f ++ old.map page) := by
 have hl : (laidPages old f ls.length).length = ls.length := by
  unfold laidPages
  rw [List.length_take, List.length_append, List.length_map]; omega
 obtain ⟨h1, h2⟩ := zip_items _ _ hl
 refine ⟨?_, ?_, ?_, ?_⟩
 ·rw [Same.iff]; exact (hc.symm.trans h1.symm)
 ·unfold laid; rw [List.length_zipWith, hl, Nat.min_self]
 ·intro k hk
  obtain ⟨p, l, hl, rfl⟩ := zip_mem _ _ k hk
  refine proper_mk p l (he l hl) (fun x hx => ?_)
  have hx' : x ∈ old.flatMap items := by rw [← hc]; exact List.mem_flatten.2 ⟨l, hl, hx⟩
  obtain ⟨t, ht, hxt⟩ := List.mem_flatMap.1 hx'
  exact near_iff.1 (ho t ht) x hxt
 ·unfold laid
  rw [h2]
  have e : (laidFree old f ls.length).Perm ((old.map page ++ f).drop ls.length) := by
   unfold laidFree
   rw [List.drop_append, List.length_map]
   exact List.Perm.append_right _ (List.reverse_perm _)
  refine (List.Perm.append_right _ e).trans ?_
  refine List.perm_append_comm.trans ?_
  unfold laidPages
  rw [List.take_append_drop]
  exact List.perm_append_comm
/-- A part of EvenOf's kind is enough: of entries one, of kids two. -/
theorem enough_even {n : Nat} {sz : Item α n → Nat} {m : Nat} {l : List (Item α n)} (h2 : n ≠ 0 → ∀ x, sz x = 2) (hs : ∀ x ∈ l, sz x ≤ 502) (hn : enough n ≤ l.length) (hn2 : l.length ≤ 10000) (hm : m ≤ 502)
 (he : (Parts.parts sz m l).length = (Parts.parts sz 502 l).length) (hl : m = 0 ∨ (Parts.parts sz ((m - 1 : Nat) : Int) l).length ≠ (Parts.parts sz 502 l).length) :
 ∀ p ∈ Parts.parts sz m l, enough n ≤ p.length ∧ Parts.size sz p ≤ 502 := by
 intro p hp
 have hne : l ≠ [] := by
  intro h; rw [h] at hn
  cases n <;> simp [enough] at hn
 obtain ⟨h3, h4⟩ := Parts.parts_good hm hs p hp
 refine ⟨?_, h3⟩
 cases n with
 | zero => exact List.length_pos_iff.2 (h4 hne)
 | succ n => exact Parts.even_twos (h2 (by simp)) hn hn2 hm he hl p hp
end BT
end Go.Proofs.YtbpdapcmaioeiaaGreat
namespace Go.Proofs.YtbpdapcmaioeiaaGreat
set_option maxRecDepth 100000
set_option linter.unusedVariables false
namespace BT
variable {α : Type}
theorem flatMap_items {n : Nat} (old : List (BT α n)) : old.flatMap items = (old.map items).flatten := List.flatMap_def
theorem size_pair {β : Type} {sz : β → Nat} {M : Nat} {l : List β} (h : ∀ x ∈ l, sz x ≤ M) (hs : M < Parts.size sz l) : 2 ≤ l.length := by
 match l with
 | [] => simp [Parts.size] at hs
 | [x] => rw [Parts.size_one] at hs; have := h x (by simp); omega
 | _ :: _ :: _ => simp
theorem enough_le (n : Nat) : enough n ≤ 2 ∧ 1 ≤ enough n := by cases n <;> simp [enough]
/-- With one beside it, there is enough. -/
theorem together_enough {n : Nat} {old : List (BT α n)} {t : BT α n} (ht : t ∈ old) (hp : Proper t) : enough n ≤ (old.flatMap items).length := by
 have h1 := (of_proper hp).1
 obtain ⟨a, b, rfl⟩ := List.append_of_mem ht
 rw [List.flatMap_append, List.flatMap_cons, List.length_append, List.length_append]
 omega
/-- Where the pages of all do not suffice, the changed one has too much for a page: so it has two entries or more. -/
theorem alone_enough {n : Nat} {sz : Item α n → Nat} {old : List (BT α n)} {c : BT α n} (hc : c ∈ old) (ho : ∀ t ∈ old, t = c ∨ Parts.size sz t.items ≤ 502)
 (hs : ∀ x ∈ c.items, sz x ≤ 502) (h : old.length < (Parts.parts sz 502 (old.flatMap items)).length) : 502 < Parts.size sz c.items ∧ 2 ≤ c.items.length ∧ enough n ≤ ([c].flatMap items).length := by
 have hbig : 502 < Parts.size sz c.items := by
  rcases Nat.lt_or_ge 502 (Parts.size sz c.items) with hb | hb
  ·exact hb
  ·exfalso
   have hf := Parts.fewest (sz := sz) (M := 502) (old.map items) (fun l hl => by
    obtain ⟨t, ht, rfl⟩ := List.mem_map.1 hl
    rcases ho t ht with rfl | h
    ·exact hb
    ·exact h)
   rw [← flatMap_items, List.length_map] at hf
   rcases hf with hf | hf
   ·have e : ((502 : Nat) : Int) = 502 := rfl
    rw [e] at hf; omega
   ·rw [List.map_eq_nil_iff] at hf; subst hf; simp at hc
 have h2 := size_pair hs hbig
 have h3 := (enough_le n).1
 refine ⟨hbig, h2, ?_⟩
 rw [List.flatMap_cons, List.flatMap_nil, List.append_nil]; omega
/-- Three side by side, the changed one among them, or all where there are fewer. -/
theorem group {β : Type} (l : List β) (i : Nat) (hi : i < l.length) (h2 : 2 ≤ l.length) {from' to' : Nat} (hf : from' = min (i - 1) (l.length - 3)) (ht : to' = min (from' + 3) l.length) :
 l = l.take from' ++ ((l.drop from').take (to' - from') ++ l.drop to') ∧ from' ≤ i ∧ i < to' ∧ to' ≤ l.length ∧ ((l.drop from').take (to' - from')).length = to' - from' ∧ 2 ≤ to' - from' := by
 have h : from' ≤ i ∧ i < to' ∧ to' ≤ l.length ∧ 2 ≤ to' - from' := by omega
 refine ⟨?_, h.1, h.2.1, h.2.2.1, ?_, h.2.2.2⟩
 ·conv => lhs; rw [← List.take_append_drop from' l, ← List.take_append_drop (to' - from') (l.drop from')]
  rw [List.drop_drop, show from' + (to' - from') = to' by omega]
 ·rw [List.length_take, List.length_drop]; omega
/-- .. and one of these is not the changed one: so it is as it must be. -/
theorem group_other {β : Type} {ka kb : List β} {c : β} {from' to' : Nat} {P : β → Prop} (ha : ∀ k ∈ ka, P k) (hb : ∀ k ∈ kb, P k) (h1 : from' ≤ ka.length) (h2 : ka.length < to') (h3 : to' ≤ (ka ++ c :: kb).length) (h4 : 2 ≤ to' - from') :
 ∃ t ∈ ((ka ++ c :: kb).drop from').take (to' - from'), P t := by
 have hat : ∀ j (hj : j < (ka ++ c :: kb).length), j ≠ ka.length → P (ka ++ c :: kb)[j] := by
  intro j hj hne
  by_cases h : j < ka.length
  ·rw [List.getElem_append_left h]; exact ha _ (List.getElem_mem _)
  ·rw [List.getElem_append_right (by omega)]
   obtain ⟨d, hd⟩ : ∃ d, j - ka.length = d + 1 := ⟨j - ka.length - 1, by omega⟩
   simp only [hd, List.getElem_cons_succ]
   exact hb _ (List.getElem_mem _)
 have hmem : ∀ j (hj : j < (ka ++ c :: kb).length), from' ≤ j → j < to' → (ka ++ c :: kb)[j] ∈ ((ka ++ c :: kb).drop from').take (to' - from') := by
  intro j hj h5 h6
  rw [List.mem_iff_getElem]
  refine ⟨j - from', by rw [List.length_take, List.length_drop]; omega, ?_⟩
  rw [List.getElem_take, List.getElem_drop]
  congr 1; omega
 by_cases h : ka.length = from'
 ·exact ⟨_, hmem (from' + 1) (by omega) (by omega) (by omega), hat _ _ (by omega)⟩
 ·exact ⟨_, hmem from' (by omega) (by omega) (by omega), hat _ _ (by omega)⟩
end BT
end Go.Proofs.YtbpdapcmaioeiaaGreat
namespace Go.Proofs.YtbpdapcmaioeiaaGreat
set_option maxRecDepth 100000
set_option linter.unusedVariables false
namespace BT
variable {α : Type}
/-- Behind a key's way all is above it. -/
theorem Path.post_above {r : α → α → Prop} {le : α → Bool} (hm : ∀ x y, r x y → le y = true → le x = true) :
 {n N : Nat} → (p : Path α n N) → (t : BT α n) → (BT.flat (p.plug t)).Pairwise r → p.Proper → p.On le t → BT.Proper (p.plug t) → ∀ x ∈ p.post, le x = false
 | _, _, .top, t, _, _, _, _ => by simp [Path.post]
 | n, N, .up page ka kb rest, t, hs, hp, ho, hpp => by
  obtain ⟨_, o2, o3⟩ := ho
  obtain ⟨_, _, hkb, hr⟩ := hp
  rw [Path.plug_up] at hs hpp
  intro x hx
  simp only [Path.post] at hx
  rcases List.mem_append.1 hx with hx | hx
  ·obtain ⟨k', hk', hx'⟩ := List.mem_flatMap.1 hx
   obtain ⟨y, l, hy, hf⟩ := first_some k' (hkb k' hk')
   have h3 := o2 k' hk' y hy
   rw [hf] at hx'
   rcases List.mem_cons.1 hx' with rfl | hx'
   ·exact h3
   ·have hsk : (BT.flat k').Pairwise r := by
     have h := hs
     rw [rest.flat, List.pairwise_append, List.pairwise_append, node_flat] at h
     obtain ⟨u, v, huv⟩ := List.append_of_mem hk'
     have h4 := h.2.1.1
     rw [huv, List.flatMap_append, List.flatMap_cons, List.flatMap_append, List.flatMap_cons, List.pairwise_append, List.pairwise_append, List.pairwise_append, List.pairwise_append] at h4
     exact h4.2.1.2.1.2.1.1
    rw [hf] at hsk
    cases hg : le x with
    | false => rfl
    | true => rw [hm _ _ ((List.pairwise_cons.1 hsk).1 x hx') hg] at h3; exact h3
  ·exact rest.post_above hm _ hs hr o3 hpp x hx
/-- An entry put in the place m, in the stead of the one there where it is the same key's. -/
def setAt (same : α → Bool) (e : α) (l : List α) (m : Nat) : List α := l.take m ++ [e] ++ l.drop (if (l[m]?).any same then m + 1 else m)
/-- In a list that is cut there: what is below the key, the entry, what is above. -/
theorem setAt_eq {r : α → α → Prop} {ge same : α → Bool} {e : α} {l : List α} {m : Nat} (hs : l.Pairwise r) (hc : Cut ge (l.take m) (l.drop m)) (hsg : ∀ x, same x = true → ge x = true)
 (hr : ∀ x y, r x y → same x = true → same y = false) (h2 : ∀ x y, r x y → ge x = true → same y = false) :
 setAt same e l m = l.filter (fun x => !ge x) ++ [e] ++ l.filter (fun x => ge x && !same x) := by
 have ht : l.filter (fun x => !ge x) = l.take m := by
  have := hc.eq.1; rw [List.take_append_drop] at this; exact this.symm
 have hd : l.filter ge = l.drop m := by
  have := hc.eq.2; rw [List.take_append_drop] at this; exact this.symm
 have hf : l.filter (fun x => ge x && !same x) = (l.drop m).filter (fun x => !same x) := by
  rw [← hd, List.filter_filter]
  congr 1; funext x; rw [Bool.and_comm]
 unfold setAt
 rw [ht, hf]
 congr 1
 by_cases hm : m < l.length
 ·rw [List.getElem?_eq_getElem hm, Option.any_some]
  have hp : (l.drop m).Pairwise r := hs.sublist (List.drop_sublist _ _)
  rw [List.drop_eq_getElem_cons hm] at hp ⊢
  have hmem : l[m] ∈ l.drop m := by rw [List.mem_iff_getElem]; exact ⟨0, by rw [List.length_drop]; omega, by simp⟩
  have h3 : (l.drop (m + 1)).filter (fun x => !same x) = l.drop (m + 1) := by
   refine List.filter_eq_self.2 (fun x hx => ?_)
   rw [h2 _ x ((List.pairwise_cons.1 hp).1 x hx) (hc.2 _ hmem)]; rfl
  rw [List.filter_cons, h3]
  cases same l[m] with
  | true => simp
  | false => rw [if_neg (by simp), List.drop_eq_getElem_cons hm]; simp
 ·rw [List.getElem?_eq_none (by omega), Option.any_none]
  simp [List.drop_eq_nil_of_le (show l.length ≤ m by omega)]
/-- At the end of a way: set in the leaf is set in all. -/
theorem setAt_in {same : α → Bool} {e : α} (pre l post : List α) (m : Nat) (hm : m ≤ l.length) (hp : ∀ x ∈ post, same x = false) :
 pre ++ (setAt same e l m ++ post) = setAt same e (pre ++ (l ++ post)) (pre.length + m) := by
 unfold setAt
 have e1 : (pre ++ (l ++ post)).take (pre.length + m) = pre ++ l.take m := by
  rw [List.take_append, List.take_of_length_le (by omega), show pre.length + m - pre.length = m by omega, List.take_append_of_le_length hm]
 have e2 : ∀ k, (pre ++ (l ++ post)).drop (pre.length + k) = (l ++ post).drop k := by
  intro k
  rw [List.drop_append, List.drop_eq_nil_of_le (by omega), List.nil_append, show pre.length + k - pre.length = k by omega]
 have e3 : (pre ++ (l ++ post))[pre.length + m]? = (l ++ post)[m]? := by
  rw [List.getElem?_append_right (by omega), show pre.length + m - pre.length = m by omega]
 rw [e1, e3]
 by_cases h : m < l.length
 ·rw [List.getElem?_append_left h]
  by_cases ha : (l[m]?).any same = true
  ·rw [if_pos ha, if_pos ha, show pre.length + m + 1 = pre.length + (m + 1) by omega, e2, List.drop_append_of_le_length (by omega)]
   simp only [List.append_assoc]
  ·rw [if_neg ha, if_neg ha, e2, List.drop_append_of_le_length (by omega)]
   simp only [List.append_assoc]
 ·have hl : m = l.length := by omega
  have ha : ((l ++ post)[m]?).any same = false := by
   rw [List.getElem?_append_right (by omega), hl, Nat.sub_self]
   cases post with
   | nil => rfl
   | cons y post => simp [hp y (by simp)]
  rw [ha, List.getElem?_eq_none (show l.length ≤ m by omega), Option.any_none]
  simp only [Bool.false_eq_true, if_false]
  rw [e2, List.drop_append_of_le_length hm]
  simp only [List.append_assoc]
/-- A tree of level n has 2 ^ (n + 1) pages or one fewer: so none is higher than a disk allows. -/
theorem pages_many : {n : Nat} → (t : BT α n) → Proper t → 2 ^ (n + 1) ≤ (pages t).length + 1
 | 0, t, _ => by simp [pages]
 | n + 1, t, h => by
  obtain ⟨h1, h2⟩ := h
  have e : pages t = t.1 :: (kids t).flatMap pages := rfl
  have hk : ∀ k ∈ kids t, 2 ^ (n + 1) ≤ (pages k).length + 1 := fun k hk => pages_many k (h2 k hk)
  have h1' : 2 ≤ (kids t).length := h1
  rw [e, List.length_cons]
  match hkk : kids t with
  | [] => rw [hkk] at h1'; simp at h1'
  | [_] => rw [hkk] at h1'; simp at h1'
  | a :: b :: l =>
   rw [hkk] at hk
   have ha := hk a (by simp)
   have hb := hk b (by simp)
   simp only [List.flatMap_cons, List.length_append]
   rw [Nat.pow_succ]
   omega
theorem low {n : Nat} (t : BT α n) (h : Root t) (hp : (pages t).length ≤ 4000) : n ≤ 10 := by
 cases n with
 | zero => omega
 | succ n =>
  have h1 := pages_many t h
  rcases Nat.lt_or_ge 10 (n + 1) with hn | hn
  ·exfalso
   have : 2 ^ 12 ≤ 2 ^ (n + 1 + 1) := Nat.pow_le_pow_right (by omega) (by omega)
   omega
  ·exact hn
end BT
end Go.Proofs.YtbpdapcmaioeiaaGreat
namespace Go.Proofs.YtbpdapcmaioeiaaGreat
set_option maxRecDepth 100000
set_option linter.unusedVariables false
namespace BT
variable {α : Type}
end BT
end Go.Proofs.YtbpdapcmaioeiaaGreat
namespace Go.Proofs.YtbpdapcmaioeiaaGreat
set_option maxRecDepth 100000
set_option linter.unusedVariables false
namespace BT
variable {α : Type}
theorem Path.only_top : (p : Path α 0 0) → p = .top
 | .top => rfl
 | .up page ka kb rest => by have := (Path.up page ka kb rest).levels; simp only [Path.len] at this; omega
theorem Path.root_proper {N : Nat} (p : Path α 0 N) (f : BT α 0) (h : Root (p.plug f)) : p.Proper := by
 cases N with
 | zero => rw [p.only_top]; trivial
 | succ N => exact (p.of_proper f h).1
theorem Path.swap {n N : Nat} (p : Path α n N) {c f : BT α n} (h : c.pages = f.pages) : (p.plug c).pages.Perm (p.plug f).pages := by
 have := plug_perm p (t := f) (t' := c) (f := []) (f' := []) (by rw [h])
 simpa using this
/-- The cut at the leaf is the cut of all, and nothing behind the leaf is the key's. -/
theorem root_cut {r : α → α → Prop} {ge le : α → Bool} (hm : ∀ x y, r x y → ge x = true → ge y = true) (h1 : ∀ x y, r x y → le y = true → ge x = false) (h2 : ∀ x, le x = false → ge x = true)
 (h3 : ∀ x y, r x y → le y = true → le x = true) {N : Nat} {p : Path α 0 N} {f : BT α 0} (hs : (p.plug f).flat.Pairwise r) (hR : Root (p.plug f)) (ho : p.On le f) {m : Nat} (hc : Cut ge (f.flat.take m) (f.flat.drop m)) :
 Cut ge (p.pre ++ f.flat.take m) (f.flat.drop m ++ p.post) ∧ ∀ x ∈ p.post, le x = false := by
 cases N with
 | zero =>
  have e := p.only_top
  subst e
  simp only [Path.pre, Path.post, List.nil_append, List.append_nil]
  exact ⟨hc, by simp⟩
 | succ N => exact ⟨(Path.cut hm h1 h2 p f hs hR ho (List.take_append_drop m f.flat).symm hc).2, Path.post_above h3 p f hs (p.of_proper f hR).1 ho hR⟩
/-- Set: all below the key, the entry, all above; still a tree; no page lost. -/
theorem set_whole {r : α → α → Prop} {ge le same : α → Bool} {e : α} (hm : ∀ x y, r x y → ge x = true → ge y = true) (h1 : ∀ x y, r x y → le y = true → ge x = false) (h2 : ∀ x, le x = false → ge x = true)
 (h3 : ∀ x y, r x y → le y = true → le x = true) (h4 : ∀ x y, r x y → ge x = true → same y = false) (h5 : ∀ x, le x = false → same x = false) (h6 : ∀ x, same x = true → ge x = true) (h7 : ∀ x y, r x y → same x = true → same y = false)
 {N M : Nat} {p : Path α 0 N} {f : BT α 0} (hs : (p.plug f).flat.Pairwise r) (hR : Root (p.plug f)) (ho : p.On le f) {m : Nat} (hml : m ≤ f.flat.length) (hc : Cut ge (f.flat.take m) (f.flat.drop m))
 {t : BT α M} {fr fr' : List Nat} (hst : Settled p (leaf f.page (setAt same e f.flat m)) fr M t fr') :
 t.flat = (p.plug f).flat.filter (fun x => !ge x) ++ [e] ++ (p.plug f).flat.filter (fun x => ge x && !same x) ∧ Root t ∧ (fr' ++ t.pages).Perm (fr ++ (p.plug f).pages) := by
 obtain ⟨c1, c2⟩ := root_cut hm h1 h2 h3 hs hR ho hc
 obtain ⟨g1, g2, g3⟩ := hst.gives (p.root_proper f hR)
 refine ⟨?_, g2, g3.trans (List.Perm.append_left _ (p.swap rfl))⟩
 rw [g1, leaf_flat, setAt_in _ _ _ _ hml (fun x hx => h5 x (c2 x hx)), ← p.flat f]
 refine setAt_eq (r := r) hs ?_ h6 h7 h4
 have et : (p.plug f).flat.take (p.pre.length + m) = p.pre ++ f.flat.take m := by
  rw [p.flat f, List.take_append, List.take_of_length_le (show p.pre.length ≤ p.pre.length + m by omega), show p.pre.length + m - p.pre.length = m by omega, List.take_append_of_le_length hml]
 have ed : (p.plug f).flat.drop (p.pre.length + m) = f.flat.drop m ++ p.post := by
  rw [p.flat f, List.drop_append, List.drop_eq_nil_of_le (show p.pre.length ≤ p.pre.length + m by omega), List.nil_append, show p.pre.length + m - p.pre.length = m by omega, List.drop_append_of_le_length hml]
 rw [et, ed]
 exact c1
/-- Whether the key is there, is told by the leaf. -/
theorem has_whole {r : α → α → Prop} {ge le same : α → Bool} (hm : ∀ x y, r x y → ge x = true → ge y = true) (h1 : ∀ x y, r x y → le y = true → ge x = false) (h2 : ∀ x, le x = false → ge x = true)
 (h3 : ∀ x y, r x y → le y = true → le x = true) (h4 : ∀ x y, r x y → ge x = true → same y = false) (h5 : ∀ x, le x = false → same x = false) (h6 : ∀ x, same x = true → ge x = true)
 {N : Nat} {p : Path α 0 N} {f : BT α 0} (hs : (p.plug f).flat.Pairwise r) (hR : Root (p.plug f)) (ho : p.On le f) {m : Nat} (hc : Cut ge (f.flat.take m) (f.flat.drop m)) :
 (p.plug f).flat.find? same = (f.flat[m]?).filter same := by
 obtain ⟨c1, c2⟩ := root_cut hm h1 h2 h3 hs hR ho hc
 have e : (p.plug f).flat = (p.pre ++ f.flat.take m) ++ (f.flat.drop m ++ p.post) := by
  rw [p.flat f, List.append_assoc, ← List.append_assoc (f.flat.take m), List.take_append_drop]
 rw [e, List.find?_append]
 have ha : (p.pre ++ f.flat.take m).find? same = none := by
  rw [List.find?_eq_none]
  intro x hx hsx
  have := h6 x hsx
  rw [c1.1 x hx] at this; simp at this
 have hb : p.post.find? same = none := by
  rw [List.find?_eq_none]
  intro x hx
  rw [h5 x (c2 x hx)]; simp
 rw [ha, Option.none_or, List.find?_append, hb, Option.or_none]
 have hp : (f.flat.drop m).Pairwise r := by
  have h := hs
  rw [p.flat f, List.pairwise_append, List.pairwise_append] at h
  exact h.2.1.1.sublist (List.drop_sublist _ _)
 by_cases hml : m < f.flat.length
 ·rw [List.drop_eq_getElem_cons hml] at hp
  rw [List.drop_eq_getElem_cons hml, List.getElem?_eq_getElem hml, List.find?_cons]
  have hge : ge f.flat[m] = true := hc.2 _ (by rw [List.mem_iff_getElem]; exact ⟨0, by rw [List.length_drop]; omega, by simp⟩)
  cases hsm : same f.flat[m] with
  | true => simp [Option.filter, hsm]
  | false =>
   simp only [Option.filter, hsm]
   rw [List.find?_eq_none.2]
   ·simp
   ·intro x hx
    rw [h4 _ x ((List.pairwise_cons.1 hp).1 x hx) hge]; simp
 ·rw [List.drop_eq_nil_of_le (by omega), List.getElem?_eq_none (by omega)]; rfl
end BT
end Go.Proofs.YtbpdapcmaioeiaaGreat
namespace Go.Proofs.YtbpdapcmaioeiaaGreat
set_option maxRecDepth 100000
set_option linter.unusedVariables false
namespace BT
variable {α : Type}
/-- Divided evenly: for a number that makes as few parts as a whole page does, the least. -/
def Even {β : Type} (sz : β → Nat) (l : List β) (ls : List (List β)) : Prop :=
 ∃ m : Nat, m ≤ 502 ∧ ls = Parts.parts sz m l ∧ ls.length = (Parts.parts sz 502 l).length ∧ (m = 0 ∨ (Parts.parts sz ((m - 1 : Nat) : Int) l).length ≠ (Parts.parts sz 502 l).length)
theorem size_mem {β : Type} {sz : β → Nat} {l : List β} {x : β} (h : x ∈ l) : sz x ≤ Parts.size sz l := by
 obtain ⟨a, b, rfl⟩ := List.append_of_mem h
 rw [Parts.size_append, ← List.singleton_append, Parts.size_append, Parts.size_one]; omega
/-- Nodes side by side laid anew: the same content, each as it must be, none too long, no page lost. -/
theorem old_gives {n : Nat} {sz : Item α n → Nat} (h2 : n ≠ 0 → ∀ x, sz x = 2) {la old lb : List (BT α n)} {c : BT α n} {f : List Nat} {ls : List (List (Item α n))}
 (hla : ∀ k ∈ la, Proper k) (hlb : ∀ k ∈ lb, Proper k) (ho : ∀ t ∈ old, t = c ∨ (Proper t ∧ Parts.size sz t.items ≤ 502)) (hc : Near c) (hci : ∀ x ∈ c.items, sz x ≤ 502)
 (hen : enough n ≤ (old.flatMap items).length) (hn : (old.flatMap items).length ≤ 10000) (hls : Even sz (old.flatMap items) ls) (hf : ls.length ≤ old.length + f.length) :
 Same old (laid old f ls) ∧ (laid old f ls).length = ls.length ∧ (∀ k ∈ la ++ (laid old f ls ++ lb), Proper k) ∧ (laidFree old f ls.length ++ (laid old f ls).map page).Perm (f ++ old.map page) ∧ ∀ l ∈ ls, enough n ≤ l.length ∧ Parts.size sz l ≤ 502 := by
 obtain ⟨m, hm, rfl, he, hl⟩ := hls
 have hs : ∀ x ∈ old.flatMap items, sz x ≤ 502 := by
  intro x hx
  obtain ⟨t, ht, hxt⟩ := List.mem_flatMap.1 hx
  rcases ho t ht with rfl | ⟨_, h⟩
  ·exact hci x hxt
  ·exact Nat.le_trans (size_mem hxt) h
 have hp := enough_even h2 hs hen hn hm he hl
 have hN : ∀ t ∈ old, Near t := by
  intro t ht
  rcases ho t ht with rfl | ⟨h, _⟩
  ·exact hc
  ·exact near_iff.2 (of_proper h).2
 have hfl : (Parts.parts sz m (old.flatMap items)).flatten = old.flatMap items := Parts.flatten _ _
 obtain ⟨g1, g2, g3, g4⟩ := laid_gives hf hfl (fun l hl => (hp l hl).1) hN
 refine ⟨g1, g2, ?_, g4, hp⟩
 intro k hk
 rcases List.mem_append.1 hk with hk | hk
 ·exact hla k hk
 ·rcases List.mem_append.1 hk with hk | hk
  ·exact g3 k hk
  ·exact hlb k hk
/-- The group about the changed one: what is ahead of it, in it, behind it. -/
theorem group_parts {β : Type} {ka kb : List β} {c : β} {from' to' : Nat} (h1 : from' ≤ ka.length) (h2 : ka.length < to') :
 (ka ++ c :: kb).take from' = ka.take from' ∧ (ka ++ c :: kb).drop to' = kb.drop (to' - (ka.length + 1)) ∧ c ∈ ((ka ++ c :: kb).drop from').take (to' - from') := by
 refine ⟨List.take_append_of_le_length h1, ?_, ?_⟩
 ·rw [List.drop_append, List.drop_eq_nil_of_le (by omega), List.nil_append]
  obtain ⟨d, hd⟩ : ∃ d, to' - ka.length = d + 1 := ⟨to' - ka.length - 1, by omega⟩
  rw [hd, List.drop_succ_cons]; congr 1; omega
 ·rw [List.mem_iff_getElem]
  refine ⟨ka.length - from', by rw [List.length_take, List.length_drop, List.length_append, List.length_cons]; omega, ?_⟩
  rw [List.getElem_take, List.getElem_drop, List.getElem_append_right (by omega)]
  simp only [show from' + (ka.length - from') - ka.length = 0 by omega, List.getElem_cons_zero]
/-- Which nodes together tells: the group, or the changed one alone; either way what old_gives asks for. -/
theorem together_gives {n : Nat} {sz : Item α n → Nat} {ka kb : List (BT α n)} {c : BT α n} (h1 : 1 ≤ ka.length + kb.length) (hk : ∀ k ∈ ka ++ kb, Proper k ∧ Parts.size sz k.items ≤ 502)
 (hci : ∀ x ∈ c.items, sz x ≤ 502) {from' to' : Nat} (hf : from' = min (ka.length - 1) ((ka ++ c :: kb).length - 3)) (ht : to' = min (from' + 3) (ka ++ c :: kb).length)
 {old0 la old lb : List (BT α n)} (h0 : old0 = ((ka ++ c :: kb).drop from').take (to' - from'))
 (hold : (old = old0 ∧ la = ka.take from' ∧ lb = kb.drop (to' - (ka.length + 1)) ∧ (Parts.parts sz 502 (old0.flatMap items)).length ≤ old0.length) ∨ (old = [c] ∧ la = ka ∧ lb = kb ∧ old0.length < (Parts.parts sz 502 (old0.flatMap items)).length)) :
 ka ++ c :: kb = la ++ (old ++ lb) ∧ (∀ k ∈ la, Proper k) ∧ (∀ k ∈ lb, Proper k) ∧ (∀ t ∈ old, t = c ∨ (Proper t ∧ Parts.size sz t.items ≤ 502)) ∧ enough n ≤ (old.flatMap items).length := by
 have hl : (ka ++ c :: kb).length = ka.length + kb.length + 1 := by rw [List.length_append, List.length_cons]; omega
 obtain ⟨g1, g2, g3, g4, g5, g6⟩ := group (ka ++ c :: kb) ka.length (by omega) (by omega) hf ht
 obtain ⟨q1, q2, q3⟩ := group_parts (kb := kb) (c := c) g2 g3
 have hm : ∀ t ∈ old0, t = c ∨ (Proper t ∧ Parts.size sz t.items ≤ 502) := by
  intro t ht'
  rw [h0] at ht'
  have := List.mem_of_mem_drop (List.mem_of_mem_take ht')
  rcases List.mem_append.1 this with h | h
  ·exact .inr (hk t (List.mem_append_left _ h))
  ·rcases List.mem_cons.1 h with h | h
   ·exact .inl h
   ·exact .inr (hk t (List.mem_append_right _ h))
 rcases hold with ⟨rfl, rfl, rfl, hle⟩ | ⟨rfl, rfl, rfl, hlt⟩
 ·refine ⟨?_, fun k h => (hk k (List.mem_append_left _ (List.mem_of_mem_take h))).1, fun k h => (hk k (List.mem_append_right _ (List.mem_of_mem_drop h))).1, hm, ?_⟩
  ·rw [h0, ← q1, ← q2]; exact g1
  ·obtain ⟨t, ht', hp⟩ := group_other (P := Proper) (c := c) (fun k h => (hk k (List.mem_append_left _ h)).1) (fun k h => (hk k (List.mem_append_right _ h)).1) g2 g3 g4 g6
   rw [← h0] at ht'
   exact together_enough ht' hp
 ·refine ⟨rfl, fun k h => (hk k (List.mem_append_left _ h)).1, fun k h => (hk k (List.mem_append_right _ h)).1, fun t h => .inl (List.mem_singleton.1 h), ?_⟩
  refine (alone_enough (sz := sz) (old := old0) (c := c) ?_ ?_ hci hlt).2.2
  ·rw [h0]; exact q3
  ·intro t ht'
   rcases hm t ht' with h | h
   ·exact .inl h
   ·exact .inr h.2
end BT
end Go.Proofs.YtbpdapcmaioeiaaGreat
namespace Go.Proofs.YtbpdapcmaioeiaaGreat
set_option maxRecDepth 100000
set_option linter.unusedVariables false
namespace BT
variable {α : Type}
/-- A tree of some level. -/
structure Some' (α : Type) where
 n : Nat
 t : BT α n
def Some'.pages (s : Some' α) : List Nat := BT.pages s.t
end BT
end Go.Proofs.YtbpdapcmaioeiaaGreat
