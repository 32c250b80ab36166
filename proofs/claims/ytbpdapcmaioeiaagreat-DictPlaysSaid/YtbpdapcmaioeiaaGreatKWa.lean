/- Wa -/
import Derived.Test.YtbpdapcmaioeiaaGreatKHg
namespace Go.Proofs.YtbpdapcmaioeiaaGreat
open Go.RowKit Go.Maps
set_option maxRecDepth 100000
set_option linter.unusedVariables false
namespace BT
variable {α : Type}
theorem kids_count {n : Nat} (h : ∀ k : BT α n, Proper k → (pages k).length + 1 ≤ 2 * (flat k).length) :
 ∀ l : List (BT α n), (∀ k ∈ l, Proper k) → (l.flatMap pages).length + l.length ≤ 2 * (l.flatMap flat).length
 | [], _ => by simp
 | k :: t, hl => by
  have h1 := h k (hl k (by simp))
  have h2 := kids_count h t (fun x hx => hl x (by simp [hx]))
  simp only [List.flatMap_cons, List.length_append, List.length_cons]
  omega
theorem count : {n : Nat} → (t : BT α n) → Proper t → (pages t).length + 1 ≤ 2 * (flat t).length
 | 0, t, h => by
  have : 0 < t.2.length := List.length_pos_iff.2 h
  simp [pages, flat]; omega
 | n + 1, t, h => by
  have h2 := kids_count (fun k hk => count k hk) t.2 h.2
  have h1 := h.1
  have e1 : pages (n := n + 1) t = t.1 :: t.2.flatMap pages := rfl
  have e2 : flat (n := n + 1) t = t.2.flatMap flat := rfl
  rw [e1, e2, List.length_cons]
  omega
/-- P502: a tree of n keys has at most 1 + 2 n pages. -/
theorem count_root : {n : Nat} → (t : BT α n) → Root t → (pages t).length ≤ 1 + 2 * (flat t).length
 | 0, t, _ => by simp [pages]
 | n + 1, t, h => by have := count t h; omega
end BT
/-- Trees side by side on the pages H; free pages and theirs are tot. -/
structure Side (N tot : Nat) (H : Lg) (ss : List (BT.Some' Ent)) : Prop where
 stored : ∀ s ∈ ss, Stored N H s.t
 root : ∀ s ∈ ss, BT.Root s.t
 sorted : ∀ s ∈ ss, s.t.flat.Pairwise rK
 nodup : (H.free ++ ss.flatMap BT.Some'.pages).Nodup
 range : ∀ q ∈ H.free ++ ss.flatMap BT.Some'.pages, 1 ≤ q ∧ q < N
 most : N ≤ 2000
 all : H.free.length + (ss.flatMap BT.Some'.pages).length = tot
theorem pages_sub {ss : List (BT.Some' Ent)} {s : BT.Some' Ent} (hs : s ∈ ss) : s.pages.Sublist (ss.flatMap BT.Some'.pages) := by
 rw [List.flatMap_def]
 exact List.sublist_flatten_of_mem (List.mem_map_of_mem hs)
theorem Side.at {N tot : Nat} {H : Lg} {ss : List (BT.Some' Ent)} (h : Side N tot H ss) {s : BT.Some' Ent} (hs : s ∈ ss) : InLg N H s.t :=
 ⟨h.stored s hs, h.root s hs, h.sorted s hs, h.nodup.sublist ((List.Sublist.refl _).append (pages_sub hs)), fun q hq => h.range q (((List.Sublist.refl _).append (pages_sub hs)).subset hq), h.most⟩
theorem Side.chg {N tot : Nat} {H H' : Lg} {a b : List (BT.Some' Ent)} {s : BT.Some' Ent} (h : Side N tot H (a ++ s :: b)) {m : Nat} {t' : BT Ent m} {l : List Ent} (hc : Changed N H H' s.t t' l) : Side N tot H' (a ++ ⟨m, t'⟩ :: b) := by
 have hp : (H'.free ++ (a ++ (⟨m, t'⟩ : BT.Some' Ent) :: b).flatMap BT.Some'.pages).Perm (H.free ++ (a ++ s :: b).flatMap BT.Some'.pages) := by
  simp only [List.flatMap_append, List.flatMap_cons]
  have e1 : ∀ (x y A B : List Nat), (x ++ (A ++ (y ++ B))).Perm ((x ++ y) ++ (A ++ B)) := fun x y A B => by
   rw [List.append_assoc]
   refine List.Perm.append_left _ ?_
   rw [← List.append_assoc, ← List.append_assoc]
   exact List.Perm.append_right _ List.perm_append_comm
  refine (e1 _ _ _ _).trans (List.Perm.trans ?_ (e1 _ _ _ _).symm)
  exact List.Perm.append_right _ hc.perm
 have hnd := h.nodup
 have hoth : ∀ u, u ∈ a ∨ u ∈ b → Stored N H' u.t := fun u hu => by
  have hus : u ∈ a ++ s :: b := by rcases hu with hu | hu <;> simp [hu]
  refine (h.stored u hus).frame (fun q hq => ?_)
  have hqf : q ∉ H.free := ((h.stored u hus).used q hq).2.2
  have hqs : q ∉ s.t.pages := fun hqs => by
   have hnd2 := (List.nodup_append.1 hnd).2.1
   rw [List.flatMap_append, List.flatMap_cons] at hnd2
   rcases hu with hu | hu
   ·exact (List.nodup_append.1 hnd2).2.2 q (List.mem_flatMap.2 ⟨u, hu, hq⟩) q (List.mem_append_left _ hqs) rfl
   ·exact (List.nodup_append.1 (List.nodup_append.1 hnd2).2.1).2.2 q hqs q (List.mem_flatMap.2 ⟨u, hu, hq⟩) rfl
  refine ⟨hc.framed.2 q hqf hqs, fun hq' => ?_⟩
  rcases List.mem_append.1 (hc.perm.mem_iff.1 (List.mem_append_left _ hq')) with e | e
  ·exact hqf e
  ·exact hqs e
 refine ⟨fun u hu => ?_, fun u hu => ?_, fun u hu => ?_, hp.nodup_iff.2 hnd, fun q hq => h.range q (hp.mem_iff.1 hq), h.most, ?_⟩
 ·rcases List.mem_append.1 hu with hu | hu
  ·exact hoth u (.inl hu)
  ·rcases List.mem_cons.1 hu with rfl | hu
   ·exact hc.ok.stored
   ·exact hoth u (.inr hu)
 ·rcases List.mem_append.1 hu with hu | hu
  ·exact h.root u (by simp [hu])
  ·rcases List.mem_cons.1 hu with rfl | hu
   ·exact hc.ok.root
   ·exact h.root u (by simp [hu])
 ·rcases List.mem_append.1 hu with hu | hu
  ·exact h.sorted u (by simp [hu])
  ·rcases List.mem_cons.1 hu with rfl | hu
   ·exact hc.ok.sorted
   ·exact h.sorted u (by simp [hu])
 ·have := hp.length_eq
  rw [List.length_append, List.length_append] at this
  rw [this]; exact h.all
/-- The pages when an empty leaf has come to be. -/
def leafLg (H : Lg) (a : Nat) (rest : List Nat) : Lg := { H with free := rest, page := upd H.page a (page (enc 0 [])) }
theorem Side.new {N tot : Nat} {H : Lg} {ss : List (BT.Some' Ent)} (h : Side N tot H ss) {a : Nat} {rest : List Nat} (hf : H.free = a :: rest) : Side N tot (leafLg H a rest) (ss ++ [⟨0, BT.leaf a []⟩]) := by
 have hnd := h.nodup
 have hr := h.range
 have hall := h.all
 rw [hf] at hnd hr hall
 have hpl : ((⟨0, BT.leaf a []⟩ : BT.Some' Ent)).pages = [a] := rfl
 have hp : (rest ++ (ss ++ [(⟨0, BT.leaf a []⟩ : BT.Some' Ent)]).flatMap BT.Some'.pages).Perm (a :: rest ++ ss.flatMap BT.Some'.pages) := by
  simp only [List.flatMap_append, List.flatMap_cons, List.flatMap_nil, List.append_nil, hpl]
  rw [← List.append_assoc]
  exact List.perm_append_comm
 have ha : a ∉ rest ++ ss.flatMap BT.Some'.pages := (List.nodup_cons.1 hnd).1
 refine ⟨fun u hu => ?_, fun u hu => ?_, fun u hu => ?_, hp.nodup_iff.2 hnd, fun q hq => hr q (hp.mem_iff.1 hq), h.most, ?_⟩
 ·rcases List.mem_append.1 hu with hu | hu
  ·refine (h.stored u hu).frame (fun q hq => ⟨?_, fun hq' => ?_⟩)
   ·show upd H.page a _ q = _
    unfold upd
    rw [if_neg (fun e => ha (List.mem_append_right _ (List.mem_flatMap.2 ⟨u, hu, by rw [← e]; exact hq⟩)))]
   ·exact ((h.stored u hu).used q hq).2.2 (by rw [hf]; exact List.mem_cons_of_mem _ hq')
  ·obtain rfl := List.mem_singleton.1 hu
   have hra := hr a (by simp)
   refine node_empty (N := N) (i := ((a : Nat) : Int)) ⟨by omega, by omega, ?_⟩ ?_
   ·show a ∉ rest
    exact fun e => ha (List.mem_append_left _ e)
   ·show upd H.page a _ a = _
    unfold upd; rw [if_pos rfl]
 ·rcases List.mem_append.1 hu with hu | hu
  ·exact h.root u hu
  ·obtain rfl := List.mem_singleton.1 hu
   trivial
 ·rcases List.mem_append.1 hu with hu | hu
  ·exact h.sorted u hu
  ·obtain rfl := List.mem_singleton.1 hu
   exact List.Pairwise.nil
 ·have := hp.length_eq
  rw [List.length_append, List.length_append] at this
  show rest.length + _ = tot
  rw [this]; exact hall
theorem Side.nil {N : Nat} (hN : N ≤ 2000) : Side N (N - 1) (Lg.new N) [] := by
 have e : (Lg.new N).free = List.range' 1 (N - 1) := rfl
 refine ⟨fun s hs => (by cases hs), fun s hs => (by cases hs), fun s hs => (by cases hs), ?_, fun q hq => ?_, hN, ?_⟩
 ·rw [e]; simp [List.nodup_range']
 ·rw [e] at hq
  simp only [List.flatMap_nil, List.append_nil, List.mem_range'_1] at hq
  omega
 ·rw [e]; simp
theorem Side.room {N tot : Nat} {H : Lg} : ∀ {ss : List (BT.Some' Ent)}, (∀ s ∈ ss, BT.Root s.t) → (ss.flatMap BT.Some'.pages).length ≤ ss.length + 2 * (ss.map (fun s => s.t.flat.length)).sum
 | [], _ => by simp
 | s :: ss, h => by
  have h1 := Side.room (N := N) (tot := tot) (H := H) (ss := ss) (fun u hu => h u (List.mem_cons_of_mem _ hu))
  have h2 := BT.count_root s.t (h s (List.mem_cons_self ..))
  have h3 : s.pages.length = s.t.pages.length := rfl
  rw [List.flatMap_cons, List.length_append, List.length_cons, List.map_cons, List.sum_cons]
  omega
theorem Side.free {N tot : Nat} {H : Lg} {ss : List (BT.Some' Ent)} (h : Side N tot H ss) : tot ≤ H.free.length + ss.length + 2 * (ss.map (fun s => s.t.flat.length)).sum := by
 have h1 := Side.room (N := N) (tot := tot) (H := H) h.root
 have h2 := h.all
 omega
theorem split_sorted (k : ByteArray) : ∀ {l : List Ent}, l.Pairwise rK → l.filter (fun x => !gK k x) ++ l.filter (gK k) = l
 | [], _ => rfl
 | x :: l, h => by
  obtain ⟨h1, h2⟩ := List.pairwise_cons.1 h
  cases hx : gK k x with
  | false =>
   rw [List.filter_cons, if_pos (by simp [hx]), List.filter_cons, if_neg (by simp [hx]), List.cons_append, split_sorted k h2]
  | true =>
   have ha : ∀ y ∈ l, gK k y = true := fun y hy => gK_up k x y (h1 y hy) hx
   rw [List.filter_cons, if_neg (by simp [hx]), List.filter_cons, if_pos hx, List.filter_eq_nil_iff.2 (fun y hy => by simp [ha y hy]), List.filter_eq_self.2 ha]; rfl
/-- What is below a key; what is above. -/
def lowL (k : ByteArray) (l : List Ent) : List Ent := l.filter (fun x => !gK k x)
def topL (k : ByteArray) (l : List Ent) : List Ent := l.filter (fun x => gK k x && !sameK k x)
theorem setL_parts (k v : ByteArray) (l : List Ent) : setL k v l = lowL k l ++ ⟨k, v, 0⟩ :: topL k l := by unfold setL lowL topL; simp
theorem delL_parts (k : ByteArray) {l : List Ent} (h : l.Pairwise rK) : delL k l = lowL k l ++ topL k l := by
 unfold delL lowL topL
 have e : l.filter (fun x => !sameK k x) = (l.filter (fun x => !gK k x) ++ l.filter (gK k)).filter (fun x => !sameK k x) := by rw [split_sorted k h]
 rw [e, List.filter_append, List.filter_filter, List.filter_filter]
 congr 1
 ·refine List.filter_congr (fun x _ => ?_)
  cases hs : sameK k x with
  | false => simp
  | true => simp [same_ge k x hs]
 ·refine List.filter_congr (fun x _ => ?_)
  rw [Bool.and_comm]
theorem same_of_eq {k k' : ByteArray} (h : k'.toList = k.toList) : sameK k' = sameK k := by
 funext x; unfold sameK; rw [h]
theorem find_low (k : ByteArray) (l : List Ent) : (lowL k l).find? (sameK k) = none := by
 rw [List.find?_eq_none]
 intro x hx hs
 unfold lowL at hx
 rw [List.mem_filter] at hx
 rw [same_ge k x hs] at hx
 simp at hx
theorem find_delL (k k' : ByteArray) (l : List Ent) : (delL k l).find? (sameK k') = if k'.toList = k.toList then none else l.find? (sameK k') := by
 unfold delL
 rw [List.find?_filter]
 by_cases e : k'.toList = k.toList
 ·rw [if_pos e, same_of_eq e, List.find?_eq_none]
  intro x _; simp
 ·rw [if_neg e]
  congr 1
  funext x
  cases hs : sameK k' x with
  | false => simp
  | true =>
   have hx : x.key.toList = k'.toList := by unfold sameK at hs; simpa using hs
   have : sameK k x = false := by unfold sameK; rw [hx]; simpa using e
   simp [this]
theorem find_setL (k v k' : ByteArray) {l : List Ent} (h : l.Pairwise rK) : (setL k v l).find? (sameK k') = if k'.toList = k.toList then some ⟨k, v, 0⟩ else l.find? (sameK k') := by
 rw [setL_parts, List.find?_append, List.find?_cons]
 by_cases e : k'.toList = k.toList
 ·rw [if_pos e, same_of_eq e, find_low]
  have : sameK k ⟨k, v, 0⟩ = true := by unfold sameK; simp
  rw [this]; rfl
 ·have h1 : sameK k' ⟨k, v, 0⟩ = false := by
   unfold sameK
   have : ¬ k.toList = k'.toList := fun x => e x.symm
   simpa using this
  rw [if_neg e, h1]
  have h2 := find_delL k k' l
  rw [if_neg e, delL_parts k h, List.find?_append] at h2
  exact h2
theorem mem_setL {k v : ByteArray} {l : List Ent} {x : Ent} (h : x ∈ setL k v l) : x = ⟨k, v, 0⟩ ∨ x ∈ l := by
 rw [setL_parts, List.mem_append, List.mem_cons] at h
 rcases h with h | h | h
 ·exact .inr ((List.mem_filter.1 h).1)
 ·exact .inl h
 ·exact .inr ((List.mem_filter.1 h).1)
theorem delL_same {k : ByteArray} {l : List Ent} (h : l.find? (sameK k) = none) : delL k l = l := by
 unfold delL
 rw [List.find?_eq_none] at h
 exact List.filter_eq_self.2 (fun x hx => by simpa using h x hx)
theorem delL_length (k : ByteArray) : ∀ {l : List Ent}, l.Pairwise rK → (delL k l).length + (if (l.find? (sameK k)).isSome then 1 else 0) = l.length
 | [], _ => rfl
 | x :: l, h => by
  obtain ⟨h1, h2⟩ := List.pairwise_cons.1 h
  cases hx : sameK k x with
  | false =>
   have := delL_length k h2
   unfold delL at this ⊢
   rw [List.filter_cons, if_pos (by simp [hx]), List.find?_cons, hx, List.length_cons, List.length_cons]
   simp only at this ⊢
   omega
  | true =>
   have hn : l.find? (sameK k) = none := List.find?_eq_none.2 (fun y hy => by rw [same_one k x y (h1 y hy) hx]; simp)
   have hd := delL_same hn
   unfold delL at hd ⊢
   rw [List.filter_cons, if_neg (by simp [hx]), hd, List.find?_cons, hx]; rfl
theorem setL_length (k v : ByteArray) {l : List Ent} (h : l.Pairwise rK) : (setL k v l).length + (if (l.find? (sameK k)).isSome then 1 else 0) = l.length + 1 := by
 have := delL_length k h
 rw [delL_parts k h, List.length_append] at this
 rw [setL_parts, List.length_append, List.length_cons]
 omega
end Go.Proofs.YtbpdapcmaioeiaaGreat
