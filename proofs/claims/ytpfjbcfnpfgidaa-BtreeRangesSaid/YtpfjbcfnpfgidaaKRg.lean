/- Rg -/
import Derived.Test.YtpfjbcfnpfgidaaKWa
import Derived.Test.YtpfjbcfnpfgidaaKRb
import Derived.Test.YtpfjbcfnpfgidaaKRf
namespace Go.Proofs.Ytpfjbcfnpfgidaa
open Go.RowKit Go.Maps
set_option maxRecDepth 100000
set_option linter.unusedVariables false
def keysL (l : List Ent) : List ByteArray := l.map Ent.key
def valsL (l : List Ent) : List ByteArray := l.map Ent.val
theorem ba_eq {a b : ByteArray} (h : a.toList = b.toList) : a = b := by
 rw [Lib.toList_data, Lib.toList_data] at h
 cases a; cases b
 exact congrArg _ (Array.toList_inj.1 h)
theorem low_tw (key : ByteArray) : ∀ {l : List Ent}, l.Pairwise rK → l.takeWhile (fun x => lsK key x.key) = lowL key l
 | [], _ => rfl
 | x :: l, h => by
  obtain ⟨h1, h2⟩ := List.pairwise_cons.1 h
  have ih := low_tw key h2
  unfold lowL at ih ⊢
  cases hx : gK key x with
  | false =>
   have : lsK key x.key = true := by unfold gK geB at hx; unfold lsK; simpa using hx
   rw [List.takeWhile_cons, this, if_pos rfl, List.filter_cons, if_pos (by simp [hx]), ih]
  | true =>
   have : lsK key x.key = false := by unfold gK geB at hx; unfold lsK; simpa using hx
   have e1 : (x :: l).filter (fun x => !gK key x) = [] := List.filter_eq_nil_iff.2 (fun y hy => by
    rcases List.mem_cons.1 hy with rfl | hy
    ·simp [hx]
    ·simp [gK_up key x y (h1 y hy) hx])
   rw [List.takeWhile_cons, this, e1]; rfl
theorem posK_low (key : ByteArray) {l : List Ent} (h : l.Pairwise rK) : posK key (keysL l) = (lowL key l).length := by
 unfold posK keysL
 rw [List.takeWhile_map, List.length_map]
 exact congrArg List.length (low_tw key h)
/-- What stands from a key on: its first may be the key's. -/
theorem up_cases (key : ByteArray) {l : List Ent} (h : l.Pairwise rK) : (l.find? (sameK key) = none ∧ topL key l = l.filter (gK key) ∧ isK key (keysL l) = false) ∨
 ∃ x r, l.filter (gK key) = x :: r ∧ topL key l = r ∧ l.find? (sameK key) = some x ∧ x.key = key ∧ isK key (keysL l) = true := by
 have hsp := split_sorted key h
 have hpos := posK_low key h
 have hget : (keysL l)[posK key (keysL l)]? = (l.filter (gK key))[0]?.map Ent.key := by
  rw [hpos]
  unfold keysL
  rw [List.getElem?_map]
  congr 1
  have := List.getElem?_append_right (l₁ := lowL key l) (l₂ := l.filter (gK key)) (Nat.le_refl _)
  rw [Nat.sub_self] at this
  rw [show lowL key l ++ l.filter (gK key) = l from hsp] at this
  exact this
 have hfind : l.find? (sameK key) = (l.filter (gK key)).find? (sameK key) := by
  conv => lhs; rw [← hsp]
  rw [List.find?_append]
  have := find_low key l
  unfold lowL at this
  rw [this]; rfl
 have htop : topL key l = (l.filter (gK key)).filter (fun x => !sameK key x) := by
  unfold topL
  rw [List.filter_filter]
  exact List.filter_congr (fun x _ => by rw [Bool.and_comm])
 have hup : (l.filter (gK key)).Pairwise rK := h.sublist List.filter_sublist
 have hg : ∀ y ∈ l.filter (gK key), gK key y = true := fun y hy => (List.mem_filter.1 hy).2
 cases hf : l.filter (gK key) with
 | nil =>
  refine .inl ⟨by rw [hfind, hf]; rfl, by rw [htop, hf]; rfl, ?_⟩
  unfold isK
  rw [hget, hf]; rfl
 | cons x r =>
  rw [hf] at hup hg hget hfind htop
  obtain ⟨p1, p2⟩ := List.pairwise_cons.1 hup
  have hr : ∀ y ∈ r, sameK key y = false := fun y hy => above_other key x y (p1 y hy) (hg x (List.mem_cons_self ..))
  cases hs : sameK key x with
  | false =>
   refine .inl ⟨by rw [hfind, List.find?_cons, hs]; exact List.find?_eq_none.2 (fun y hy => by rw [hr y hy]; simp), ?_, ?_⟩
   ·rw [htop]
    exact List.filter_eq_self.2 (fun y hy => by rcases List.mem_cons.1 hy with rfl | hy; simp [hs]; simp [hr y hy])
   ·unfold isK
    rw [hget]
    exact hs
  | true =>
   refine .inr ⟨x, r, rfl, ?_, by rw [hfind, List.find?_cons, hs], ba_eq (by unfold sameK at hs; simpa using hs), ?_⟩
   ·rw [htop, List.filter_cons, if_neg (by simp [hs])]
    exact List.filter_eq_self.2 (fun y hy => by simp [hr y hy])
   ·unfold isK
    rw [hget]
    exact hs
theorem take_low {β : Type} (f : Ent → β) (key : ByteArray) {l : List Ent} (h : l.Pairwise rK) : (l.map f).take (lowL key l).length = (lowL key l).map f ∧ (l.map f).drop (lowL key l).length = (l.filter (gK key)).map f := by
 have hsp : lowL key l ++ l.filter (gK key) = l := split_sorted key h
 have e : l.map f = (lowL key l).map f ++ (l.filter (gK key)).map f := by rw [← List.map_append, hsp]
 have hl : ((lowL key l).map f).length = (lowL key l).length := List.length_map ..
 rw [e, ← hl]
 exact ⟨List.take_left, List.drop_left⟩
theorem set_same (key val : ByteArray) {l : List Ent} (h : l.Pairwise rK) (his : isK key (keysL l) = true) : keysL (setL key val l) = keysL l ∧ valsL (setL key val l) = (valsL l).set (posK key (keysL l)) val := by
 rcases up_cases key h with ⟨-, -, h3⟩ | ⟨x, r, h1, h2, -, h4, -⟩
 ·rw [h3] at his; cases his
 ·have hsp : lowL key l ++ l.filter (gK key) = l := split_sorted key h
  rw [h1] at hsp
  rw [posK_low key h, setL_parts, h2]
  constructor
  ·conv => rhs; rw [← hsp]
   unfold keysL
   rw [List.map_append, List.map_append, List.map_cons, List.map_cons, h4]
  ·conv => rhs; arg 1; rw [← hsp]
   unfold valsL
   rw [List.map_append, List.map_append, List.map_cons, List.map_cons, List.set_append_right _ _ (by rw [List.length_map]; exact Nat.le_refl _), List.length_map, Nat.sub_self]; rfl
theorem set_other (key val : ByteArray) {l : List Ent} (h : l.Pairwise rK) (his : isK key (keysL l) = false) : keysL (setL key val l) = (keysL l).take (posK key (keysL l)) ++ key :: (keysL l).drop (posK key (keysL l)) ∧ valsL (setL key val l) = (valsL l).take (posK key (keysL l)) ++ val :: (valsL l).drop (posK key (keysL l)) := by
 rcases up_cases key h with ⟨-, h2, -⟩ | ⟨x, r, -, -, -, -, h5⟩
 ·rw [posK_low key h, setL_parts, h2]
  unfold keysL valsL
  rw [(take_low Ent.key key h).1, (take_low Ent.key key h).2, (take_low Ent.val key h).1, (take_low Ent.val key h).2, List.map_append, List.map_append, List.map_cons, List.map_cons]
  exact ⟨rfl, rfl⟩
 ·rw [h5] at his; cases his
theorem tokK_down (to : ByteArray) (x y : Ent) (h : rK x y) (hy : tokK to y = true) : tokK to x = true := by
 unfold tokK at hy ⊢
 rw [Bool.or_eq_true] at hy ⊢
 refine hy.imp id (fun e => ?_)
 have hyl : gK to y = false := by unfold gK; simpa using e
 cases hx : gK to x with
 | false => unfold gK at hx; simpa using hx
 | true => rw [gK_up to x y h hx] at hyl; cases hyl
theorem range_same (fr to : ByteArray) (m : Nat) {l : List Ent} (h : l.Pairwise rK) : (rangeL fr to m l).map (fun x => (x.key, x.val)) = rgKV fr to m ((keysL l).zip (valsL l)) := by
 unfold rangeL rgKV keysL valsL
 rw [BT.range_list h (gK_up fr) (tokK_down to), List.zip_map', List.filter_map, ← List.map_take]
 rfl
theorem range_keys (fr to : ByteArray) (m : Nat) {l : List Ent} (h : l.Pairwise rK) : (rangeL fr to m l).map Ent.key = (rgKV fr to m ((keysL l).zip (valsL l))).map Prod.fst ∧ (rangeL fr to m l).map Ent.val = (rgKV fr to m ((keysL l).zip (valsL l))).map Prod.snd := by
 rw [← range_same fr to m h, List.map_map, List.map_map]
 exact ⟨rfl, rfl⟩
end Go.Proofs.Ytpfjbcfnpfgidaa
