/- PgFree; PgDrop; PgNew; Chain -/
import Derived.Test.YtbkokckpjmbjhaaDoorGf
import Derived.WalkArith
import Derived.Deep.DeepMust
import Derived.ChangeKeysEq
namespace Go.Proofs.YtbkokckpjmbjhaaDoor
open Go.RowKit Go.Maps
set_option maxRecDepth 100000
/-- How many of the numbers behind the first are not 0, among the first k. -/
def freesTo (L : List Int) (k : Nat) : Nat := (((L.take k).drop 1).filter (· != 0)).length
def frees (L : List Int) : Nat := ((L.drop 1).filter (· != 0)).length
theorem freesTo_zero (L : List Int) : freesTo L 0 = 0 := by simp [freesTo]
theorem freesTo_all (L : List Int) : freesTo L L.length = frees L := by simp [freesTo, frees]
theorem freesTo_succ (L : List Int) (k : Nat) (hk : k < L.length) : freesTo L (k + 1) = freesTo L k + if 0 < k ∧ L[k] ≠ 0 then 1 else 0 := by
  unfold freesTo
  rw [List.take_succ_eq_append_getElem hk]
  by_cases h0 : k = 0
  · subst h0
    simp
  · rw [List.drop_append_of_le_length (by rw [List.length_take]; omega), List.filter_append, List.length_append]
    congr 1
    by_cases hx : L[k] = 0
    · simp [hx]
    · have : 0 < k := by omega
      simp [hx, this]
theorem freesTo_le (L : List Int) (k : Nat) : freesTo L k ≤ k := by
  unfold freesTo
  refine Nat.le_trans (List.length_filter_le _ _) ?_
  rw [List.length_drop, List.length_take]
  omega
end Go.Proofs.YtbkokckpjmbjhaaDoor
namespace Go.Proofs.YtbkokckpjmbjhaaDoor
open Go.RowKit Go.Maps
set_option maxRecDepth 100000
def Tx.drop (t : Tx) (i : Int) : Tx := { t with f := fun j => if j = i then none else t.f j, n := if (t.f i).isSome then t.n - 1 else t.n }
end Go.Proofs.YtbkokckpjmbjhaaDoor
namespace Go.Proofs.YtbkokckpjmbjhaaDoor
open Go.RowKit Go.Maps
set_option maxRecDepth 100000
end Go.Proofs.YtbkokckpjmbjhaaDoor
namespace Go.Proofs.YtbkokckpjmbjhaaDoor
set_option maxRecDepth 100000
/-- What stands behind page i in the row. -/
def link (N : Nat) : List Nat → Nat → Int
  | [], _ => 0
  | a :: L, i => if i = a then (match L with | [] => (N : Int) | b :: _ => (b : Int)) else link N L i
def headOr (N : Nat) : List Nat → Nat
  | [] => N
  | b :: _ => b
def nextOf (N : Nat) (L : List Nat) : List Int := (List.range N).map (link N (0 :: L))
structure Chn (N : Nat) (L : List Nat) : Prop where
  pos : 0 < N
  nodup : L.Nodup
  all : ∀ a ∈ L, 1 ≤ a ∧ a < N
theorem link_self (N a : Nat) (L : List Nat) : link N (a :: L) a = headOr N L := by
  cases L <;> simp [link, headOr]
theorem link_other {N a i : Nat} {L : List Nat} (h : i ≠ a) : link N (a :: L) i = link N L i := by
  cases L <;> simp [link, h]
theorem link_out {N i : Nat} : ∀ {L : List Nat}, i ∉ L → link N L i = 0
  | [], _ => rfl
  | a :: L, h => by
    rw [link_other (fun e => h (by simp [e])), link_out (fun e => h (by simp [e]))]
theorem link_range {N : Nat} : ∀ {L : List Nat} (i : Nat), (∀ a ∈ L, a < N) → 0 ≤ link N L i ∧ link N L i ≤ N
  | [], i, _ => by simp [link]
  | a :: L, i, h => by
    by_cases e : i = a
    · subst e
      rw [link_self]
      cases L with
      | nil => simp [headOr]
      | cons b L =>
        have := h b (by simp)
        simp only [headOr]
        omega
    · rw [link_other e]
      exact link_range i (fun a ha => h a (by simp [ha]))
theorem link_ne {N : Nat} (hN : 0 < N) : ∀ {L : List Nat} {i : Nat}, i ∈ L → (∀ a ∈ L.tail, 1 ≤ a) → link N L i ≠ 0
  | a :: L, i, hi, h => by
    by_cases e : i = a
    · subst e
      rw [link_self]
      cases L with
      | nil => simp [headOr]; omega
      | cons b L =>
        have := h b (by simp)
        simp only [headOr]
        omega
    · rw [link_other e]
      have hi' : i ∈ L := by simpa [e] using hi
      exact link_ne hN hi' (fun a ha => h a (List.mem_of_mem_tail ha))
theorem nextOf_length (N : Nat) (L : List Nat) : (nextOf N L).length = N := by simp [nextOf]
theorem nextOf_at {N i : Nat} (L : List Nat) (h : i < N) : (nextOf N L).getD i 0 = link N (0 :: L) i := by simp [nextOf, List.getD, h]
theorem nextOf_get {N i : Nat} (L : List Nat) (h : i < (nextOf N L).length) : (nextOf N L)[i] = link N (0 :: L) i := by simp [nextOf]
theorem nextOf_zero {N : Nat} (L : List Nat) (h : 0 < N) : (nextOf N L).getD 0 0 = headOr N L := by rw [nextOf_at L h, link_self]
theorem Chn.tail {N a : Nat} {L : List Nat} (h : Chn N (a :: L)) : Chn N L := ⟨h.pos, (List.nodup_cons.1 h.nodup).2, fun b hb => h.all b (by simp [hb])⟩
theorem Chn.cons {N a : Nat} {L : List Nat} (h : Chn N L) (h1 : 1 ≤ a) (h2 : a < N) (h3 : a ∉ L) : Chn N (a :: L) :=
  ⟨h.pos, List.nodup_cons.2 ⟨h3, h.nodup⟩, fun b hb => by rcases List.mem_cons.1 hb with e | e; exact ⟨by omega, by omega⟩; exact h.all b e⟩
theorem Chn.nodup0 {N : Nat} {L : List Nat} (h : Chn N L) : (0 :: L).Nodup := List.nodup_cons.2 ⟨fun e => by have := (h.all 0 e).1; omega, h.nodup⟩
theorem next_new {N a : Nat} {L : List Nat} (h : Chn N (a :: L)) : ((nextOf N (a :: L)).set 0 ((nextOf N (a :: L)).getD a 0)).set a 0 = nextOf N L := by
  have ha := h.all a (by simp)
  have hn := (List.nodup_cons.1 h.nodup).1
  rw [nextOf_at _ ha.2, link_other (a := 0) (by omega), link_self]
  apply List.ext_getElem (by simp [nextOf_length])
  intro i h1 h2
  rw [nextOf_get, List.getElem_set]
  by_cases e : a = i
  · subst e
    rw [if_pos rfl, link_other (a := 0) (by omega), link_out hn]
  · rw [if_neg e, List.getElem_set]
    by_cases e0 : 0 = i
    · subst e0
      rw [if_pos rfl, link_self]
    · rw [if_neg e0, nextOf_get, link_other (a := 0) (by omega), link_other (a := a) (by omega), link_other (a := 0) (by omega)]
theorem next_drop {N i : Nat} {L : List Nat} (h : Chn N L) (h1 : 1 ≤ i) : ((nextOf N L).set 0 i).set i ((nextOf N L).getD 0 0) = nextOf N (i :: L) := by
  rw [nextOf_zero _ h.pos]
  apply List.ext_getElem (by simp [nextOf_length])
  intro j g1 g2
  rw [nextOf_get, List.getElem_set]
  by_cases e : i = j
  · subst e
    rw [if_pos rfl, link_other (a := 0) (by omega), link_self]
  · rw [if_neg e, List.getElem_set]
    by_cases e0 : 0 = j
    · subst e0
      rw [if_pos rfl, link_self]
      rfl
    · rw [if_neg e0, nextOf_get, link_other (a := 0) (by omega), link_other (a := 0) (by omega), link_other (a := i) (by omega)]
/-- A page is in use just where it stands not in the row. -/
theorem absent_chn {N : Nat} {L : List Nat} (h : Chn N L) (r : Int) (i : Int) : absentOf ⟨r, nextOf N L⟩ i = if 1 ≤ i ∧ i < N ∧ i.toNat ∉ L then 0 else 1 := by
  unfold absentOf
  simp only [nextOf_length]
  by_cases hi : 0 ≤ i ∧ i < N
  · obtain ⟨k, rfl⟩ : ∃ k : Nat, i = k := ⟨i.toNat, by omega⟩
    have hk : k < N := by omega
    simp only [Int.toNat_natCast, nextOf_at L hk]
    by_cases h0 : k = 0
    · subst h0
      have hz := link_ne h.pos (L := 0 :: L) (i := 0) (by simp) (fun a ha => (h.all a ha).1)
      rw [if_neg (fun e => hz e.2.2), if_neg (by omega)]
    · rw [link_other h0]
      by_cases hL : k ∈ L
      · have hz := link_ne h.pos hL (fun a ha => (h.all a (List.mem_of_mem_tail ha)).1)
        rw [if_neg (fun e => hz e.2.2), if_neg (fun e => e.2.2 hL)]
      · rw [if_pos ⟨by omega, by omega, link_out hL⟩, if_pos ⟨by omega, by omega, hL⟩]
  · rw [if_neg (fun e => hi ⟨e.1, e.2.1⟩), if_neg (fun e => hi ⟨by omega, e.2.1⟩)]
theorem frees_chn {N : Nat} {L : List Nat} (h : Chn N L) : frees (nextOf N L) = L.length := by
  have e : (nextOf N L).drop 1 = ((List.range N).drop 1).map (link N L) := by
    unfold nextOf
    rw [← List.map_drop]
    apply List.map_congr_left
    intro i hi
    refine link_other (fun e => ?_)
    rw [List.range_eq_range', List.drop_range'] at hi
    have := List.mem_range'_1.1 hi
    omega
  unfold frees
  rw [e, List.filter_map, List.length_map]
  have hp : ((List.range N).drop 1).filter ((fun x => x != 0) ∘ link N L) = ((List.range N).drop 1).filter (fun i => decide (i ∈ L)) := by
    apply List.filter_congr
    intro i hi
    simp only [Function.comp]
    by_cases hL : i ∈ L
    · have := link_ne h.pos hL (fun a ha => (h.all a (List.mem_of_mem_tail ha)).1)
      simp [hL, this]
    · simp [hL, link_out hL]
  rw [hp]
  refine (List.Perm.length_eq ?_)
  refine (List.perm_ext_iff_of_nodup ?_ h.nodup).2 (fun a => ?_)
  · exact List.Pairwise.filter _ (List.Pairwise.drop List.nodup_range)
  · rw [List.mem_filter, List.range_eq_range', List.drop_range', List.mem_range'_1]
    constructor
    · intro e; simpa using e.2
    · intro e
      have := h.all a e
      exact ⟨by omega, by simpa using e⟩
def rowTo (N : Nat) (L : List Nat) (j : Nat) : List Int := (List.range N).map fun i => if i ∈ (0 :: L).take j then link N (0 :: L) i else 0
theorem rowTo_length (N : Nat) (L : List Nat) (j : Nat) : (rowTo N L j).length = N := by simp [rowTo]
theorem rowTo_zero (N : Nat) (L : List Nat) : rowTo N L 0 = List.replicate N 0 := by
  apply List.ext_getElem (by simp [rowTo])
  intro i h1 h2
  simp [rowTo]
theorem rowTo_all {N : Nat} (L : List Nat) : rowTo N L (L.length + 1) = nextOf N L := by
  unfold rowTo nextOf
  apply List.map_congr_left
  intro i _
  rw [List.take_of_length_le (by simp)]
  split
  · rfl
  · rename_i h; rw [link_out h]
theorem rowTo_succ {N : Nat} {L : List Nat} (j : Nat) (hj : j < (0 :: L).length) : rowTo N L (j + 1) = (rowTo N L j).set ((0 :: L)[j]) (link N (0 :: L) ((0 :: L)[j])) := by
  apply List.ext_getElem (by simp [rowTo])
  intro i h1 h2
  rw [List.getElem_set]
  simp only [rowTo, List.getElem_map, List.getElem_range]
  rw [List.take_succ_eq_append_getElem hj]
  by_cases e : (0 :: L)[j] = i
  · rw [if_pos e]
    subst e
    rw [if_pos (List.mem_append.2 (.inr (List.mem_singleton.2 rfl)))]
  · rw [if_neg e]
    have : i ∈ (0 :: L).take j ++ [(0 :: L)[j]] ↔ i ∈ (0 :: L).take j := by
      rw [List.mem_append]
      constructor
      · intro h; rcases h with h | h
        · exact h
        · exact absurd (List.mem_singleton.1 h).symm e
      · exact .inl
    simp only [this]
theorem rowTo_fresh {N : Nat} {L : List Nat} (h : Chn N L) (j : Nat) (hj : j < (0 :: L).length) (hN : (0 :: L)[j] < (rowTo N L j).length) : (rowTo N L j)[(0 :: L)[j]] = 0 := by
  simp only [rowTo, List.getElem_map, List.getElem_range]
  rw [if_neg]
  intro hm
  obtain ⟨i, hi, e⟩ := List.mem_iff_getElem.1 hm
  have hi' : i < j := by rw [List.length_take] at hi; omega
  rw [List.getElem_take] at e
  have := (List.getElem_inj h.nodup0).1 e
  omega
theorem seq_lt {N : Nat} {L : List Nat} (h : Chn N L) (j : Nat) (hj : j < (0 :: L).length) : (0 :: L)[j] < N := by
  cases j with
  | zero => exact h.pos
  | succ j =>
    simp only [List.getElem_cons_succ]
    exact (h.all _ (List.getElem_mem _)).2
/-- The place behind. -/
theorem link_seq {N : Nat} : ∀ {l : List Nat} (j : Nat) (hj : j < l.length), l.Nodup → link N l l[j] = ((l.tail ++ [N])[j]'(by simp; omega) : Nat)
  | a :: L, 0, _, _ => by
    rw [List.getElem_cons_zero, link_self]
    cases L <;> simp [headOr]
  | a :: L, j + 1, hj, h => by
    have hj' : j < L.length := by simpa using hj
    have hn := List.nodup_cons.1 h
    rw [List.getElem_cons_succ, link_other (fun e => hn.1 (by rw [← e]; exact List.getElem_mem _)), link_seq j hj' hn.2]
    congr 1
    cases L with
    | nil => simp at hj'
    | cons b L => simp
end Go.Proofs.YtbkokckpjmbjhaaDoor
