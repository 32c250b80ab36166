/- PgLoad; PgOpen -/
import Derived.Test.YtbkokckpjmbjhaaDoorGg
import Derived.Test.YtbkokckpjmbjhaaDoorGh
namespace Go.Proofs.YtbkokckpjmbjhaaDoor
open Go.RowKit Go.Maps
set_option maxRecDepth 100000
def sq (N : Nat) (L : List Nat) (j : Nat) : Nat := (0 :: L ++ [N]).getD j 0
def pos : List Nat → Nat → Nat
  | [], _ => 0
  | a :: l, i => if i = a then 0 else pos l i + 1
theorem pos_get : ∀ {l : List Nat} (j : Nat) (hj : j < l.length), l.Nodup → pos l l[j] = j
  | a :: l, 0, _, _ => by simp [pos]
  | a :: l, j + 1, hj, h => by
    have hj' : j < l.length := by simpa using hj
    have hn := List.nodup_cons.1 h
    rw [List.getElem_cons_succ]
    unfold pos
    rw [if_neg (fun e => hn.1 (by rw [← e]; exact List.getElem_mem _)), pos_get j hj' hn.2]
theorem Chn.sq_nodup {N : Nat} {L : List Nat} (h : Chn N L) : (0 :: L ++ [N]).Nodup := by
  rw [List.nodup_append]
  refine ⟨h.nodup0, by simp, fun a ha b hb e => ?_⟩
  have : b = N := List.mem_singleton.1 hb
  rcases List.mem_cons.1 ha with e1 | e1
  · have := h.pos; omega
  · have := (h.all a e1).2; omega
theorem sq_pos {N : Nat} {L : List Nat} (h : Chn N L) (j : Nat) (hj : j ≤ L.length + 1) : pos (0 :: L ++ [N]) (sq N L j) = j := by
  have hl : j < (0 :: L ++ [N]).length := by simp; omega
  have e : sq N L j = (0 :: L ++ [N])[j] := by unfold sq; rw [List.getD_eq_getElem?_getD, List.getElem?_eq_getElem hl]; rfl
  rw [e]
  exact pos_get j hl h.sq_nodup
theorem sq_get {N : Nat} {L : List Nat} (j : Nat) (hj : j < (0 :: L).length) : sq N L j = (0 :: L)[j] := by
  unfold sq
  rw [List.getD_eq_getElem?_getD, List.getElem?_append_left hj, List.getElem?_eq_getElem hj]
  rfl
theorem sq_last (N : Nat) (L : List Nat) : sq N L (L.length + 1) = N := by
  unfold sq
  rw [List.getD_eq_getElem?_getD, List.getElem?_append_right (by simp)]
  simp
theorem sq_link {N : Nat} {L : List Nat} (h : Chn N L) (j : Nat) (hj : j < (0 :: L).length) : link N (0 :: L) (sq N L j) = sq N L (j + 1) := by
  rw [sq_get j hj, link_seq j hj h.nodup0]
  congr 1
  unfold sq
  have hl : j < (L ++ [N]).length := by simp at hj ⊢; omega
  rw [List.getD_eq_getElem?_getD, List.cons_append, List.getElem?_cons_succ, List.getElem?_eq_getElem hl]
  rfl
theorem sq_range {N : Nat} {L : List Nat} (h : Chn N L) (j : Nat) (hj : j < (0 :: L).length) : 1 ≤ sq N L (j + 1) ∧ sq N L (j + 1) ≤ N := by
  by_cases e : j = L.length
  · subst e
    rw [sq_last]
    exact ⟨h.pos, Nat.le_refl _⟩
  · have : j + 1 < (0 :: L).length := by simp at hj ⊢; omega
    rw [sq_get (j + 1) this, List.getElem_cons_succ]
    have := h.all (L[j]'(by simp at hj; omega)) (List.getElem_mem _)
    omega
/-- The disk holds the row L of the free pages of N, and the root. -/
structure Enc (A : Ab) (N : Nat) (L : List Nat) (root : Int) : Prop where
  len : A.now.length = 401 + N
  most : N ≤ 3000
  chn : Chn N L
  ok : ∀ i : Nat, i < N → A.fault (401 + i) = 0
  own : ∀ i ∈ 0 :: L, storedOf A i = ownOf ⟨root, nextOf N L⟩ i
  wf : (Lit.int .i64 root).wf = true
/-- What the page of a free one begins with. -/
theorem own_front (S : Stt) (k : Nat) : ∃ t, ownOf S k = le (S.next.getD k 0 - k - 1) 8 ++ t ∧ (k = 0 → ∃ t', t = le S.root 8 ++ t') := by
  unfold ownOf
  rw [pageOf_short (by rw [List.length_append, le_length]; split <;> simp [le_length])]
  unfold page
  by_cases h : k = 0
  · rw [if_pos h, List.append_assoc]
    exact ⟨_, rfl, fun _ => ⟨_, rfl⟩⟩
  · rw [if_neg h, List.append_assoc]
    exact ⟨_, rfl, fun e => absurd e h⟩
theorem ints_set (R : List Int) (j : Nat) (v : Int) : (ints R).toArray.setIfInBounds j (.int .i64 v) = (ints (R.set j v)).toArray := by
  apply Array.ext'
  simp [ints, List.map_set]
theorem run_make_ints (n : Nat) (m : Int) (hm : m = n) (hn : n ≤ 1000000) (w : World) :
    (Instr.makeSlice 23 (.int .i64 m) (.int .i64 m)).run Tryd.prog w = .ok (.slice (some ⟨w.heap.size, 0, none⟩) n n) (w.alloc (.cells (ints (List.replicate n 0)).toArray 3)) := by
  subst hm
  obtain ⟨i0, hi, hz0, hz1, hz2⟩ := info_parts Tryd.infoI
  have h := run_make (P := Tryd.prog) w 23 3 i0 (.int .i64 0) Tryd.underlying23 hi hz0 .i64 .i64 n n (by omega) (Int.le_refl _) (by rw [hz2]; omega) (by omega)
  simp only [Int.toNat_natCast, hz1] at h
  have e : madeCells #[.int .i64 0] (n * 1) = (ints (List.replicate n 0)).toArray := by
    apply Array.ext'
    rw [Nat.mul_one, toList_madeCells_one]
    simp [ints]
  rw [h, ← e]
  rfl
/-- What the first number of a free page says. -/
theorem own_num (S : Stt) (k : Nat) (h : (Lit.int .i64 (S.next.getD k 0 - k - 1)).wf = true) : wrap64 (num (tookOf (ownOf S k) 0 8)) = S.next.getD k 0 - k - 1 := by
  obtain ⟨t, h1, -⟩ := own_front S k
  rw [h1, (took_front _ t 8 (le_length _ _)).1, num_back _ h]
theorem own_root (S : Stt) (h : (Lit.int .i64 S.root).wf = true) : wrap64 (num (tookOf (leftOf (ownOf S 0) 0 8) (errOf (ownOf S 0) 0 8) 8)) = S.root := by
  obtain ⟨t, h1, h2⟩ := own_front S 0
  obtain ⟨t', rfl⟩ := h2 rfl
  have q := took_front (le (S.next.getD 0 0 - (0 : Nat) - 1) 8) (le S.root 8 ++ t') 8 (le_length _ _)
  rw [h1, q.2.1, q.2.2, (took_front _ t' 8 (le_length _ _)).1, num_back _ h]
end Go.Proofs.YtbkokckpjmbjhaaDoor
namespace Go.Proofs.YtbkokckpjmbjhaaDoor
open Go.RowKit Go.Maps
set_option maxRecDepth 100000
end Go.Proofs.YtbkokckpjmbjhaaDoor
