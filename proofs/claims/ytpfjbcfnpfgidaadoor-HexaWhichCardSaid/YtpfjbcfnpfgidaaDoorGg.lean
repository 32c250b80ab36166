/- Chain -/
import Derived.Test.YtpfjbcfnpfgidaaDoorProg
import Derived.WalkKit
import Derived.WalkSpells
import Derived.IntWalk
import Derived.Laws.BytesArg
import Derived.Laws.AppendOwnNone
import Derived.Lib.Hide
import Derived.Lib.AppendStr
import Derived.Lib.Strings
import Derived.Laws.Bits64
import Derived.Laws.BitsLemmas
import Derived.RegionTactic
import Derived.BigRegion
import Derived.ChangeAlike
import Derived.Deep.RegionHeld3
import Derived.Lib.SlBytesConst
import Derived.Deep.QuietTactic
import Derived.BigQuiet
import Derived.Lib.BufferWrite
import Derived.Deep.AppendLies
import Derived.Deep.RegionLaw
import Derived.Laws.CopyOwn
import Derived.Laws.ResultCell
import Derived.Deep.Grids
import Derived.Deep.Slices
import Derived.ProofKit
import Derived.Lib.AppendZeros
import Derived.Maps.OwnSet
import Derived.Maps.StringElems
import Derived.Maps.Views
import Derived.Maps.Own
import Derived.Deep.WholeRow
import Derived.WalkArith
import Derived.Deep.DeepMust
import Derived.ChangeKeysEq
namespace Go.Proofs.YtpfjbcfnpfgidaaDoor
set_option maxRecDepth 100000
/-- What stands behind page i in the row. -/
def link (N : Nat) : List Nat → Nat → Int
  | [], _ => 0
  | a :: L, i => if i = a then (match L with | [] => (N : Int) | b :: _ => (b : Int)) else link N L i
def headOr (N : Nat) : List Nat → Nat
  | [] => N
  | b :: _ => b
def nextOf (N : Nat) (L : List Nat) : List Int := (List.range N).map (link N (0 :: L))
structure Chn (N : Nat) (L : List Nat) : Prop where
  pos : 0 < N
  nodup : L.Nodup
  all : ∀ a ∈ L, 1 ≤ a ∧ a < N
theorem link_self (N a : Nat) (L : List Nat) : link N (a :: L) a = headOr N L := by
  cases L <;> simp [link, headOr]
theorem link_other {N a i : Nat} {L : List Nat} (h : i ≠ a) : link N (a :: L) i = link N L i := by
  cases L <;> simp [link, h]
theorem link_out {N i : Nat} : ∀ {L : List Nat}, i ∉ L → link N L i = 0
  | [], _ => rfl
  | a :: L, h => by
    rw [link_other (fun e => h (by simp [e])), link_out (fun e => h (by simp [e]))]
theorem nextOf_length (N : Nat) (L : List Nat) : (nextOf N L).length = N := by simp [nextOf]
theorem nextOf_at {N i : Nat} (L : List Nat) (h : i < N) : (nextOf N L).getD i 0 = link N (0 :: L) i := by simp [nextOf, List.getD, h]
theorem Chn.cons {N a : Nat} {L : List Nat} (h : Chn N L) (h1 : 1 ≤ a) (h2 : a < N) (h3 : a ∉ L) : Chn N (a :: L) :=
  ⟨h.pos, List.nodup_cons.2 ⟨h3, h.nodup⟩, fun b hb => by rcases List.mem_cons.1 hb with e | e; exact ⟨by omega, by omega⟩; exact h.all b e⟩
theorem Chn.nodup0 {N : Nat} {L : List Nat} (h : Chn N L) : (0 :: L).Nodup := List.nodup_cons.2 ⟨fun e => by have := (h.all 0 e).1; omega, h.nodup⟩
def rowTo (N : Nat) (L : List Nat) (j : Nat) : List Int := (List.range N).map fun i => if i ∈ (0 :: L).take j then link N (0 :: L) i else 0
theorem rowTo_length (N : Nat) (L : List Nat) (j : Nat) : (rowTo N L j).length = N := by simp [rowTo]
theorem rowTo_zero (N : Nat) (L : List Nat) : rowTo N L 0 = List.replicate N 0 := by
  apply List.ext_getElem (by simp [rowTo])
  intro i h1 h2
  simp [rowTo]
theorem rowTo_all {N : Nat} (L : List Nat) : rowTo N L (L.length + 1) = nextOf N L := by
  unfold rowTo nextOf
  apply List.map_congr_left
  intro i _
  rw [List.take_of_length_le (by simp)]
  split
  · rfl
  · rename_i h; rw [link_out h]
theorem rowTo_succ {N : Nat} {L : List Nat} (j : Nat) (hj : j < (0 :: L).length) : rowTo N L (j + 1) = (rowTo N L j).set ((0 :: L)[j]) (link N (0 :: L) ((0 :: L)[j])) := by
  apply List.ext_getElem (by simp [rowTo])
  intro i h1 h2
  rw [List.getElem_set]
  simp only [rowTo, List.getElem_map, List.getElem_range]
  rw [List.take_succ_eq_append_getElem hj]
  by_cases e : (0 :: L)[j] = i
  · rw [if_pos e]
    subst e
    rw [if_pos (List.mem_append.2 (.inr (List.mem_singleton.2 rfl)))]
  · rw [if_neg e]
    have : i ∈ (0 :: L).take j ++ [(0 :: L)[j]] ↔ i ∈ (0 :: L).take j := by
      rw [List.mem_append]
      constructor
      · intro h; rcases h with h | h
        · exact h
        · exact absurd (List.mem_singleton.1 h).symm e
      · exact .inl
    simp only [this]
theorem rowTo_fresh {N : Nat} {L : List Nat} (h : Chn N L) (j : Nat) (hj : j < (0 :: L).length) (hN : (0 :: L)[j] < (rowTo N L j).length) : (rowTo N L j)[(0 :: L)[j]] = 0 := by
  simp only [rowTo, List.getElem_map, List.getElem_range]
  rw [if_neg]
  intro hm
  obtain ⟨i, hi, e⟩ := List.mem_iff_getElem.1 hm
  have hi' : i < j := by rw [List.length_take] at hi; omega
  rw [List.getElem_take] at e
  have := (List.getElem_inj h.nodup0).1 e
  omega
theorem seq_lt {N : Nat} {L : List Nat} (h : Chn N L) (j : Nat) (hj : j < (0 :: L).length) : (0 :: L)[j] < N := by
  cases j with
  | zero => exact h.pos
  | succ j =>
    simp only [List.getElem_cons_succ]
    exact (h.all _ (List.getElem_mem _)).2
/-- The place behind. -/
theorem link_seq {N : Nat} : ∀ {l : List Nat} (j : Nat) (hj : j < l.length), l.Nodup → link N l l[j] = ((l.tail ++ [N])[j]'(by simp; omega) : Nat)
  | a :: L, 0, _, _ => by
    rw [List.getElem_cons_zero, link_self]
    cases L <;> simp [headOr]
  | a :: L, j + 1, hj, h => by
    have hj' : j < L.length := by simpa using hj
    have hn := List.nodup_cons.1 h
    rw [List.getElem_cons_succ, link_other (fun e => hn.1 (by rw [← e]; exact List.getElem_mem _)), link_seq j hj' hn.2]
    congr 1
    cases L with
    | nil => simp at hj'
    | cons b L => simp
end Go.Proofs.YtpfjbcfnpfgidaaDoor
