/- What a reader's calls answer and leave: plain (of stage 1's XReads, XLess). -/
import Derived.Test.YtkhdahipnfloeaaNum
import Derived.Test.YtkhdahipnfloeaaMoved
import Derived.RegionTactic
import Derived.BigRegion
import Derived.ChangeAlike
namespace Go.Proofs.Ytkhdahipnfloeaa
open Go.RowKit
set_option maxRecDepth 100000

theorem grownBy_drew {w w' : World} {row : Option Nat} (h : w.grownBy w' row) : w.grownBy w'.drew row := ⟨h.os, h.tape, h.output, h.size, h.block⟩
theorem Bs.takes {w : World} {ao : Option Addr} {cap : Nat} {l : List UInt8} (h : Bs w (.slice ao l.length cap) l) (n : Nat) (hn : n ≤ l.length) : Bs w (.slice ao n cap) (l.take n) := by
  obtain ⟨a, c, e, h1, h2, h3, h4⟩ := h
  simp only [Value.slice.injEq, true_and] at e
  obtain ⟨rfl, rfl⟩ := e
  have hlen : (l.take n).length = n := by simp; omega
  refine ⟨ao, cap, by rw [hlen], by omega, h2, h3, fun ad had j u hu => h4 ad had j u ?_⟩
  have hj : j < n := by
    have := (List.getElem?_eq_some_iff.1 hu).1
    rw [vbs_length, hlen] at this; exact this
  unfold vbs at hu ⊢
  rw [List.map_take, List.getElem?_take, if_pos hj] at hu
  exact hu
theorem Bs.drops {w : World} {ao : Option Addr} {cap : Nat} {l : List UInt8} (h : Bs w (.slice ao l.length cap) l) (n : Nat) (hn : n ≤ l.length) :
    Bs w (.slice (if cap = n then ao else Option.map (fun x => x.add n) ao) (l.length - n) (cap - n)) (l.drop n) := by
  obtain ⟨a, c, e, h1, h2, h3, h4⟩ := h
  simp only [Value.slice.injEq, true_and] at e
  obtain ⟨rfl, rfl⟩ := e
  refine ⟨_, cap - n, by rw [List.length_drop], by simp; omega, by omega, ?_, fun ad had j u hu => ?_⟩
  · intro h
    split at h
    · omega
    · cases ao with
      | none => have := h3 rfl; omega
      | some x => simp at h
  · have hj : j < l.length - n := by
      have := (List.getElem?_eq_some_iff.1 hu).1
      rw [vbs_length, List.length_drop] at this; exact this
    rw [if_neg (by omega)] at had
    cases ao with
    | none => simp at had
    | some x =>
      simp at had
      subst had
      have := h4 x rfl (n + j) u (by unfold vbs at hu ⊢; rw [List.map_drop, List.getElem?_drop] at hu; exact hu)
      rw [add_add]
      exact this
theorem ownBlock_drops (ao : Option Addr) (a b c d n : Nat) (P : Prop) [Decidable P] : (Value.slice (if P then ao else Option.map (fun x => x.add n) ao) a b).ownBlock = (Value.slice ao c d).ownBlock := by
  split
  · cases ao <;> rfl
  · cases ao <;> simp [Value.ownBlock, block_add]
/-- What End answers. -/
def endOf (l : List UInt8) (e : Int) : Int := if e = 0 ∧ l ≠ [] then 8 else e
/-- The error behind Fail. -/
def failOf (e x : Int) : Int := if e = 0 then x else e
/-- What take answers, what it leaves, and the error behind it. -/
def tookOf (l : List UInt8) (e : Int) (n : Nat) : List UInt8 := if e = 0 ∧ n ≤ l.length then l.take n else []
def leftOf (l : List UInt8) (e : Int) (n : Nat) : List UInt8 := if e = 0 ∧ n ≤ l.length then l.drop n else l
def errOf (l : List UInt8) (e : Int) (n : Nat) : Int := if e = 0 ∧ l.length < n then 7 else e
theorem num_nil : wrap64 ((num [] : Nat) : Int) = 0 := by simp [num, wrap64]
theorem num_two (p : List UInt8) (h : p.length ≤ 2) : num p < 65536 := by
  have := num_lt p
  have h2 : (256 : Nat) ^ p.length ≤ 256 ^ 2 := Nat.pow_le_pow_right (by decide) h
  omega
theorem grownBy_trans {a b c : World} {row : Option Nat} (h : a.grownBy b row) (k : b.grownBy c row) : a.grownBy c row :=
  ⟨k.os.trans h.os, k.tape.trans h.tape, k.output.trans h.output, Nat.le_trans h.size k.size, fun i hi hne => (k.block i (Nat.lt_of_lt_of_le hi h.size) hne).trans (h.block i hi hne)⟩
theorem tookOf_le (l : List UInt8) (e : Int) (n : Nat) : (tookOf l e n).length ≤ n := by unfold tookOf; split <;> simp <;> omega
/-- What Text answers. -/
def textOf (l : List UInt8) (e : Int) : List UInt8 := tookOf (leftOf l e 2) (errOf l e 2) (num (tookOf l e 2))
def textLeft (l : List UInt8) (e : Int) : List UInt8 := leftOf (leftOf l e 2) (errOf l e 2) (num (tookOf l e 2))
def textErr (l : List UInt8) (e : Int) : Int := errOf (leftOf l e 2) (errOf l e 2) (num (tookOf l e 2))
theorem took_ok {l : List UInt8} {n : Nat} (h : n ≤ l.length) : tookOf l 0 n = l.take n := by simp [tookOf, h]
theorem left_ok {l : List UInt8} {n : Nat} (h : n ≤ l.length) : leftOf l 0 n = l.drop n := by simp [leftOf, h]
theorem err_ok {l : List UInt8} {n : Nat} (h : n ≤ l.length) : errOf l 0 n = 0 := by simp [errOf]; omega
theorem took_cut {l : List UInt8} {n : Nat} (h : l.length < n) : tookOf l 0 n = [] := by simp [tookOf]; omega
theorem left_cut {l : List UInt8} {n : Nat} (h : l.length < n) : leftOf l 0 n = l := by simp [leftOf]; omega
theorem err_cut {l : List UInt8} {n : Nat} (h : l.length < n) : errOf l 0 n = 7 := by simp [errOf, h]
theorem took_err {l : List UInt8} {e : Int} (n : Nat) (h : e ≠ 0) : tookOf l e n = [] := by simp [tookOf, h]
theorem left_err {l : List UInt8} {e : Int} (n : Nat) (h : e ≠ 0) : leftOf l e n = l := by simp [leftOf, h]
theorem err_err {l : List UInt8} {e : Int} (n : Nat) (h : e ≠ 0) : errOf l e n = e := by simp [errOf, h]
theorem num_one (x : Int) : wrap64 (num (le x 1)) = x % 256 := by
  rw [num_le]
  simp only [wrap64]
  omega
/-- Reading what was written at the front. -/
theorem took_front (a t : List UInt8) (n : Nat) (h : a.length = n) : tookOf (a ++ t) 0 n = a ∧ leftOf (a ++ t) 0 n = t ∧ errOf (a ++ t) 0 n = 0 := by
  have hn : n ≤ (a ++ t).length := by simp; omega
  rw [took_ok hn, left_ok hn, err_ok hn]
  subst h
  exact ⟨List.take_left, List.drop_left, rfl⟩
end Go.Proofs.Ytkhdahipnfloeaa
