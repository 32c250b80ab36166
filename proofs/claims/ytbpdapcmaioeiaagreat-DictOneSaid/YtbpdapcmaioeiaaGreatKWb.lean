/- Wb -/
import Derived.Test.YtbpdapcmaioeiaaGreatKWa
import Derived.Test.YtbpdapcmaioeiaaGreatKTz
namespace Go.Proofs.YtbpdapcmaioeiaaGreat
open Go.RowKit
set_option maxRecDepth 100000
set_option linter.unusedVariables false
theorem check_zero {x : Tm} (h : checkOf x = 0) : 1 ≤ x.k ∧ x.k ≤ 3 ∧ x.s.size ≤ 60 ∧ x.t.size ≤ 60 ∧ x.l.size ≤ 8 := by
 unfold checkOf at h
 by_cases h1 : x.k < 1 ∨ 3 < x.k
 ·rw [if_pos h1] at h; cases h
 ·rw [if_neg h1] at h
  by_cases h2 : 60 < x.s.size ∨ 60 < x.t.size ∨ 8 < x.l.size
  ·rw [if_pos h2] at h; cases h
  ·omega
theorem tx_len9 (s : ByteArray) (h : s.size ≤ 65535) : (tx s).length = 2 + s.size := by
 unfold tx
 rw [List.length_append, le_length, List.length_take, Array.length_toList]
 have : s.data.size = s.size := rfl
 omega
theorem enc_length {x : Tm} (h : checkOf x = 0) : (encT x).length ≤ 135 := by
 obtain ⟨-, -, h1, h2, h3⟩ := check_zero h
 unfold encT
 rw [List.length_append, List.length_append, List.length_append, le_length, tx_len9 _ (by omega), tx_len9 _ (by omega), tx_len9 _ (by omega)]
 omega
theorem raw_of {x : Tm} (h : checkOf x = 0) : rawT (encT x) = (x, 0) := by
 obtain ⟨h1, h2, h3, h4, h5⟩ := check_zero h
 exact raw_enc x (by omega) (by omega) (by omega) (by omega) (by omega)
theorem enc_inj {x y : Tm} (hx : checkOf x = 0) (hy : checkOf y = 0) (h : encT x = encT y) : x = y := by
 have h1 := raw_of hx
 rw [h, raw_of hy] at h1
 exact (congrArg Prod.fst h1).symm
theorem parse_of {x : Tm} (h : checkOf x = 0) : parseOf (encT x) = (x, 0) := by
 unfold parseOf
 rw [raw_of h]
 simp only [ne_eq, not_true_eq_false, if_false, h]
theorem of_check {x : Tm} (h : checkOf x = 0) : x.Ok := by
 obtain ⟨h1, h2, h3, h4, h5⟩ := check_zero h
 exact ⟨WalkArith.wf_i64 (by omega), by unfold maxLen; omega, by unfold maxLen; omega, by unfold maxLen; omega⟩
/-- A number as a key. -/
def plc (x : Int) : List UInt8 := (le x 8).reverse
theorem plc_length (x : Int) : (plc x).length = 8 := by unfold plc; rw [List.length_reverse, le_length]
theorem plc_inj {x y : Int} (hx : (Lit.int .i64 x).wf = true) (hy : (Lit.int .i64 y).wf = true) (h : plc x = plc y) : x = y := by
 have h1 : le x 8 = le y 8 := List.reverse_inj.1 h
 rw [← num_back x hx, ← num_back y hy, h1]
theorem wf_small {n : Nat} (h : n ≤ 1000000) : (Lit.int .i64 (n : Int)).wf = true := WalkArith.wf_i64 (by omega)
structure DictOf (tf yf : List Ent) (L : List Tm) : Prop where
 ok : ∀ x ∈ L, checkOf x = 0
 nodup : L.Nodup
 few : L.length ≤ 1000
 lenT : tf.length = L.length
 lenY : yf.length = L.length
 has : ∀ i (h : i < L.length), tf.find? (sameK ⟨(encT L[i]).toArray⟩) = some ⟨⟨(encT L[i]).toArray⟩, ⟨(le ((i + 1 : Nat) : Int) 8).toArray⟩, 0⟩
 no : ∀ k : List UInt8, (∀ x ∈ L, encT x ≠ k) → tf.find? (sameK ⟨k.toArray⟩) = none
 num : ∀ i (h : i < L.length), yf.find? (sameK ⟨(plc ((i + 1 : Nat) : Int)).toArray⟩) = some ⟨⟨(plc ((i + 1 : Nat) : Int)).toArray⟩, ⟨(encT L[i]).toArray⟩, 0⟩
 noNum : ∀ k : List UInt8, (∀ i, i < L.length → plc ((i + 1 : Nat) : Int) ≠ k) → yf.find? (sameK ⟨k.toArray⟩) = none
 valT : ∀ x ∈ tf, x.val.size ≤ 1000
 valY : ∀ x ∈ yf, x.val.size ≤ 1000
theorem DictOf.nil : DictOf [] [] [] :=
 ⟨fun x h => (by cases h), List.nodup_nil, Nat.zero_le _, rfl, rfl, fun i h => absurd h (Nat.not_lt_zero _), fun _ _ => rfl, fun i h => absurd h (Nat.not_lt_zero _), fun _ _ => rfl, fun x h => (by cases h), fun x h => (by cases h)⟩
theorem key_ne {a b : List UInt8} (h : a ≠ b) : ¬ (⟨a.toArray⟩ : ByteArray).toList = (⟨b.toArray⟩ : ByteArray).toList := by
 rw [Lib.toList_data, Lib.toList_data]
 exact h
theorem DictOf.put {tf yf : List Ent} {L : List Tm} (h : DictOf tf yf L) (ht : tf.Pairwise rK) (hy : yf.Pairwise rK) {x : Tm} (hx : checkOf x = 0) (hn : x ∉ L) (hf : L.length < 1000) :
 DictOf (setL ⟨(encT x).toArray⟩ ⟨(le ((L.length + 1 : Nat) : Int) 8).toArray⟩ tf) (setL ⟨(plc ((L.length + 1 : Nat) : Int)).toArray⟩ ⟨(encT x).toArray⟩ yf) (L ++ [x]) := by
 have hno : ∀ y ∈ L, encT y ≠ encT x := fun y hy e => hn (by rw [← enc_inj (h.ok y hy) hx e]; exact hy)
 have hnn : ∀ i, i < L.length → plc ((i + 1 : Nat) : Int) ≠ plc ((L.length + 1 : Nat) : Int) := fun i hi e => by
  have := plc_inj (wf_small (by omega)) (wf_small (by omega)) e
  omega
 have hft := h.no (encT x) hno
 have hfy := h.noNum (plc ((L.length + 1 : Nat) : Int)) hnn
 have hlt := setL_length ⟨(encT x).toArray⟩ ⟨(le ((L.length + 1 : Nat) : Int) 8).toArray⟩ ht
 have hly := setL_length ⟨(plc ((L.length + 1 : Nat) : Int)).toArray⟩ ⟨(encT x).toArray⟩ hy
 rw [hft] at hlt
 rw [hfy] at hly
 have hel := enc_length hx
 refine ⟨fun y hy' => ?_, ?_, by rw [List.length_append, List.length_singleton]; omega, ?_, ?_, fun i hi => ?_, fun k hk => ?_, fun i hi => ?_, fun k hk => ?_, fun y hy' => ?_, fun y hy' => ?_⟩
 ·rcases List.mem_append.1 hy' with e | e
  ·exact h.ok y e
  ·rw [List.mem_singleton.1 e]; exact hx
 ·rw [List.nodup_append]
  exact ⟨h.nodup, by simp, fun a ha b hb e => hn (by rw [← List.mem_singleton.1 hb, ← e]; exact ha)⟩
 ·rw [List.length_append, List.length_singleton]
  simp only [Option.isSome_none, Bool.false_eq_true, if_false] at hlt
  have := h.lenT; omega
 ·rw [List.length_append, List.length_singleton]
  simp only [Option.isSome_none, Bool.false_eq_true, if_false] at hly
  have := h.lenY; omega
 ·rw [find_setL _ _ _ ht]
  rw [List.length_append, List.length_singleton] at hi
  by_cases hi' : i < L.length
  ·have e : (L ++ [x])[i] = L[i] := List.getElem_append_left hi'
   rw [e, if_neg (key_ne (hno _ (List.getElem_mem hi')))]
   exact h.has i hi'
  ·obtain rfl : i = L.length := by omega
   have e : (L ++ [x])[L.length] = x := by simp
   rw [e, if_pos rfl]
 ·rw [find_setL _ _ _ ht, if_neg (key_ne (fun e => hk x (by simp) e.symm))]
  exact h.no k (fun y hy' => hk y (by simp [hy']))
 ·rw [find_setL _ _ _ hy]
  rw [List.length_append, List.length_singleton] at hi
  by_cases hi' : i < L.length
  ·have e : (L ++ [x])[i] = L[i] := List.getElem_append_left hi'
   rw [e, if_neg (key_ne (hnn i hi'))]
   exact h.num i hi'
  ·obtain rfl : i = L.length := by omega
   have e : (L ++ [x])[L.length] = x := by simp
   rw [e, if_pos rfl]
 ·rw [find_setL _ _ _ hy, if_neg (key_ne (fun e => hk L.length (by simp) e.symm))]
  exact h.noNum k (fun i hi => hk i (by rw [List.length_append]; omega))
 ·rcases mem_setL hy' with rfl | e
  ·show (le _ 8).toArray.size ≤ 1000
   rw [List.size_toArray, le_length]; omega
  ·exact h.valT y e
 ·rcases mem_setL hy' with rfl | e
  ·show (encT x).toArray.size ≤ 1000
   rw [List.size_toArray]; omega
  ·exact h.valY y e
theorem DictOf.absent {tf yf : List Ent} {L : List Tm} (h : DictOf tf yf L) {x : Tm} (hx : checkOf x = 0) (hn : x ∉ L) : tf.find? (sameK ⟨(encT x).toArray⟩) = none :=
 h.no (encT x) (fun y hy e => hn (by rw [← enc_inj (h.ok y hy) hx e]; exact hy))
theorem DictOf.noId {tf yf : List Ent} {L : List Tm} (h : DictOf tf yf L) {id : Int} (hw : (Lit.int .i64 id).wf = true) (hn : ¬ (1 ≤ id ∧ id ≤ L.length)) : yf.find? (sameK ⟨(plc id).toArray⟩) = none :=
 h.noNum (plc id) (fun i hi e => by
  have := plc_inj (wf_small (by have := h.few; omega)) hw e
  omega)
end Go.Proofs.YtbpdapcmaioeiaaGreat
