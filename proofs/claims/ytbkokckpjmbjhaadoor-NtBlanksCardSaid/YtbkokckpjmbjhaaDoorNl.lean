/- NtLines: its texts' lines, plain. -/
import Derived.Test.YtbkokckpjmbjhaaDoorNk
namespace Go.Proofs.YtbkokckpjmbjhaaDoor
open Go.RowKit Go.Shelf
set_option maxRecDepth 100000
set_option linter.unusedVariables false
theorem index_skip : ∀ (a r : List UInt8), (∀ c ∈ a, c ≠ 10) → Lib.index (a ++ 10 :: r) [10] = a.length := by
  intro a r h
  rw [Lib.index_one]
  induction a with
  | nil => rfl
  | cons c a ih =>
    have hc : (c == 10) = false := beq_eq_false_iff_ne.2 (h c (List.mem_cons_self ..))
    have := ih (fun x hx => h x (List.mem_cons_of_mem _ hx))
    show Lib.indexByte (c :: (a ++ 10 :: r)) 10 = _
    unfold Lib.indexByte
    rw [hc, this]
    have h2 : (((a.length : Nat) : Int) == -1) = false := beq_eq_false_iff_ne.2 (by omega)
    rw [h2]
    simp
theorem pieces_step (a r : List UInt8) (h : ∀ c ∈ a, c ≠ 10) : piecesB ⟨(a ++ 10 :: r).toArray⟩ = ⟨(a ++ [10]).toArray⟩ :: piecesB ⟨r.toArray⟩ := by
  have hc : Lib.countB ⟨(a ++ 10 :: r).toArray⟩ ⟨#[10]⟩ = Lib.countB ⟨r.toArray⟩ ⟨#[10]⟩ + 1 := by
    show Lib.count (a ++ 10 :: r) [10] = Lib.count r [10] + 1
    rw [Lib.count_one, Lib.count_one, List.count_append, List.count_cons_self]
    have : List.count 10 a = 0 := List.count_eq_zero.2 (fun hm => h 10 hm rfl)
    omega
  have hi : Lib.indexB ⟨(a ++ 10 :: r).toArray⟩ ⟨#[10]⟩ = a.length := index_skip a r h
  unfold piecesB
  rw [hc, Lib.splitB_hit _ _ _ _ _ hi]
  congr 1
  · apply ba_ext
    rw [← Lib.toList_data, Lib.extract_toList]
    show List.take (a.length + 1) (List.drop 0 (a ++ 10 :: r)) = a ++ [10]
    rw [List.drop_zero, List.take_append]
    rw [List.take_of_length_le (by omega)]
    rw [show a.length + 1 - a.length = 1 from by omega]
    rfl
  · congr 1
    apply ba_ext
    rw [← Lib.toList_data, Lib.extract_toList]
    show List.take _ (List.drop (a.length + 1) (a ++ 10 :: r)) = r
    rw [List.take_of_length_le (by rw [List.length_drop]; show (a ++ 10 :: r).length - (a.length + 1) ≤ (a ++ 10 :: r).length - (a.length + 1); exact Nat.le_refl _)]
    rw [List.drop_append]
    simp
def goodA (i : Nat) : List UInt8 := [60, 97, 62, 32, 60, 98, 62, 32, 34, UInt8.ofNat (97 + i), 34, 32, 46]
def goodN : Nat → List UInt8
  | 0 => []
  | n + 1 => goodN n ++ (goodA n ++ [10])
def badA (k : Nat) : List UInt8 := if k = 0 then [60, 97, 62, 32, 60, 98, 62, 32, 46] else if k = 1 then [60, 97, 62, 32, 60, 98, 62, 32, 60, 99, 62] else if k = 2 then [34, 97, 34, 32, 60, 98, 62, 32, 60, 99, 62, 32, 46] else if k = 3 then [60, 97, 62, 32, 95, 58, 98, 32, 60, 99, 62, 32, 46] else [60, 62, 32, 60, 98, 62, 32, 60, 99, 62, 32, 46]
def wantE (k : Nat) : Int := if k = 0 then 6 else if k = 1 then 6 else if k = 2 then 3 else if k = 3 then 3 else 1
def restN : Nat → List UInt8
  | 0 => []
  | n + 1 => restN n ++ [119, 104, 97, 116, 10]
theorem good_line : ∀ i : Fin 20, overL (endL (goodA i.val ++ [10])) = false ∧ tripE (endL (goodA i.val ++ [10])) = 0 ∧ (tripleL (endL (goodA i.val ++ [10]))).isSome = true ∧ (∀ c ∈ goodA i.val, c ≠ 10) := by decide +kernel
theorem bad_line : ∀ k : Fin 5, overL (endL (badA k.val ++ [10])) = false ∧ tripE (endL (badA k.val ++ [10])) = wantE k.val ∧ wantE k.val ≠ 0 ∧ (∀ c ∈ badA k.val, c ≠ 10) := by decide +kernel
end Go.Proofs.YtbkokckpjmbjhaaDoor
