/- Terms, plain: Compare is an order. -/
import Derived.Test.YtpoacgnncinmiaaTi
import Derived.Test.YtpoacgnncinmiaaTq
namespace Go.Proofs.Ytpoacgnncinmiaa
open Go.RowKit
set_option maxRecDepth 100000
set_option linter.unusedVariables false

theorem less_irrefl : ∀ l : List UInt8, Op.bytesLess l l = false
  | [] => rfl
  | a :: t => by unfold Op.bytesLess; simp [less_irrefl t]
theorem less_asymm : ∀ {x y : List UInt8}, Op.bytesLess x y = true → Op.bytesLess y x = false
  | [], [], h => by cases h
  | [], b :: t, _ => rfl
  | a :: s, [], h => by cases h
  | a :: s, b :: t, h => by
    unfold Op.bytesLess at h ⊢
    by_cases h1 : a < b
    · have h2 : ¬ b < a := by rw [UInt8.lt_iff_toNat_lt] at h1 ⊢; omega
      have h3 : (b == a) = false := by simp; rintro rfl; rw [UInt8.lt_iff_toNat_lt] at h1; omega
      simp [h2, h3]
    · by_cases h2 : a = b
      · subst h2
        simp at h ⊢
        exact less_asymm h
      · have h3 : (a == b) = false := by simpa using h2
        simp [h1, h3] at h
theorem less_total : ∀ {x y : List UInt8}, Op.bytesLess x y = false → x ≠ y → Op.bytesLess y x = true
  | [], [], _, h => (h rfl).elim
  | [], b :: t, h, _ => by cases h
  | a :: s, [], _, _ => rfl
  | a :: s, b :: t, h, hn => by
    unfold Op.bytesLess at h ⊢
    by_cases h1 : a = b
    · subst h1
      have hlt : ¬ a < a := by rw [UInt8.lt_iff_toNat_lt]; omega
      simp [hlt] at h ⊢
      exact less_total h (fun e => hn (by rw [e]))
    · have h3 : (a == b) = false := by simpa using h1
      by_cases h4 : a < b
      · simp [h4] at h
      · have h2 : b < a := by
          rw [UInt8.lt_iff_toNat_lt] at h4 ⊢
          have : a.toNat ≠ b.toNat := fun e => h1 (UInt8.toNat_inj.1 e)
          omega
        simp [h2]
theorem less_trans : ∀ {x y z : List UInt8}, Op.bytesLess x y = true → Op.bytesLess y z = true → Op.bytesLess x z = true
  | [], [], _, h, _ => by cases h
  | [], b :: t, [], _, h => by cases h
  | [], b :: t, c :: u, _, _ => rfl
  | a :: s, [], _, h, _ => by cases h
  | a :: s, b :: t, [], _, h => by cases h
  | a :: s, b :: t, c :: u, h, h' => by
    unfold Op.bytesLess at h h' ⊢
    by_cases h1 : a = b
    · subst h1
      have hlt : ¬ a < a := by rw [UInt8.lt_iff_toNat_lt]; omega
      simp [hlt] at h
      by_cases h2 : a < c
      · simp [h2]
      · simp [h2] at h' ⊢
        exact ⟨h'.1, less_trans h h'.2⟩
    · have h3 : (a == b) = false := by simpa using h1
      have h4 : a < b := by simpa [h3, h1] using h
      by_cases h5 : b = c
      · subst h5; simp [h4]
      · have h6 : (b == c) = false := by simpa using h5
        have h7 : b < c := by simpa [h6, h5] using h'
        have h8 : a < c := by rw [UInt8.lt_iff_toNat_lt] at *; omega
        simp [h8]
/-- A way to hold things against one another. -/
structure Ord {α : Type} (c : α → α → Int) : Prop where
  anti : ∀ x y, c y x = - c x y
  trans : ∀ x y z, c x y ≤ 0 → c y z ≤ 0 → c x z ≤ 0
theorem ordI_ord : Ord ordI := by
  refine ⟨fun x y => ?_, fun x y z => ?_⟩
  · unfold ordI; repeat' split
    all_goals omega
  · unfold ordI
    intro h1 h2
    have a : x ≤ y := by
      refine Int.not_lt.1 fun h => ?_
      rw [if_neg (by omega), if_pos h] at h1; omega
    have b : y ≤ z := by
      refine Int.not_lt.1 fun h => ?_
      rw [if_neg (by omega), if_pos h] at h2; omega
    split
    · omega
    · rw [if_neg (by omega)]; exact Int.le_refl _
theorem ordS_zero {a b : ByteArray} : ordS a b = 0 ↔ a.toList = b.toList := by
  unfold ordS
  constructor
  · intro h
    split at h
    · cases h
    split at h
    · assumption
    · cases h
  · intro h
    rw [h, less_irrefl]; simp
theorem ordS_le {a b : ByteArray} : ordS a b ≤ 0 ↔ Op.bytesLess b.toList a.toList = false := by
  unfold ordS
  constructor
  · intro h
    split at h
    · rename_i h1; exact less_asymm h1
    split at h
    · rename_i h1; rw [h1]; exact less_irrefl _
    · omega
  · intro h
    split
    · decide
    split
    · decide
    · rename_i h1 h2
      have := less_total h (fun e => h2 e.symm)
      exact absurd this h1
theorem ordS_ord : Ord ordS := by
  refine ⟨fun x y => ?_, fun x y z h1 h2 => ?_⟩
  · unfold ordS
    by_cases h : x.toList = y.toList
    · rw [h, less_irrefl]; simp
    · have h' : ¬ y.toList = x.toList := fun e => h e.symm
      cases hl : Op.bytesLess x.toList y.toList with
      | true => rw [less_asymm hl]; simp [h']
      | false => rw [less_total hl h]; simp [h]
  · rw [ordS_le] at h1 h2 ⊢
    cases hz : Op.bytesLess z.toList x.toList with
    | false => rfl
    | true =>
      by_cases hxy : x.toList = y.toList
      · rw [hxy] at hz; rw [hz] at h2; cases h2
      · have hlt := less_total h1 (fun e => hxy e.symm)
        have := less_trans hz hlt
        rw [this] at h2; cases h2
theorem Ord.self {α : Type} {c : α → α → Int} (h : Ord c) (x : α) : c x x = 0 := by have := h.anti x x; omega
theorem Ord.zero {α : Type} {c : α → α → Int} (h : Ord c) {x y : α} (e : c x y = 0) : c y x = 0 := by have := h.anti x y; omega
theorem Ord.lex {α : Type} {a b : α → α → Int} (ha : Ord a) (hb : Ord b) : Ord (fun x y => orI (a x y) (b x y)) := by
  refine ⟨fun x y => ?_, fun x y z h1 h2 => ?_⟩
  · have h1 := ha.anti x y
    have h2 := hb.anti x y
    unfold orI
    split <;> split <;> omega
  · unfold orI at h1 h2 ⊢
    have a1 : a x y ≤ 0 := by split at h1 <;> omega
    have a2 : a y z ≤ 0 := by split at h2 <;> omega
    have a3 := ha.trans x y z a1 a2
    split
    · rename_i h3
      have h4 := ha.zero h3
      have h5 := ha.trans z x y (by omega) a1
      have h6 := ha.anti y z
      have h7 := ha.trans y z x a2 (by omega)
      have h8 := ha.anti x y
      rw [if_pos (by omega)] at h1
      rw [if_pos (by omega)] at h2
      exact hb.trans x y z h1 h2
    · exact a3
theorem Ord.pull {α β : Type} {c : β → β → Int} (h : Ord c) (f : α → β) : Ord (fun x y => c (f x) (f y)) := ⟨fun x y => h.anti _ _, fun x y z => h.trans _ _ _⟩
theorem cmpT_ord : Ord cmpT :=
  (ordI_ord.pull (fun x : Tm => rankOf x.k)).lex ((ordI_ord.pull (fun x : Tm => x.k)).lex ((ordS_ord.pull (fun x : Tm => x.s)).lex ((ordS_ord.pull (fun x : Tm => x.l)).lex (ordS_ord.pull (fun x : Tm => x.t)))))
theorem orI_zero {a b : Int} : orI a b = 0 ↔ a = 0 ∧ b = 0 := by unfold orI; split <;> omega
theorem ordI_zero {a b : Int} : ordI a b = 0 ↔ a = b := by
  unfold ordI
  constructor
  · intro h; split at h; · cases h
    split at h; · cases h
    omega
  · rintro rfl; simp
theorem cmpT_zero (x y : Tm) : cmpT x y = 0 ↔ x = y := by
  obtain ⟨k, s, l, t⟩ := x
  obtain ⟨k2, s2, l2, t2⟩ := y
  unfold cmpT
  simp only [orI_zero, ordI_zero, ordS_zero, Lib.toList_data, Tm.mk.injEq]
  constructor
  · rintro ⟨-, h1, h2, h3, h4⟩; exact ⟨h1, ba_ext h2, ba_ext h3, ba_ext h4⟩
  · rintro ⟨rfl, rfl, rfl, rfl⟩; exact ⟨rfl, rfl, rfl, rfl, rfl⟩
theorem orI_range {a b : Int} (ha : -1 ≤ a ∧ a ≤ 1) (hb : -1 ≤ b ∧ b ≤ 1) : -1 ≤ orI a b ∧ orI a b ≤ 1 := by unfold orI; split <;> omega
theorem cmpT_range (x y : Tm) : -1 ≤ cmpT x y ∧ cmpT x y ≤ 1 :=
  orI_range (ordI_range _ _) (orI_range (ordI_range _ _) (orI_range (ordS_range _ _) (orI_range (ordS_range _ _) (ordS_range _ _))))
end Go.Proofs.Ytpoacgnncinmiaa
