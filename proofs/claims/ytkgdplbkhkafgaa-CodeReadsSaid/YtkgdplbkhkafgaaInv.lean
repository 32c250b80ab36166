/- What is left to read of what was written: plain. -/
import Derived.Test.YtkgdplbkhkafgaaNums
namespace Go.Proofs.Ytkgdplbkhkafgaa
open Go.RowKit

/-- 'rest' is what still should be read; what stands in the reader is that and t (full), or it without its last byte, or that was found out. -/
def Inv (full : Bool) (t rest L : List UInt8) (E : Int) (o : Bool) : Prop :=
  (full = true ∧ L = rest ++ t ∧ E = 0 ∧ o = true) ∨ (full = false ∧ (E = 7 ∨ (E = 0 ∧ ∃ c, L ++ [c] = rest)))

/-- A cut list: either the front is whole, or it is cut. -/
theorem cut_front {L a rest : List UInt8} {c : UInt8} (h : L ++ [c] = a ++ rest) : L.length < a.length ∨ ∃ L', L = a ++ L' ∧ L' ++ [c] = rest := by
  by_cases hl : L.length < a.length
  · exact .inl hl
  · right
    refine ⟨L.drop a.length, ?_, ?_⟩
    · have h1 : (L ++ [c]).take a.length = a := by rw [h]; exact List.take_left
      rw [List.take_append_of_le_length (by omega)] at h1
      have h2 := List.take_append_drop a.length L
      rw [h1] at h2
      exact h2.symm
    · have h1 : (L ++ [c]).drop a.length = rest := by rw [h]; exact List.drop_left
      rw [List.drop_append_of_le_length (by omega)] at h1
      exact h1

theorem inv_num {full : Bool} {t rest L : List UInt8} {E : Int} {o : Bool} (x y : Int) (n : Nat) (hy : wrap64 (num (le x n)) = y) (h : Inv full t (le x n ++ rest) L E o) (q : Bool) (hq : wrap64 (num (tookOf L E n)) = y → q = true) :
    Inv full t rest (leftOf L E n) (errOf L E n) (q && o) := by
  rcases h with ⟨rfl, rfl, rfl, rfl⟩ | ⟨rfl, rfl | ⟨rfl, c, hc⟩⟩
  · have hf := took_front (le x n) (rest ++ t) n (le_length _ _)
    rw [← List.append_assoc] at hf
    rw [hf.1] at hq
    exact .inl ⟨rfl, hf.2.1, hf.2.2, by rw [hq hy]; rfl⟩
  · exact .inr ⟨rfl, .inl (err_err _ (by decide))⟩
  · rcases cut_front hc with hl | ⟨L', rfl, hL'⟩
    · rw [le_length] at hl
      exact .inr ⟨rfl, .inl (err_cut hl)⟩
    · have hf := took_front (le x n) L' n (le_length _ _)
      exact .inr ⟨rfl, .inr ⟨hf.2.2, c, by rw [hf.2.1]; exact hL'⟩⟩

theorem inv_text {full : Bool} {t rest L : List UInt8} {E : Int} {o : Bool} (s : ByteArray) (hs : s.size ≤ 65535) (h : Inv full t (tx s ++ rest) L E o) (q : Bool) (hq : textOf L E = s.data.toList → q = true) :
    Inv full t rest (textLeft L E) (textErr L E) (q && o) := by
  have hsz : s.data.toList.length = s.size := by rw [Array.length_toList]; rfl
  have htx : tx s = le (s.data.toList.length : Nat) 2 ++ s.data.toList := by
    unfold tx
    rw [List.take_of_length_le (by omega), hsz]
    congr 2
    omega
  rw [htx] at h
  generalize s.data.toList = m at *
  rcases h with ⟨rfl, rfl, rfl, rfl⟩ | ⟨rfl, rfl | ⟨rfl, c, hc⟩⟩
  · have hb := text_back m (rest ++ t) (by omega)
    rw [← List.append_assoc] at hb
    rw [hb.1] at hq
    exact .inl ⟨rfl, hb.2.1, hb.2.2, by rw [hq rfl]; rfl⟩
  · exact .inr ⟨rfl, .inl (text_err (by decide)).2.2⟩
  · right
    refine ⟨rfl, ?_⟩
    rw [List.append_assoc] at hc
    rcases cut_front hc with hl | ⟨L', rfl, hL'⟩
    · rw [le_length] at hl
      left
      unfold textErr
      rw [left_cut hl, err_cut hl, took_cut hl]
      exact err_err _ (by decide)
    · have hf := took_front (le (m.length : Nat) 2) L' 2 (le_length _ _)
      unfold textErr textLeft
      rw [hf.1, hf.2.1, hf.2.2, num_le2 _ (by omega)]
      rcases cut_front hL' with hl | ⟨L'', rfl, hL''⟩
      · left; exact err_cut hl
      · have hg := took_front m L'' m.length rfl
        right
        exact ⟨hg.2.2, c, by rw [hg.2.1]; exact hL''⟩

theorem inv_end {t L : List UInt8} {E : Int} {o : Bool} (h : Inv true t [] L E o) : L = t ∧ E = 0 ∧ o = true := by
  rcases h with ⟨_, h1, h2, h3⟩ | ⟨h, _⟩
  · exact ⟨by simpa using h1, h2, h3⟩
  · cases h
theorem inv_cut {t L : List UInt8} {E : Int} {o : Bool} (h : Inv false t [] L E o) : E = 7 := by
  rcases h with ⟨h, _⟩ | ⟨_, h | ⟨_, c, hc⟩⟩
  · cases h
  · exact h
  · simp at hc

theorem bytes_ne {a b : ByteArray} (h : a ≠ b) : (a.toList == b.toList) = false := by
  refine beq_eq_false_iff_ne.2 fun e => h ?_
  rw [Lib.toList_data, Lib.toList_data] at e
  obtain ⟨a⟩ := a
  obtain ⟨b⟩ := b
  exact congrArg ByteArray.mk (Array.toList_inj.1 e)

/-- All that is written of numbers and texts. -/
def ints (zs : List Int) : List UInt8 := zs.flatMap fun x => le x 8
def texts (ss : List ByteArray) : List UInt8 := ss.flatMap tx
theorem ints_length (zs : List Int) : (ints zs).length = 8 * zs.length := by
  induction zs with
  | nil => rfl
  | cons x t ih =>
    have : ints (x :: t) = le x 8 ++ ints t := rfl
    rw [this, List.length_append, ih, le_length, List.length_cons]
    omega
theorem texts_length (ss : List ByteArray) (h : ∀ s ∈ ss, s.size ≤ 200) : (texts ss).length ≤ 202 * ss.length := by
  induction ss with
  | nil => simp [texts]
  | cons x t ih =>
    have e : texts (x :: t) = tx x ++ texts t := rfl
    have h1 := ih fun s hs => h s (List.mem_cons_of_mem _ hs)
    have h2 := h x List.mem_cons_self
    rw [e, List.length_append, tx_length, List.length_cons]
    omega
theorem take_snoc {α : Type} (l : List α) (k : Nat) (d : α) (h : k < l.length) : l.take (k + 1) = l.take k ++ [l.getD k d] := by
  rw [List.take_succ_eq_append_getElem h]
  simp [List.getD, h]
theorem drop_cons {α : Type} (l : List α) (k : Nat) (d : α) (h : k < l.length) : l.drop k = l.getD k d :: l.drop (k + 1) := by
  rw [List.drop_eq_getElem_cons h]
  simp [List.getD, h]
theorem ints_snoc (zs : List Int) (x : Int) : ints (zs ++ [x]) = ints zs ++ le x 8 := by simp [ints]
theorem texts_snoc (ss : List ByteArray) (x : ByteArray) : texts (ss ++ [x]) = texts ss ++ tx x := by simp [texts]
end Go.Proofs.Ytkgdplbkhkafgaa
