/- Triples as text, plain: what is left gets less; terms are terms. -/
import Derived.Test.YtefkppeicmipbaaGreatDoorUl
namespace Go.Proofs.YtefkppeicmipbaaGreatDoor
open Go.RowKit
set_option maxRecDepth 100000
set_option linter.unusedVariables false
set_option linter.unusedSimpArgs false
def St.len (s : St) : Nat := s.rest.length
theorem len_next (s : St) : s.next.len ≤ s.len := by unfold St.next St.len; simp
theorem len_next1 {s : St} (h : s.peek.1 ≠ 0) : s.next.len + 1 ≤ s.len := by
  unfold St.next St.len St.peek at *
  cases hr : s.rest with
  | nil => rw [hr] at h; exact absurd rfl h
  | cons a r => simp
theorem len_fail (s : St) (x : Int) : (s.fail x).len ≤ s.len := by unfold St.fail St.len; split <;> simp
theorem len_need (s : St) (l : List UInt8) : (s.need l).len ≤ s.len := by unfold St.need; split; exact len_next s; exact len_fail s 6
theorem len_many (s : St) : s.many.len ≤ s.len := by unfold St.many; split; exact len_fail s 4; exact Nat.le_refl _
theorem len_wrong (s : St) (x : Int) : (s.wrong x).len ≤ s.len := by unfold St.wrong; split; exact len_fail s x; exact Nat.le_refl _
theorem len_put (s : St) (x : Tri3) : (s.put x).len = s.len := by unfold St.put St.len; split <;> rfl
theorem len_tell (s : St) (x y z : Tm) : (s.tell x y z).len ≤ s.len := by unfold St.tell; rw [len_put]; exact Nat.le_trans (len_wrong _ _) (len_many _)
theorem len_fresh (s : St) : s.fresh.len = s.len := rfl
theorem len_up (s : St) : s.up.len = s.len := rfl
theorem len_down (s : St) : s.down.len ≤ s.len := by
  unfold St.down
  split
  · exact len_fail { s with deep := wrap64 (s.deep + 1) } 10
  · exact Nat.le_refl _
theorem len_ref (t : Tok) (s : St) : (refS t s).len ≤ s.len := by
  unfold refS
  split
  · exact Nat.le_refl _
  · split
    · split
      · exact Nat.le_refl _
      · exact len_fail s 11
    · exact len_fail s 6
theorem len_lit (s : St) : (litS s).len ≤ s.len := by
  unfold litS
  split
  · exact len_next s
  · split
    · exact Nat.le_trans (len_ref _ _) (Nat.le_trans (len_next _) (len_next _))
    · exact Nat.le_refl _
theorem len_pred (s : St) : (predS s).len ≤ s.next.len := by
  unfold predS
  split
  · exact Nat.le_refl _
  · exact len_ref _ _
theorem len_num (t : Tok) (s : St) : (numS t s).len ≤ s.len := by unfold numS; split; exact Nat.le_refl _; exact len_fail s 6
theorem len_skip (l : List UInt8) (s : St) : (s.skip l).len ≤ s.len := (skip_len l s.rest).1
theorem len_link (b : Tm) (l : Option Tm) (s : St) : (linkS b l s).len ≤ s.len := by cases l; exact Nat.le_refl _; exact len_tell _ _ _ _
theorem len_all (lab : ByteArray) : ∀ n : Nat, (∀ s, (objP lab n s).2.len ≤ s.len) ∧ (∀ t s, (nodeP lab n t s).2.len ≤ s.len) ∧ (∀ s, (brkP lab n s).2.len ≤ s.len) ∧ (∀ b s, (verbP lab n b s).len ≤ s.len) ∧ (∀ b p s, (objsP lab n b p s).2.len ≤ s.len) ∧ (∀ f l s, (colP lab n f l s).2.len ≤ s.len)
  | 0 => ⟨fun s => by rw [objP]; exact Nat.le_refl _, fun t s => by rw [nodeP]; exact Nat.le_refl _, fun s => by rw [brkP]; exact Nat.le_refl _, fun b s => by rw [verbP]; exact Nat.le_refl _, fun b p s => by rw [objsP]; exact Nat.le_refl _, fun f l s => by rw [colP]; exact Nat.le_refl _⟩
  | n + 1 => by
    obtain ⟨h1, h2, h3, h4, h5, h6⟩ := len_all lab n
    refine ⟨fun s => ?_, fun t s => ?_, fun s => ?_, fun b s => ?_, fun b p s => ?_, fun f l s => ?_⟩
    · rw [objP]
      split
      · exact Nat.le_trans (h3 _) (Nat.le_trans (len_down _) (len_next _))
      · split
        · exact Nat.le_trans (len_lit _) (len_next _)
        · split
          · exact len_next _
          · split
            · exact len_next _
            · split
              · exact Nat.le_trans (len_num _ _) (Nat.le_trans (len_next _) (len_next _))
              · split
                · exact Nat.le_trans (len_num _ _) (Nat.le_trans (len_next _) (len_next _))
                · exact Nat.le_trans (h2 _ _) (len_next _)
    · rw [nodeP]
      split
      · exact Nat.le_refl _
      · split
        · exact Nat.le_trans (h6 _ _ _) (len_down _)
        · exact len_ref _ _
    · rw [brkP]
      split
      · exact len_next s.fresh
      · exact Nat.le_trans (len_need _ _) (h4 _ _)
    · rw [verbP]
      have := h5 b (predT s) (predS s)
      split
      · rename_i s' he
        rw [he] at this
        have h7 : s'.len ≤ s.len := Nat.le_trans this (Nat.le_trans (len_pred _) (len_next _))
        split
        · exact h7
        · exact Nat.le_trans (h4 _ _) h7
      · rename_i s' he
        rw [he] at this
        exact Nat.le_trans this (Nat.le_trans (len_pred _) (len_next _))
    · rw [objsP]
      have := h1 s
      split
      rename_i o s0 he
      rw [he] at this
      have h7 : (s0.tell b p o).len ≤ s.len := Nat.le_trans (len_tell _ _ _ _) this
      dsimp only
      split
      · exact Nat.le_trans (h5 _ _ _) (Nat.le_trans (len_next _) h7)
      · split
        · exact Nat.le_trans (len_skip _ _) (Nat.le_trans (len_next _) h7)
        · exact h7
    · rw [colP]
      split
      · have := h1 s
        split
        rename_i o s0 he
        rw [he] at this
        dsimp only
        exact Nat.le_trans (h6 _ _ _) (Nat.le_trans (len_tell _ _ _ _) (Nat.le_trans (len_link _ _ _) this))
      · dsimp only
        refine Nat.le_trans (len_link _ _ _) ?_
        split
        · exact len_next _
        · exact Nat.le_refl _
/-- An object takes a token. -/
theorem obj_next (lab : ByteArray) (n : Nat) (s : St) : (objP lab (n + 1) s).2.len ≤ s.next.len := by
  obtain ⟨h1, h2, h3, h4, h5, h6⟩ := len_all lab n
  rw [objP]
  split
  · exact Nat.le_trans (h3 _) (len_down _)
  · split
    · exact len_lit _
    · split
      · exact Nat.le_refl _
      · split
        · exact Nat.le_refl _
        · split
          · exact Nat.le_trans (len_num _ _) (len_next _)
          · split
            · exact Nat.le_trans (len_num _ _) (len_next _)
            · exact h2 _ _
theorem obj_nil (lab : ByteArray) (n : Nat) (s : St) (h : s.rest = []) : (objP lab (n + 2) s).2.e ≠ 0 := by
  have hp := peek_nil h
  rw [objP, hp]
  rw [if_neg (by decide), if_neg (show ¬ (0 : Int) = 5 by decide), if_neg (by decide), if_neg (show ¬ (0 : Int) = 7 by decide), if_neg (by decide), if_neg (by decide), nodeP]
  rw [if_neg (show ¬ (0 : Int) = 3 by decide), if_neg (by decide), (ref_zero _).2]
  exact fail_ne (by decide)
theorem len_zero {s : St} (h : s.len = 0) : s.rest = [] := List.eq_nil_of_length_eq_zero h
theorem objs_true (lab : ByteArray) (b p : Tm) : ∀ (n : Nat) (s : St), (objsP lab n b p s).1 = true → (objsP lab n b p s).2.len + 1 ≤ s.len
  | 0, s => fun h => by rw [objsP] at h; cases h
  | n + 1, s => by
    have h1 := (len_all lab n).1 s
    rw [objsP]
    split
    rename_i o s0 he
    rw [he] at h1
    have h7 : (s0.tell b p o).len ≤ s.len := Nat.le_trans (len_tell _ _ _ _) h1
    dsimp only
    split
    · intro h
      have := objs_true lab b p n _ h
      have := len_next (s0.tell b p o)
      omega
    · split
      · rename_i h8
        intro _
        have := len_skip [59] (s0.tell b p o).next
        have := len_next1 (s := s0.tell b p o) (by rw [h8]; decide)
        show ((s0.tell b p o).next.skip [59]).len + 1 ≤ s.len
        omega
      · intro h; cases h
/-- Terms as the reader makes them. -/
theorem tm_ok {k : Int} {s l t : ByteArray} (hk : 0 ≤ k ∧ k ≤ 3) (hs : s.size ≤ 1000000) (hl : l.size ≤ 1000000) (ht : t.size ≤ 1000000) : (⟨k, s, l, t⟩ : Tm).Ok :=
  ⟨show (Lit.int .i64 k).wf = true from WalkArith.wf_i64 (by omega), Nat.le_trans hs (by decide), Nat.le_trans hl (by decide), Nat.le_trans ht (by decide)⟩
theorem blank_ok {lab : ByteArray} (h : lab.size ≤ 1000) (s : St) : (blankT lab s.fresh.n).Ok := by
  have hr := wrap64_range (s.n + 1)
  refine tm_ok ⟨by decide, by decide⟩ ?_ (Nat.zero_le _) (Nat.zero_le _)
  show (lab ++ bl (Lib.itoa s.fresh.n)).size ≤ _
  have e : (bl (Lib.itoa s.fresh.n)).size = (Lib.itoa s.fresh.n).length := by unfold bl; rw [Lib.size_eq]
  have := itoa_len s.fresh.n hr.1 hr.2
  rw [ByteArray.size_append, e]; omega
theorem named_ok {b : ByteArray} (h : b.size ≤ 1000000) : (named b).Ok := tm_ok ⟨by decide, by decide⟩ h (Nat.zero_le _) (Nat.zero_le _)
theorem typed_ok {b t : ByteArray} (h : b.size ≤ 1000000) (ht : t.size ≤ 1000000) : (typed b t).Ok := tm_ok ⟨by decide, by decide⟩ h (Nat.zero_le _) ht
theorem bl_size12 (l : List UInt8) : (bl l).size = l.length := by unfold bl; rw [Lib.size_eq]
theorem lit_ok {s : St} (h : Inv s) (l : List UInt8) (hl : l.length ≤ 90000) : (litT l s).Ok := by
  have hp := h.peek
  unfold litT
  split
  · exact tm_ok ⟨by decide, by decide⟩ (by show (bl l).size ≤ _; rw [bl_size12]; omega) (by show (bl _).size ≤ _; rw [bl_size12]; omega) (Nat.zero_le _)
  · split
    · have := ref_size h.next.next s.next.peek (by have := h.next.peek; exact this)
      exact typed_ok (by rw [bl_size12]; omega) (by omega)
    · exact typed_ok (by rw [bl_size12]; omega) (Nat.zero_le _)
theorem pred_ok {s : St} (h : Inv s) : (predT s).Ok := by
  unfold predT
  refine named_ok ?_
  split
  · decide
  · have := ref_size h.next s.peek (by have := h.peek; exact this); omega
theorem num_ok {m : List UInt8} {t : Tok} (hm : m.length ≤ 1) (ht : t.2.length ≤ 90000) : (numT m t).Ok := by
  unfold numT
  refine typed_ok ?_ ?_
  · rw [ByteArray.size_append, bl_size12, bl_size12]; omega
  · split <;> decide
theorem link_ok {b : Tm} (hb : b.Ok) (l : Option Tm) {f : Tm} (hf : f.Ok) : (linkT b l f).Ok := by cases l; exact hb; exact hf
theorem rnil_ok : (named rNilB).Ok := named_ok (by decide)
theorem col_ok {lab : ByteArray} (h : lab.size ≤ 1000) : ∀ (n : Nat) (f : Tm) (l : Option Tm) (s : St), f.Ok → (colP lab n f l s).1.Ok
  | 0, f, l, s => fun hf => by rw [colP]; exact hf
  | n + 1, f, l, s => fun hf => by
    rw [colP]
    split
    · split
      dsimp only
      exact col_ok h n _ _ _ (link_ok (blank_ok h _) l hf)
    · dsimp only
      exact link_ok rnil_ok l hf
theorem zero_ok : (⟨0, nobT, nobT, nobT⟩ : Tm).Ok := tm_ok ⟨by decide, by decide⟩ (Nat.zero_le _) (Nat.zero_le _) (Nat.zero_le _)
theorem node_ok {lab : ByteArray} (h : lab.size ≤ 1000) (n : Nat) (t : Tok) {s : St} (hi : Inv s) (ht : s.base.size + t.2.length ≤ 90000) : (nodeP lab n t s).1.Ok := by
  cases n with
  | zero => rw [nodeP]; exact zero_ok
  | succ n =>
    rw [nodeP]
    split
    · exact tm_ok ⟨by decide, by decide⟩ (by show (bl _).size ≤ _; rw [bl_size12]; omega) (Nat.zero_le _) (Nat.zero_le _)
    · split
      · dsimp only
        exact col_ok h n _ _ _ zero_ok
      · have := ref_size hi t ht
        exact named_ok (by omega)
theorem obj_ok {lab : ByteArray} (h : lab.size ≤ 1000) (n : Nat) {s : St} (hi : Inv s) : (objP lab n s).1.Ok := by
  have hp := hi.peek
  have hp2 := hi.next.peek
  cases n with
  | zero => rw [objP]; exact zero_ok
  | succ n =>
    rw [objP]
    split
    · cases n with
      | zero => rw [brkP]; exact zero_ok
      | succ n =>
        rw [brkP]
        dsimp only
        split <;> exact blank_ok h _
    · split
      · exact lit_ok hi.next _ (by omega)
      · split
        · exact typed_ok (by rw [bl_size12]; omega) (by decide)
        · split
          · exact num_ok (by decide) (by omega)
          · split
            · exact num_ok (by decide) (by omega)
            · split
              · exact num_ok (by decide) (by omega)
              · exact node_ok h n _ hi.next (by have e : s.next.base = s.base := rfl; rw [e]; exact hp)
end Go.Proofs.YtefkppeicmipbaaGreatDoor
