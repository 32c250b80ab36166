/- Triples as text, plain: what stays within bounds. -/
import Derived.Test.YtefkppeicmipbaaGreatDoorUa
import Derived.Test.YtefkppeicmipbaaGreatDoorKk
namespace Go.Proofs.YtefkppeicmipbaaGreatDoor
open Go.RowKit
set_option maxRecDepth 100000
set_option linter.unusedVariables false
set_option linter.unusedSimpArgs false
def msr : List Tok → Nat
  | [] => 0
  | t :: r => t.2.length + 8 + msr r
/-- The bounds of a document on its way. -/
structure Inv (s : St) : Prop where
  size : s.base.size + msr s.rest ≤ 90000
  pre : ∀ p ∈ s.pre, p.2.size ≤ 90000
  cnt : s.pre.length + s.rest.length ≤ 90000
  told : s.told.length ≤ 300
  dead : s.e ≠ 0 → s.rest = []
theorem Inv.fail {s : St} (h : Inv s) (x : Int) : Inv (s.fail x) := by
  unfold St.fail
  split
  · exact ⟨by have := h.size; simp [msr]; omega, h.pre, by have := h.cnt; simp; omega, by simp, fun _ => rfl⟩
  · exact h
theorem msr_tail (l : List Tok) : msr l.tail ≤ msr l := by cases l <;> simp [msr]
theorem Inv.next {s : St} (h : Inv s) : Inv s.next := by
  refine ⟨?_, h.pre, ?_, h.told, fun he => by unfold St.next; dsimp only; rw [h.dead he]; rfl⟩
  · have := h.size; have := msr_tail s.rest; unfold St.next; dsimp only; omega
  · have := h.cnt; have := List.length_tail (l := s.rest); unfold St.next; dsimp only; omega
theorem Inv.peek {s : St} (h : Inv s) : s.base.size + s.peek.2.length ≤ 90000 := by
  have := h.size
  unfold St.peek
  cases hr : s.rest with
  | nil => rw [hr] at this; simp [msr] at this ⊢; omega
  | cons t r => rw [hr] at this; simp [msr] at this ⊢; omega
/-- Behind a token: it and what is left. -/
theorem Inv.pop {s : St} (h : Inv s) : s.peek.1 ≠ 0 → s.base.size + s.peek.2.length + 8 + msr s.next.rest ≤ 90000 ∧ s.pre.length + 1 + s.next.rest.length ≤ 90000 := by
  have h1 := h.size
  have h2 := h.cnt
  unfold St.peek St.next
  cases hr : s.rest with
  | nil => intro hk; exact absurd rfl hk
  | cons t r => rw [hr] at h1 h2; intro _; simp [msr] at h1 h2 ⊢; omega
theorem Inv.need {s : St} (h : Inv s) (l : List UInt8) : Inv (s.need l) := by unfold St.need; split; exact h.next; exact h.fail 6
theorem Inv.take {s : St} (h : Inv s) (l : List UInt8) : Inv (s.take l) := by unfold St.take; split; exact h.next; exact h
theorem Inv.many {s : St} (h : Inv s) : Inv s.many := by unfold St.many; split; exact h.fail 4; exact h
theorem Inv.wrong {s : St} (h : Inv s) (x : Int) : Inv (s.wrong x) := by unfold St.wrong; split; exact h.fail x; exact h
theorem fail_base (s : St) (x : Int) : (s.fail x).base = s.base ∧ (s.fail x).pre = s.pre ∧ (s.fail x).n = s.n ∧ (s.fail x).deep = s.deep := by unfold St.fail; split <;> exact ⟨rfl, rfl, rfl, rfl⟩
theorem fail_told {s : St} (x : Int) : (s.fail x).e = 0 → x = 0 ∨ s.fail x = s := by
  unfold St.fail
  split
  · intro h; exact .inl h
  · intro h; exact .inr rfl
/-- Where a triple is put there is room for it. -/
theorem many_room {s : St} (h : Inv s) (x : Int) : ((s.many).wrong x).e = 0 → ((s.many).wrong x).told.length ≤ 299 := by
  intro he
  unfold St.wrong at he ⊢
  have h4 : s.many.e = 0 → s.many.told.length ≤ 299 := by
    intro h0
    unfold St.many at h0 ⊢
    split
    · rename_i h3
      rw [if_pos h3] at h0
      unfold St.fail at h0 ⊢
      split
      · simp
      · rename_i h5; rw [if_neg h5] at h0; exact absurd h0 h5
    · rename_i h3; have := h.told; omega
  split
  · rename_i hx
    rw [if_pos hx] at he
    unfold St.fail at he ⊢
    split
    · simp
    · rename_i h5; rw [if_neg h5] at he; exact absurd he h5
  · rename_i hx
    rw [if_neg hx] at he
    exact h4 he
theorem Inv.put {s : St} (h : Inv s) (x : Tri3) (hr : s.e = 0 → s.told.length ≤ 299) : Inv (s.put x) := by
  unfold St.put
  split
  · rename_i he; exact ⟨h.size, h.pre, h.cnt, by have := hr he; simp; omega, h.dead⟩
  · exact h
theorem Inv.tell {s : St} (h : Inv s) (x y z : Tm) : Inv (s.tell x y z) := (h.many.wrong _).put _ (many_room h _)
theorem Inv.fresh {s : St} (h : Inv s) : Inv s.fresh := ⟨h.size, h.pre, h.cnt, h.told, h.dead⟩
theorem Inv.down {s : St} (h : Inv s) : Inv s.down := by
  unfold St.down
  split
  · exact Inv.fail (s := { s with deep := wrap64 (s.deep + 1) }) ⟨h.size, h.pre, h.cnt, h.told, h.dead⟩ 10
  · exact ⟨h.size, h.pre, h.cnt, h.told, h.dead⟩
theorem Inv.up {s : St} (h : Inv s) : Inv s.up := ⟨h.size, h.pre, h.cnt, h.told, h.dead⟩
theorem Inv.refS' {s : St} (h : Inv s) (t : Tok) : Inv (refS t s) := by
  unfold refS
  split
  · exact h
  · split
    · split
      · exact h
      · exact h.fail 11
    · exact h.fail 6
theorem Inv.resdS' {s : St} (h : Inv s) : Inv (resdS s) := by unfold resdS; split; exact h; exact h.fail 6
theorem skip_len (l : List UInt8) : ∀ r : List Tok, (skipN l r).length ≤ r.length ∧ msr (skipN l r) ≤ msr r
  | [] => ⟨Nat.le_refl _, Nat.le_refl _⟩
  | t :: r => by
    have := skip_len l r
    unfold skipN
    split
    · simp [msr]; omega
    · exact ⟨Nat.le_refl _, Nat.le_refl _⟩
theorem Inv.skip {s : St} (h : Inv s) (l : List UInt8) : Inv (s.skip l) := by
  have := skip_len l s.rest
  refine ⟨?_, h.pre, ?_, h.told, fun he => by unfold St.skip; dsimp only; rw [h.dead he]; rfl⟩
  · have := h.size; unfold St.skip; dsimp only; omega
  · have := h.cnt; unfold St.skip; dsimp only; omega
theorem res_size (b : ByteArray) (r : List UInt8) : (resB b r).size ≤ b.size + r.length + 1 := by
  unfold resB bl
  rw [Lib.size_eq]
  have h1 := pt_sizes b.data.toList
  have h2 := pt_sizes r
  rw [← Lib.size_eq] at h1
  generalize splitL b.data.toList = B at *
  generalize splitL r = R at *
  have hd := dot_len R.p
  have hf := dot_len (folderL B ++ R.p)
  have hfo : (folderL B).length ≤ B.p.length + 1 := by
    unfold folderL
    split
    · simp
    · have := (dir_len B.p).1; omega
  simp only [List.length_append] at hf
  show (resolveL B R).length ≤ _
  unfold resolveL
  repeat' split
  all_goals simp only [List.length_append]
  all_goals first | omega | (split <;> omega)
theorem look_size {l : List (List UInt8 × ByteArray)} {k : List UInt8} (h : ∀ p ∈ l, p.2.size ≤ 90000) : ((lookP k l).getD nobT).size ≤ 90000 := by
  induction l with
  | nil => exact Nat.zero_le _
  | cons p r ih =>
    unfold lookP
    split
    · exact h _ (List.mem_cons_self ..)
    · exact ih (fun q hq => h q (List.mem_cons_of_mem _ hq))
/-- What a reference is long. -/
theorem ref_size {s : St} (h : Inv s) (t : Tok) (ht : s.base.size + t.2.length ≤ 90000) : (refT t s).size ≤ 180001 := by
  unfold refT
  split
  · have := res_size s.base t.2; omega
  · split
    · have := look_size (k := t.2.take (colonN t.2)) h.pre
      have e : (bl (t.2.drop (colonN t.2))).size ≤ t.2.length := by unfold bl; rw [Lib.size_eq]; simp
      have e2 : ∀ a b : ByteArray, (a ++ b).size = a.size + b.size := fun a b => ByteArray.size_append
      rw [e2]; omega
    · exact Nat.zero_le _
theorem fail_rest {s : St} (h : Inv s) (x : Int) : (s.fail x).rest = [] := by
  unfold St.fail
  split
  · rfl
  · rename_i he; exact h.dead he
theorem ref_zero (s : St) : refT (0, []) s = nobT ∧ refS (0, []) s = s.fail 6 := by
  unfold refT refS
  exact ⟨by rw [if_neg (show ¬ (0 : Int) = 1 by decide), if_neg (show ¬ (0 : Int) = 2 by decide)], by rw [if_neg (show ¬ (0 : Int) = 1 by decide), if_neg (show ¬ (0 : Int) = 2 by decide)]⟩
theorem peek_nil {s : St} (h : s.rest = []) : s.peek = (0, []) := by unfold St.peek; rw [h]; rfl
/-- What stands behind '@base' is not too long. -/
theorem resd_size {s : St} (h : Inv s) : (resdT s).size + msr (resdE s).rest ≤ 90000 := by
  unfold resdT resdE resdS
  by_cases hk : s.peek.1 = 1
  · rw [if_pos hk]
    have h1 := h.pop (by rw [hk]; decide)
    unfold refT refS
    rw [if_pos hk, if_pos hk]
    have := res_size s.next.base s.peek.2
    have e : s.next.base = s.base := rfl
    rw [e] at this ⊢
    omega
  · rw [if_neg hk, peek_nil (fail_rest h 6)]
    have hn : ((s.fail 6).next).rest = [] := by unfold St.next; rw [fail_rest h 6]; rfl
    rw [(ref_zero _).1, (ref_zero _).2, fail_rest (h.fail 6).next 6]
    exact Nat.zero_le _
theorem resd_inv {s : St} (h : Inv s) : Inv (resdE s) := by unfold resdE; exact (h.resdS').next.refS' _
theorem resd_pre (s : St) : (resdE s).pre = s.pre ∧ (resdE s).rest.length ≤ s.rest.length := by
  have hf : ∀ (s : St) x, (s.fail x).pre = s.pre ∧ (s.fail x).rest.length ≤ s.rest.length := fun s x => by unfold St.fail; split <;> simp
  have hr : ∀ t (s : St), (refS t s).pre = s.pre ∧ (refS t s).rest.length ≤ s.rest.length := fun t s => by
    unfold refS
    split
    · exact ⟨rfl, Nat.le_refl _⟩
    · split
      · split
        · exact ⟨rfl, Nat.le_refl _⟩
        · exact hf s 11
      · exact hf s 6
  have hs : (resdS s).pre = s.pre ∧ (resdS s).rest.length ≤ s.rest.length := by
    unfold resdS
    split
    · exact ⟨rfl, Nat.le_refl _⟩
    · exact hf s 6
  unfold resdE
  obtain ⟨a, b⟩ := hr (resdS s).peek (resdS s).next
  refine ⟨a.trans hs.1, Nat.le_trans b (Nat.le_trans ?_ hs.2)⟩
  unfold St.next
  simp
end Go.Proofs.YtefkppeicmipbaaGreatDoor
