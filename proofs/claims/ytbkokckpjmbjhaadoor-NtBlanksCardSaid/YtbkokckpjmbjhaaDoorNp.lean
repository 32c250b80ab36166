/- A triple's line, read back, with blanks and remarks, plain. -/
import Derived.Test.YtbkokckpjmbjhaaDoorNo
import Derived.Test.YtbkokckpjmbjhaaDoorNl
namespace Go.Proofs.YtbkokckpjmbjhaaDoor
open Go.RowKit Go.Shelf
set_option maxRecDepth 100000
set_option linter.unusedVariables false
def Bk (b : List UInt8) : Prop := ∀ c ∈ b, c = 32 ∨ c = 9
theorem skip_to (b : List UInt8) (hb : Bk b) (c : UInt8) (r : List UInt8) (h1 : c ≠ 32) (h2 : c ≠ 9) : skipL (b ++ c :: r) = c :: r := by
  unfold skipL Lib.trimLeftS
  induction b with
  | nil => simp [h1, h2]
  | cons d b ih =>
    have ih := ih (fun x hx => hb x (List.mem_cons_of_mem _ hx))
    rcases hb d (List.mem_cons_self ..) with rfl | rfl <;> simpa using ih
theorem skip_all (b : List UInt8) (hb : Bk b) : skipL b = [] := by
  unfold skipL Lib.trimLeftS
  induction b with
  | nil => rfl
  | cons d b ih =>
    have ih := ih (fun x hx => hb x (List.mem_cons_of_mem _ hx))
    rcases hb d (List.mem_cons_self ..) with rfl | rfl <;> simpa using ih
theorem text_head (x : Tm) : ∃ c r, textL x = c :: r ∧ c ≠ 32 ∧ c ≠ 9 ∧ c ≠ 35 := by
  unfold textL
  split
  · exact ⟨60, _, rfl, by decide, by decide, by decide⟩
  · split
    · exact ⟨95, _, rfl, by decide, by decide, by decide⟩
    · exact ⟨34, _, rfl, by decide, by decide, by decide⟩
theorem word_skip (b : List UInt8) (hb : Bk b) (x : Tm) (hx : checkOf x = 0) (r : List UInt8) (hr : Stop r ∨ x.k = 1) : wordL (skipL (b ++ (textL x ++ r))) = some (x, r) := by
  obtain ⟨c, q, e, h1, h2, -⟩ := text_head x
  have h := word_text x hx r hr
  rw [e] at h ⊢
  rw [List.cons_append] at h ⊢
  rw [skip_to b hb c _ h1 h2]
  exact h
theorem stop_blank (b : List UInt8) (hb : Bk b) (c : UInt8) (r : List UInt8) (h : c = 32 ∨ c = 46) : Stop (b ++ c :: r) := by
  intro d hd
  cases b with
  | nil =>
    obtain rfl : c = d := Option.some.inj hd
    rcases h with rfl | rfl
    · exact .inl rfl
    · exact .inr (.inr rfl)
  | cons e b =>
    obtain rfl : e = d := Option.some.inj hd
    rcases hb e (List.mem_cons_self ..) with rfl | rfl
    · exact .inl rfl
    · exact .inr (.inl rfl)
def lineL (x y z : Tm) (b tail : List UInt8) : List UInt8 := b ++ (textL x ++ (b ++ 32 :: (textL y ++ (b ++ (textL z ++ (b ++ 46 :: (b ++ tail)))))))
theorem fits_parts {x y z : Tm} (h : fitsT x y z = 0) : checkOf x = 0 ∧ checkOf y = 0 ∧ checkOf z = 0 ∧ y.k = 1 := by
  unfold fitsT at h
  split at h
  · next e => exact absurd h e
  next e1 =>
  split at h
  · next e => exact absurd h e
  next e2 =>
  split at h
  · next e => exact absurd h e
  next e3 =>
  split at h
  · cases h
  next e4 =>
  exact ⟨by omega, by omega, by omega, by omega⟩
theorem over_tail (b tail : List UInt8) (hb : Bk b) (ht : tail = [] ∨ ∃ u, tail = 35 :: u) : overL (b ++ tail) = true := by
  unfold overL
  rcases ht with rfl | ⟨u, rfl⟩
  · rw [List.append_nil, skip_all b hb]
  · rw [skip_to b hb 35 u (by decide) (by decide)]
    rfl
theorem triple_line {x y z : Tm} (h : fitsT x y z = 0) (b tail : List UInt8) (hb : Bk b) (ht : tail = [] ∨ ∃ u, tail = 35 :: u) : tripleL (lineL x y z b tail) = some (x, y, z) := by
  obtain ⟨h1, h2, h3, h4⟩ := fits_parts h
  unfold tripleL lineL
  rw [word_skip b hb x h1 _ (.inl (stop_blank b hb 32 _ (.inl rfl)))]
  dsimp only
  have e : b ++ 32 :: (textL y ++ (b ++ (textL z ++ (b ++ 46 :: (b ++ tail))))) = (b ++ [32]) ++ (textL y ++ (b ++ (textL z ++ (b ++ 46 :: (b ++ tail))))) := by simp
  have hb' : Bk (b ++ [32]) := fun c hc => (List.mem_append.1 hc).elim (hb c) (fun e => .inl (List.mem_singleton.1 e))
  rw [e, word_skip (b ++ [32]) hb' y h2 _ (.inr h4)]
  dsimp only
  rw [word_skip b hb z h3 _ (.inl (stop_blank b hb 46 _ (.inr rfl)))]
  dsimp only
  rw [skip_to b hb 46 _ (by decide) (by decide)]
  have e3 : Lib.trimPrefix (46 :: (b ++ tail)) [46] = b ++ tail := by
    unfold Lib.trimPrefix
    rw [if_pos (by rfl)]
    rfl
  rw [e3, over_tail b tail hb ht, if_pos ⟨rfl, rfl⟩]
theorem line_over (x y z : Tm) (b tail : List UInt8) (hb : Bk b) : overL (lineL x y z b tail) = false := by
  obtain ⟨c, q, e, h1, h2, h3⟩ := text_head x
  unfold overL lineL
  rw [e, List.cons_append, skip_to b hb c _ h1 h2]
  exact beq_eq_false_iff_ne.2 h3
theorem trip_line {x y z : Tm} (h : fitsT x y z = 0) (b tail : List UInt8) (hb : Bk b) (ht : tail = [] ∨ ∃ u, tail = 35 :: u) : tripE (lineL x y z b tail) = 0 := by
  unfold tripE
  rw [triple_line h b tail hb ht]
  exact h
theorem quo_no (c d : UInt8) (h : d ∈ quo c) : d ≠ 10 ∧ d ≠ 13 := by
  unfold quo at h
  split at h
  · simp at h; rcases h with rfl | rfl <;> decide
  split at h
  · simp at h; rcases h with rfl | rfl <;> decide
  split at h
  · simp at h; rcases h with rfl | rfl <;> decide
  split at h
  · simp at h; rcases h with rfl | rfl <;> decide
  split at h
  · simp at h; subst h; decide
  · next h2 h3 _ _ =>
    obtain rfl := List.mem_singleton.1 h
    exact ⟨fun e => h2 (by rw [e]; rfl), fun e => h3 (by rw [e]; rfl)⟩
theorem wrd_no (c : UInt8) (h : wrd c = true) : c ≠ 10 ∧ c ≠ 13 := by
  refine ⟨?_, ?_⟩
  all_goals
    rintro rfl
    exact absurd h (by decide)
theorem lng_no (c : UInt8) (h : lng c = true) : c ≠ 10 ∧ c ≠ 13 := by
  refine ⟨?_, ?_⟩
  all_goals
    rintro rfl
    exact absurd h (by decide)
theorem text_no (x : Tm) (hx : checkOf x = 0) : ∀ c ∈ textL x, c ≠ 10 ∧ c ≠ 13 := by
  obtain ⟨k, s, l, t⟩ := x
  unfold checkOf at hx
  dsimp only at hx
  split at hx
  · cases hx
  next hk =>
  split at hx
  · cases hx
  next hz =>
  split at hx
  · next e =>
    subst e
    split at hx
    rotate_left
    · cases hx
    next hb =>
    simp only [Bool.and_eq_true, refB] at hb
    intro c hc
    simp [textL] at hc
    rcases hc with rfl | hc | rfl
    · decide
    · exact (sgn_ne c (List.all_eq_true.1 hb.2.2 c (by simpa using hc))).2
    · decide
  next hk1 =>
  split at hx
  · next e =>
    subst e
    split at hx
    rotate_left
    · cases hx
    next hb =>
    simp only [Bool.and_eq_true, labB] at hb
    intro c hc
    simp [textL] at hc
    rcases hc with rfl | rfl | hc
    · decide
    · decide
    · exact wrd_no c (List.all_eq_true.1 hb.2.2 c (by simpa using hc))
  next hk2 =>
  obtain rfl : k = 3 := by omega
  split at hx
  rotate_left
  · cases hx
  next hb =>
  intro c hc
  have e : textL ⟨3, s, l, t⟩ = 34 :: (s.data.toList.flatMap quo ++ 34 :: tagL ⟨3, s, l, t⟩) := by simp [textL, quoL]
  rw [e] at hc
  rcases List.mem_cons.1 hc with rfl | hc
  · decide
  rcases List.mem_append.1 hc with hc | hc
  · obtain ⟨d, -, hd⟩ := List.mem_flatMap.1 hc
    exact quo_no d c hd
  rcases List.mem_cons.1 hc with rfl | hc
  · decide
  unfold tagB at hb
  unfold tagL at hc
  dsimp only at hb hc
  cases hl : l.toList.isEmpty with
  | true =>
    rw [hl] at hb hc
    cases ht : t.toList.isEmpty with
    | true => rw [ht] at hc; simp at hc
    | false =>
      rw [ht] at hb hc
      have hb' : refB t = true := by simpa using hb
      simp only [refB, Bool.and_eq_true] at hb'
      simp at hc
      rcases hc with rfl | rfl | hc | rfl
      · decide
      · decide
      · exact (sgn_ne c (List.all_eq_true.1 hb'.2 c (by simpa using hc))).2
      · decide
  | false =>
    rw [hl] at hb hc
    cases ht : t.toList.isEmpty with
    | false => rw [ht] at hb; simp at hb
    | true =>
      rw [ht] at hb
      have hb' : lanB l = true := by simpa using hb
      simp only [lanB, Bool.and_eq_true] at hb'
      simp at hc
      rcases hc with rfl | hc
      · decide
      · exact lng_no c (List.all_eq_true.1 hb'.2 c (by simpa using hc))
end Go.Proofs.YtbkokckpjmbjhaaDoor
