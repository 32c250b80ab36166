/- A term's text, read back, plain. -/
import Derived.Test.YtbkokckpjmbjhaaDoorNk
namespace Go.Proofs.YtbkokckpjmbjhaaDoor
open Go.RowKit Go.Shelf
set_option maxRecDepth 100000
set_option linter.unusedVariables false
theorem byte_skip (k : UInt8) : ∀ (a r : List UInt8), (∀ c ∈ a, c ≠ k) → Lib.indexByte (a ++ k :: r) k = a.length
  | [], r, _ => by
    show Lib.indexByte (k :: r) k = 0
    unfold Lib.indexByte
    rw [if_pos (beq_self_eq_true k)]
  | c :: a, r, h => by
    have hc : (c == k) = false := beq_eq_false_iff_ne.2 (h c (List.mem_cons_self ..))
    have := byte_skip k a r (fun x hx => h x (List.mem_cons_of_mem _ hx))
    show Lib.indexByte (c :: (a ++ k :: r)) k = _
    unfold Lib.indexByte
    rw [hc, this]
    have h2 : (((a.length : Nat) : Int) == -1) = false := beq_eq_false_iff_ne.2 (by omega)
    rw [h2]
    simp
theorem cut_at (k : UInt8) (a r : List UInt8) (h : ∀ c ∈ a, c ≠ k) : cutL k (a ++ k :: r) = some (a, r) := by
  unfold cutL
  rw [byte_skip k a r h, if_pos (by omega), Int.toNat_natCast]
  simp [List.drop_append]
theorem quot_quo (c : UInt8) (l r s : List UInt8) (h : quotL r = some (l, s)) : quotL (quo c ++ r) = some (c :: l, s) := by
  unfold quo
  split
  · next e =>
    obtain rfl : c = 9 := UInt8.toNat_inj.1 e
    show quotL (92 :: 116 :: r) = _
    simp [quotL, meantL, h]
  split
  · next e =>
    obtain rfl : c = 10 := UInt8.toNat_inj.1 e
    show quotL (92 :: 110 :: r) = _
    simp [quotL, meantL, h]
  split
  · next e =>
    obtain rfl : c = 13 := UInt8.toNat_inj.1 e
    show quotL (92 :: 114 :: r) = _
    simp [quotL, meantL, h]
  split
  · next e =>
    obtain rfl : c = 34 := UInt8.toNat_inj.1 e
    show quotL (92 :: 34 :: r) = _
    simp [quotL, meantL, h]
  split
  · next e =>
    obtain rfl : c = 92 := UInt8.toNat_inj.1 e
    show quotL (92 :: 92 :: r) = _
    simp [quotL, meantL, h]
  · next h4 h5 =>
    have n4 : ¬ c = 34 := fun e => h4 (by rw [e]; rfl)
    have n5 : ¬ c = 92 := fun e => h5 (by rw [e]; rfl)
    show quotL (c :: r) = _
    unfold quotL
    rw [if_neg n4, if_neg n5, h]
    rfl
theorem quot_back : ∀ (l r : List UInt8), quotL (l.flatMap quo ++ 34 :: r) = some (l, r)
  | [], r => by
    show quotL (34 :: r) = _
    unfold quotL
    rw [if_pos rfl]
  | c :: l, r => by
    rw [List.flatMap_cons, List.append_assoc]
    exact quot_quo c l _ r (quot_back l r)
/-- What may stand behind a term. -/
def Stop (r : List UInt8) : Prop := ∀ c, r.head? = some c → c = 32 ∨ c = 9 ∨ c = 46
theorem take_stop (p : UInt8 → Bool) (h32 : p 32 = false) (h9 : p 9 = false) (h46 : p 46 = false) : ∀ (s r : List UInt8), (∀ c ∈ s, p c = true) → Stop r → (s ++ r).takeWhile p = s ∧ (s ++ r).dropWhile p = r
  | [], [], _, _ => ⟨rfl, rfl⟩
  | [], c :: r, _, hr => by
    have : p c = false := by rcases hr c rfl with rfl | rfl | rfl <;> assumption
    simp [this]
  | c :: s, r, h, hr => by
    have hc := h c (List.mem_cons_self ..)
    obtain ⟨h1, h2⟩ := take_stop p h32 h9 h46 s r (fun x hx => h x (List.mem_cons_of_mem _ hx)) hr
    simp [hc, h1, h2]
theorem wrd_name (c : UInt8) (h : wrd c = true) : nameB c = true := by
  unfold wrd sml at h
  unfold nameB
  simp only [Bool.or_eq_true, Bool.and_eq_true, decide_eq_true_eq] at h ⊢
  omega
theorem lng_spok (c : UInt8) (h : lng c = true) : spokB c = true := by
  unfold lng sml at h
  unfold spokB
  simp only [Bool.or_eq_true, Bool.and_eq_true, decide_eq_true_eq] at h ⊢
  omega
theorem sgn_ne (c : UInt8) (h : sgn c = true) : c ≠ 62 ∧ c ≠ 10 ∧ c ≠ 13 := by
  refine ⟨?_, ?_, ?_⟩
  all_goals
    rintro rfl
    exact absurd h (by decide)
theorem empty_of {b : ByteArray} (h : b.toList.isEmpty = true) : b = ⟨#[]⟩ := by
  apply ba_ext
  rw [← Lib.toList_data]
  simpa using h
theorem full_of {b : ByteArray} (h : b.toList.isEmpty = false) : b.data.toList ≠ [] := by
  rw [← Lib.toList_data]
  intro e
  rw [e] at h
  cases h
theorem ref_ne {b : ByteArray} (h : refB b = true) : ∀ c ∈ b.data.toList, c ≠ 62 := by
  unfold refB at h
  simp only [Bool.and_eq_true] at h
  exact fun c hc => (sgn_ne c (List.all_eq_true.1 h.2 c hc)).1
theorem word_text (x : Tm) (hx : checkOf x = 0) (r : List UInt8) (hr : Stop r ∨ x.k = 1) : wordL (textL x ++ r) = some (x, r) := by
  obtain ⟨k, s, l, t⟩ := x
  unfold checkOf at hx
  dsimp only at hx hr
  split at hx
  · cases hx
  next hk =>
  split at hx
  · cases hx
  next hz =>
  split at hx
  · next e =>
    subst e
    split at hx
    rotate_left
    · cases hx
    next hb =>
    simp only [Bool.and_eq_true, barB] at hb
    obtain ⟨⟨h1, h2⟩, h3⟩ := hb
    obtain rfl := empty_of h1
    obtain rfl := empty_of h2
    have e : textL ⟨1, s, ⟨#[]⟩, ⟨#[]⟩⟩ ++ r = 60 :: (s.data.toList ++ 62 :: r) := by simp [textL]
    rw [e]
    unfold wordL
    rw [if_pos (by rfl)]
    show (cutL 62 (s.data.toList ++ 62 :: r)).map _ = _
    rw [cut_at 62 _ _ (ref_ne h3)]
    rfl
  next hk1 =>
  have hr' : Stop r := hr.elim id (fun e => absurd e hk1)
  split at hx
  · next e =>
    subst e
    split at hx
    rotate_left
    · cases hx
    next hb =>
    simp only [Bool.and_eq_true, barB, labB] at hb
    obtain ⟨⟨h1, h2⟩, -, h3⟩ := hb
    obtain rfl := empty_of h1
    obtain rfl := empty_of h2
    have e : textL ⟨2, s, ⟨#[]⟩, ⟨#[]⟩⟩ ++ r = 95 :: 58 :: (s.data.toList ++ r) := by simp [textL]
    rw [e]
    obtain ⟨t1, t2⟩ := take_stop nameB (by decide) (by decide) (by decide) s.data.toList r (fun c hc => wrd_name c (List.all_eq_true.1 h3 c hc)) hr'
    unfold wordL
    rw [if_neg (by simp [Lib.hasPrefix]), if_pos (by rfl)]
    show some ((⟨2, ⟨((s.data.toList ++ r).takeWhile nameB).toArray⟩, ⟨#[]⟩, ⟨#[]⟩⟩ : Tm), (s.data.toList ++ r).dropWhile nameB) = _
    rw [t1, t2]
  next hk2 =>
  obtain rfl : k = 3 := by omega
  split at hx
  rotate_left
  · cases hx
  next hb =>
  have e : textL ⟨3, s, l, t⟩ ++ r = 34 :: (s.data.toList.flatMap quo ++ 34 :: (tagL ⟨3, s, l, t⟩ ++ r)) := by simp [textL, quoL]
  rw [e]
  unfold wordL
  rw [if_neg (by simp [Lib.hasPrefix]), if_neg (by simp [Lib.hasPrefix]), if_pos (by rfl)]
  show litL (s.data.toList.flatMap quo ++ 34 :: (tagL ⟨3, s, l, t⟩ ++ r)) = _
  unfold litL
  rw [quot_back]
  dsimp only
  unfold tagB at hb
  unfold tagL
  dsimp only at hb ⊢
  cases hl : l.toList.isEmpty with
  | true =>
    obtain rfl := empty_of hl
    rw [hl] at hb
    cases ht : t.toList.isEmpty with
    | true =>
      obtain rfl := empty_of ht
      rw [if_pos rfl, if_pos rfl]
      have n1 : Lib.hasPrefix ([] ++ r) [64] = false := by
        cases r with
        | nil => rfl
        | cons c r =>
          rcases hr' c rfl with rfl | rfl | rfl <;> rfl
      have n2 : Lib.hasPrefix ([] ++ r) [94, 94, 60] = false := by
        cases r with
        | nil => rfl
        | cons c r =>
          rcases hr' c rfl with rfl | rfl | rfl <;> rfl
      rw [n1, n2]
      rfl
    | false =>
      rw [ht] at hb
      have hb' : refB t = true := by simpa using hb
      simp only [if_true, Bool.false_eq_true, if_false]
      have e2 : (94 :: 94 :: 60 :: (t.data.toList ++ [62])) ++ r = 94 :: 94 :: 60 :: (t.data.toList ++ 62 :: r) := by simp
      rw [e2, if_neg (by simp [Lib.hasPrefix]), if_pos (by simp [Lib.hasPrefix])]
      show (cutL 62 (t.data.toList ++ 62 :: r)).map _ = _
      rw [cut_at 62 _ _ (ref_ne hb')]
      rfl
  | false =>
    rw [hl] at hb
    cases ht : t.toList.isEmpty with
    | false => rw [ht] at hb; simp at hb
    | true =>
      obtain rfl := empty_of ht
      rw [ht] at hb
      have hb' : lanB l = true := by simpa using hb
      unfold lanB at hb'
      simp only [Bool.and_eq_true] at hb'
      obtain ⟨t1, t2⟩ := take_stop spokB (by decide) (by decide) (by decide) l.data.toList r (fun c hc => lng_spok c (List.all_eq_true.1 hb'.2 c hc)) hr'
      simp only [Bool.false_eq_true, if_false]
      rw [List.cons_append, if_pos (by simp [Lib.hasPrefix])]
      show some ((⟨3, ⟨s.data.toList.toArray⟩, ⟨((l.data.toList ++ r).takeWhile spokB).toArray⟩, ⟨#[]⟩⟩ : Tm), (l.data.toList ++ r).dropWhile spokB) = _
      rw [t1, t2]
end Go.Proofs.YtbkokckpjmbjhaaDoor
