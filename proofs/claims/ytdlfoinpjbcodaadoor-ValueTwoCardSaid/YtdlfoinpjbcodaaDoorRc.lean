/- Parse and triadref13's Parse answer the same, plainly. -/
import Derived.Test.YtdlfoinpjbcodaaDoorRb
namespace Go.Proofs.YtdlfoinpjbcodaaDoor
open Go.RowKit Go.Shelf Flo
set_option maxRecDepth 100000
set_option linter.unusedVariables false
set_option linter.unusedSimpArgs false

theorem dval_mono : ∀ (l : List UInt8) (n : Nat), n ≤ dval n l
  | [], n => Nat.le_refl _
  | c :: r, n => by
    show n ≤ dval (10 * n + (c.toNat - 48)) r
    have := dval_mono r (10 * n + (c.toNat - 48))
    omega
theorem digR_all : ∀ {l : List UInt8} {n : Nat}, n < 1000000000000000 → l.all digC = true → digR n l = if 1000000000000000 ≤ dval n l then none else some (dval n l)
  | [], n, hn, h => by
    show some n = if 1000000000000000 ≤ n then none else some n
    rw [if_neg (by omega)]
  | c :: r, n, hn, h => by
    rw [List.all_cons, Bool.and_eq_true] at h
    have e : dval n (c :: r) = dval (10 * n + (c.toNat - 48)) r := rfl
    unfold digR
    rw [if_pos h.1, e]
    split
    · rename_i hb
      have := dval_mono r (10 * n + (c.toNat - 48))
      rw [if_pos (by omega)]
    · rename_i hb
      exact digR_all (by omega) h.2
theorem over_of {n : Int} {k : Nat} (h : 999999999999999 < n.natAbs) (h2 : k = 0 ∨ ¬ n % 10 = 0) : decV n k = overV := by
  rw [decV_eq]
  have hs : shrt n k = (n, k) := by
    unfold shrt
    split
    · rcases h2 with h2 | h2
      · rw [h2]; rfl
      · exact nrm_stay _ _ h2
    · rfl
  rw [hs]
  unfold decP
  rw [if_neg (by simp [fitsL]; omega)]; rfl
theorem over_far {n : Int} {k : Nat} (h : 6 < k) (h2 : ¬ n % 10 = 0) : decV n k = overV := by
  rw [decV_eq]
  have hs : shrt n k = (n, k) := by
    unfold shrt
    split
    · exact nrm_stay _ _ h2
    · rfl
  rw [hs]
  unfold decP
  rw [if_neg (by simp [fitsL]; omega)]; rfl
theorem fits_of {n : Int} {k : Nat} (h : n.natAbs < 1000000000000000) : decV n k = decP (nrm n k) := by
  rw [decV_eq]
  unfold shrt
  rw [if_pos (by rw [p53]; omega)]

/-- the last digit of what is not noughts at its end. -/
theorem dval_last {n : Nat} {l : List UInt8} (h : Lib.trimRightB l 48 ≠ []) (hd : l.all digC = true) : ¬ dval n (Lib.trimRightB l 48) % 10 = 0 := by
  have hz : Lib.trimRightB (Lib.trimRightB l 48) 48 = Lib.trimRightB l 48 := by
    unfold Lib.trimRightB
    rw [List.reverse_reverse]
    congr 1
    induction l.reverse with
    | nil => rfl
    | cons c r ih =>
      rw [List.dropWhile_cons]
      split
      · exact ih
      · rename_i hc; rw [List.dropWhile_cons, if_neg hc]
  have hm : ∀ x ∈ Lib.trimRightB l 48, digC x = true := fun x hx => List.all_eq_true.1 hd x (trimR_mem _ _ hx)
  generalize Lib.trimRightB l 48 = t at *
  obtain ⟨i, c, rfl⟩ : ∃ i c, t = i ++ [c] := ⟨t.dropLast, t.getLast h, (List.dropLast_concat_getLast h).symm⟩
  rw [trimR_snoc] at hz
  have hc : c ≠ 48 := by
    intro e
    rw [if_pos e] at hz
    have h1 := congrArg List.length hz
    have := trimR_len i 48
    simp at h1
    omega
  have hg := (digC_iff c).1 (hm c (by simp))
  have hn : c.toNat ≠ 48 := fun e => hc (UInt8.toNat_inj.1 (by rw [e]; rfl))
  rw [dval_snoc]
  omega

theorem neg_mod {n : Nat} (b : Bool) : ((if b then -(n : Int) else (n : Int)) % 10 = 0) ↔ n % 10 = 0 := by
  cases b
  · simp only [Bool.false_eq_true, if_false]; omega
  · simp only [if_true]; omega
theorem neg_abs {n : Nat} (b : Bool) : (if b then -(n : Int) else (n : Int)).natAbs = n := by
  cases b
  · simp
  · simp

/-- both parts of a text that is a decimal's. -/
theorem tail_same (b : Bool) (whole q : List UInt8) (hw : whole.all digC = true) (hw0 : whole ≠ []) (hq : q.all digC = true) :
    ansR b (tailR whole (Lib.trimRightB q 48)) = decV (if b then -((dval (dval 0 whole) (Lib.trimRightB q 48) : Nat) : Int) else ((dval (dval 0 whole) (Lib.trimRightB q 48) : Nat) : Int)) (Lib.trimRightB q 48).length := by
  have hpa : (Lib.trimRightB q 48).all digC = true := List.all_eq_true.2 fun x hx => List.all_eq_true.1 hq x (trimR_mem _ _ hx)
  have hmo := dval_mono (Lib.trimRightB q 48) (dval 0 whole)
  have hlast : (Lib.trimRightB q 48).length = 0 ∨ ¬ dval (dval 0 whole) (Lib.trimRightB q 48) % 10 = 0 := by
    by_cases h : Lib.trimRightB q 48 = []
    · left; rw [h]; rfl
    · exact .inr (dval_last h hq)
  generalize Lib.trimRightB q 48 = p at *
  unfold tailR
  rw [digR_all (by decide) hw]
  by_cases h1 : 1000000000000000 ≤ dval 0 whole
  · rw [if_pos h1]
    simp only
    rw [over_of (by rw [neg_abs]; omega) (hlast.imp id (fun h => by rw [neg_mod]; exact h))]
    rfl
  · rw [if_neg h1]
    simp only [if_neg hw0]
    by_cases h6 : 6 < p.length
    · rw [if_pos ⟨h6, hpa⟩]
      rw [over_far h6 (by rw [neg_mod]; exact hlast.resolve_left (by omega))]
      rfl
    · rw [if_neg (fun h => h6 h.1)]
      by_cases hp : p = []
      · rw [if_pos hp]
        subst hp
        show decP _ = _
        rw [fits_of (by rw [neg_abs]; show dval 0 whole < _; omega)]
        rfl
      · rw [if_neg hp, digR_all (by omega) hpa]
        by_cases h2 : 1000000000000000 ≤ dval (dval 0 whole) p
        · rw [if_pos h2]
          simp only
          rw [over_of (by rw [neg_abs]; omega) (hlast.imp id (fun h => by rw [neg_mod]; exact h))]
          rfl
        · rw [if_neg h2]
          simp only
          rw [fits_of (by rw [neg_abs]; omega)]
          rfl

theorem tailR_bad1 {whole p : List UInt8} (h : whole.all digC = false ∨ whole = []) : tailR whole p = none := by
  unfold tailR
  rcases h with h | h
  · rw [digR_bad h]
  · subst h
    show (match some 0 with | none => none | some v => _) = _
    rfl
theorem tailR_bad2 {whole p : List UInt8} (h : p.all digC = false) : tailR whole p = none := by
  unfold tailR
  cases digR 0 whole with
  | none => rfl
  | some v =>
    simp only
    split
    · rfl
    · rw [if_neg (by rw [h]; simp), if_neg (fun e => by rw [e] at h; cases h), digR_bad h]

theorem dot_not_dig {c : UInt8} (h : digC c = true) : dotN c = true := by
  have := (digC_iff c).1 h
  unfold dotN
  rw [bne_iff_ne]
  intro e
  rw [e] at this
  exact absurd this (by decide)
/-- where both ways part a text. -/
theorem split_dot (r : List UInt8) : ((r.takeWhile dotN).all digC = true ∧ r.takeWhile digC = r.takeWhile dotN ∧ r.dropWhile digC = r.dropWhile dotN) ∨
    ((r.takeWhile dotN).all digC = false ∧ ∃ c q, r.dropWhile digC = c :: q ∧ c ≠ 46) := by
  induction r with
  | nil => exact .inl ⟨rfl, rfl, rfl⟩
  | cons c r ih =>
    by_cases hd : digC c = true
    · have hn := dot_not_dig hd
      rw [List.takeWhile_cons, List.takeWhile_cons, List.dropWhile_cons, List.dropWhile_cons, if_pos hd, if_pos hn, if_pos hd, if_pos hn]
      rcases ih with ⟨h1, h2, h3⟩ | ⟨h1, c', q, h2, h3⟩
      · exact .inl ⟨by rw [List.all_cons, hd, h1]; rfl, by rw [h2], h3⟩
      · exact .inr ⟨by rw [List.all_cons, h1, Bool.and_false], c', q, h2, h3⟩
    · by_cases h46 : c = 46
      · subst h46
        exact .inl ⟨rfl, rfl, rfl⟩
      · have hn : dotN c = true := by unfold dotN; rw [bne_iff_ne]; exact h46
        refine .inr ⟨?_, c, r, ?_, h46⟩
        · rw [List.takeWhile_cons, if_pos hn, List.all_cons]
          simp [hd]
        · rw [List.dropWhile_cons, if_neg hd]

theorem take_all_iff {p : UInt8 → Bool} : ∀ {l : List UInt8}, l.dropWhile p = [] → l.takeWhile p = l ∧ l.all p = true
  | [], _ => ⟨rfl, rfl⟩
  | c :: r, h => by
    rw [List.dropWhile_cons] at h
    split at h
    · rename_i hc
      have := take_all_iff h
      exact ⟨by rw [List.takeWhile_cons, if_pos hc, this.1], by rw [List.all_cons, hc, this.2]; rfl⟩
    · cases h
theorem not_all {p : UInt8 → Bool} : ∀ {l : List UInt8}, l.dropWhile p ≠ [] → l.all p = false
  | [], h => absurd rfl h
  | c :: r, h => by
    rw [List.dropWhile_cons] at h
    split at h
    · rename_i hc
      rw [List.all_cons, not_all h, Bool.and_false]
    · rename_i hc
      rw [List.all_cons]
      simp [hc]
theorem trim_bad {q : List UInt8} (h : q.all digC = false) : (Lib.trimRightB q 48).all digC = false := by
  unfold Lib.trimRightB
  rw [List.all_reverse]
  have h2 : q.reverse.all digC = false := by rw [List.all_reverse]; exact h
  generalize q.reverse = t at *
  induction t with
  | nil => cases h2
  | cons c r ih =>
    rw [List.dropWhile_cons]
    split
    · rename_i hc
      have : c = 48 := by simpa using hc
      subst this
      exact ih (by rw [List.all_cons, show digC 48 = true from by decide, Bool.true_and] at h2; exact h2)
    · exact h2

theorem ans_same (b : Bool) (r : List UInt8) : ansR b (bodyR r) = ansD b (bodyD r) := by
  rcases split_dot r with ⟨h1, h2, h3⟩ | ⟨h1, c, q, h2, h3⟩
  · unfold bodyR bodyD
    rw [h2, h3]
    by_cases hw : r.takeWhile dotN = []
    · rw [if_pos hw]
      cases r.dropWhile dotN with
      | nil => simp only; rw [tailR_bad1 (.inr hw)]; rfl
      | cons c q =>
        simp only
        split
        · rfl
        · rw [tailR_bad1 (.inr hw)]; rfl
    · rw [if_neg hw]
      have hc46 : ∀ c q, r.dropWhile dotN = c :: q → c = 46 := by
        intro c q h
        have := List.head?_dropWhile_not dotN r
        rw [h] at this
        simpa [dotN] using this
      cases hd : r.dropWhile dotN with
      | nil =>
        simp only
        have := tail_same b (r.takeWhile dotN) [] h1 hw rfl
        exact this
      | cons c q =>
        obtain rfl := hc46 c q hd
        simp only
        by_cases hq : q = []
        · subst hq; rfl
        · rw [if_neg hq]
          by_cases hqd : q.dropWhile digC = []
          · obtain ⟨e1, e2⟩ := take_all_iff hqd
            rw [if_pos ⟨trivial, by rw [e1]; exact hq, hqd⟩, e1]
            exact tail_same b (r.takeWhile dotN) q h1 hw e2
          · rw [if_neg (fun h => hqd h.2.2), tailR_bad2 (trim_bad (not_all hqd))]
            rfl
  · have e : bodyR r = none := by
      unfold bodyR
      cases r.dropWhile dotN with
      | nil => exact tailR_bad1 (.inl h1)
      | cons c q =>
        simp only
        split
        · rfl
        · exact tailR_bad1 (.inl h1)
    unfold bodyD
    rw [e, h2]
    simp only
    split
    · rfl
    · rw [if_neg (fun h => h3 h.1)]; rfl

theorem parse_same (l : List UInt8) : ansR (signR l).1 (bodyR (signR l).2) = ansD (signD l).1 (bodyD (signD l).2) := by
  rw [sign_same]; exact ans_same _ _
end Go.Proofs.YtdlfoinpjbcodaaDoor
