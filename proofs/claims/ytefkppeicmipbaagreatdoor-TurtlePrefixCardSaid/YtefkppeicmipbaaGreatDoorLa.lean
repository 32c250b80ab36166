/- Signs of questions, plain: what package lex reads. -/
import Derived.Lib.SlTrimSet
namespace Go.Proofs.YtefkppeicmipbaaGreatDoor
set_option maxRecDepth 100000
set_option linter.unusedVariables false
set_option linter.unusedSimpArgs false
def smallN (n : Nat) : Bool := decide (97 ≤ n ∧ n ≤ 122)
def digitN (n : Nat) : Bool := decide (48 ≤ n ∧ n ≤ 57)
def letterN (n : Nat) : Bool := smallN n || decide (65 ≤ n ∧ n ≤ 90)
def nameN (n : Nat) : Bool := letterN n || (digitN n || decide (n = 95))
def dashN (n : Nat) : Bool := nameN n || decide (n = 45)
def dotN (n : Nat) : Bool := dashN n || decide (n = 46)
def spokN (n : Nat) : Bool := smallN n || decide (n = 45)
def refN (n : Nat) : Bool := decide (32 < n) && !([60, 62, 34, 123, 125, 124, 94, 92, 96] : List Nat).contains n
def smallC (c : UInt8) : Bool := smallN c.toNat
def digitC (c : UInt8) : Bool := digitN c.toNat
def letterC (c : UInt8) : Bool := letterN c.toNat
def nameC (c : UInt8) : Bool := nameN c.toNat
def dashC (c : UInt8) : Bool := dashN c.toNat
def dotC (c : UInt8) : Bool := dotN c.toNat
def spokC (c : UInt8) : Bool := spokN c.toNat
def refC (c : UInt8) : Bool := refN c.toNat
def blankC (c : UInt8) : Bool := ([32, 9, 10, 13] : List UInt8).contains c
/-- Behind blanks and remarks; true: within a remark. -/
def pastL : Bool → List UInt8 → List UInt8
  | _, [] => []
  | true, c :: r => if c = 10 then pastL false r else pastL true r
  | false, c :: r => if blankC c then pastL false r else if c = 35 then pastL true r else c :: r
/-- What a byte is behind a backslash. -/
def unL (c : UInt8) : Option UInt8 := if c = 116 then some 9 else if c = 110 then some 10 else if c = 114 then some 13 else if c = 34 then some 34 else if c = 39 then some 39 else if c = 92 then some 92 else none
/-- What a text says, up to its mark, and what is behind. -/
def textL11 (q : UInt8) : List UInt8 → Option (List UInt8 × List UInt8)
  | [] => none
  | c :: r => if c = q then some ([], r) else if c = 10 then none else if c = 92 then match r with
    | [] => none
    | d :: r' => match unL d with
      | none => none
      | some x => (textL11 q r').map fun p => (x :: p.1, p.2)
    else (textL11 q r).map fun p => (c :: p.1, p.2)
def numN (l : List UInt8) : Nat := match l.dropWhile digitC with
  | 46 :: x => if x.takeWhile digitC = [] then (l.takeWhile digitC).length else (l.takeWhile digitC).length + 1 + (x.takeWhile digitC).length
  | _ => (l.takeWhile digitC).length
/-- Without dots at its end. -/
def undot (l : List UInt8) : List UInt8 := (l.reverse.dropWhile (fun c => c == 46)).reverse
def nameN11 (l : List UInt8) : Option Nat := match l.dropWhile dashC with
  | 58 :: x => some ((l.takeWhile dashC).length + 1 + (undot (x.takeWhile dotC)).length)
  | _ => none
def signs11 : List (List UInt8) := [[38, 38], [124, 124], [33, 61], [60, 61], [62, 61], [94, 94], [123], [125], [40], [41], [91], [93], [46], [59], [44], [61], [60], [62], [33], [43], [45], [42], [47], [124], [94], [63]]
abbrev Tok := Int × List UInt8
def signL (l : List UInt8) : Option (Tok × List UInt8) := (signs11.find? (fun y => Lib.hasPrefix l y)).map fun y => ((9, y), l.drop y.length)
def headIs (p : UInt8 → Bool) : List UInt8 → Bool
  | [] => false
  | c :: _ => p c
/-- The first token of a text that is not empty, and what is behind it. -/
def tokenL (c : UInt8) (r : List UInt8) : Option (Tok × List UInt8) :=
  if c = 60 ∧ headIs (· == 62) (r.dropWhile refC) = true then some ((1, r.takeWhile refC), (r.dropWhile refC).drop 1)
  else if c = 34 ∨ c = 39 then (textL11 c r).map fun p => ((5, p.1), p.2)
  else if c = 95 ∧ headIs (· == 58) r = true ∧ headIs nameC (r.drop 1) = true then some ((3, (r.drop 1).takeWhile nameC), (r.drop 1).dropWhile nameC)
  else if (c = 63 ∨ c = 36) ∧ headIs letterC r = true then some ((4, r.takeWhile nameC), r.dropWhile nameC)
  else if c = 64 ∧ headIs smallC r = true then some ((6, r.takeWhile spokC), r.dropWhile spokC)
  else if digitC c = true then some ((7, (c :: r).take (numN (c :: r))), (c :: r).drop (numN (c :: r)))
  else if letterC c = true ∨ c = 58 then match nameN11 (c :: r) with
    | some n => some ((2, (c :: r).take n), (c :: r).drop n)
    | none => if letterC c = true then some ((8, (c :: r).takeWhile nameC), (c :: r).dropWhile nameC) else none
  else signL (c :: r)
/-- All of them; none: what is none of them. -/
def tokL : Nat → List UInt8 → Option (List Tok)
  | 0, _ => none
  | n + 1, l => match pastL false l with
    | [] => some []
    | c :: r => match tokenL c r with
      | none => none
      | some (t, z) => (tokL n z).map fun k => t :: k
/-- What Tokens answers: the tokens, and the error's number. -/
def tokensL (l : List UInt8) : List Tok × Int := if 4000 < l.length then ([], 5) else match tokL (l.length + 1) l with
  | none => ([], 6)
  | some k => (k, 0)
theorem past_len : ∀ (b : Bool) (l : List UInt8), (pastL b l).length ≤ l.length
  | b, [] => by cases b <;> simp [pastL]
  | true, c :: r => by
    unfold pastL
    split
    · have := past_len false r; simp; omega
    · have := past_len true r; simp; omega
  | false, c :: r => by
    unfold pastL
    split
    · have := past_len false r; simp; omega
    · split
      · have := past_len true r; simp; omega
      · exact Nat.le_refl _
theorem past_stop : ∀ (b : Bool) (l : List UInt8) {c : UInt8} {r : List UInt8}, pastL b l = c :: r → blankC c = false ∧ c ≠ 35
  | b, [], c, r, h => by cases b <;> cases h
  | true, d :: l, c, r, h => by
    unfold pastL at h
    split at h
    · exact past_stop false l h
    · exact past_stop true l h
  | false, d :: l, c, r, h => by
    unfold pastL at h
    split at h
    · exact past_stop false l h
    · rename_i h1
      split at h
      · exact past_stop true l h
      · rename_i h2
        cases h
        exact ⟨by simpa using h1, h2⟩
theorem text_len (q : UInt8) : ∀ (n : Nat) (l : List UInt8) {p : List UInt8 × List UInt8}, l.length ≤ n → textL11 q l = some p → p.2.length < l.length
  | _, [], p, _, h => by cases h
  | 0, c :: r, p, hn, h => by simp at hn
  | n + 1, c :: r, p, hn, h => by
    have hn' : r.length ≤ n := by simpa using hn
    unfold textL11 at h
    split at h
    · cases h; simp
    · split at h
      · cases h
      · split at h
        · cases r with
          | nil => cases h
          | cons d r' =>
            dsimp only at h
            split at h
            · cases h
            · obtain ⟨p', hp, rfl⟩ := Option.map_eq_some_iff.1 h
              have hl : r'.length ≤ n := by simp at hn'; omega
              have := text_len q n r' hl hp
              simp; omega
        · obtain ⟨p', hp, rfl⟩ := Option.map_eq_some_iff.1 h
          have := text_len q n r hn' hp
          simp; omega
theorem dropWhile_len (p : UInt8 → Bool) (l : List UInt8) : (l.dropWhile p).length ≤ l.length := (List.dropWhile_sublist p).length_le
theorem num_pos {c : UInt8} {r : List UInt8} (h : digitC c = true) : 0 < numN (c :: r) := by
  have h1 : 0 < ((c :: r).takeWhile digitC).length := by rw [List.takeWhile_cons, h]; simp
  unfold numN
  split
  · split <;> omega
  · exact h1
theorem name_pos {l : List UInt8} {n : Nat} (h : nameN11 l = some n) : 0 < n := by
  unfold nameN11 at h
  split at h
  · cases h; omega
  · cases h
theorem sign_len {l : List UInt8} {t : Tok} {z : List UInt8} (h : signL l = some (t, z)) : z.length < l.length ∨ l = [] := by
  unfold signL at h
  obtain ⟨y, hy, he⟩ := Option.map_eq_some_iff.1 h
  have hm := List.mem_of_find?_eq_some hy
  have h1 : 1 ≤ y.length := by
    have : ∀ y ∈ signs11, 1 ≤ y.length := by decide
    exact this y hm
  cases he
  cases l with
  | nil => exact .inr rfl
  | cons c r => left; rw [List.length_drop]; simp; omega
theorem token_len {c : UInt8} {r : List UInt8} {t : Tok} {z : List UInt8} (h : tokenL c r = some (t, z)) : z.length ≤ r.length := by
  unfold tokenL at h
  have hdw := fun p l => dropWhile_len p l
  split at h
  · cases h; have := hdw refC r; rw [List.length_drop]; omega
  · split at h
    · obtain ⟨p, hp, he⟩ := Option.map_eq_some_iff.1 h
      cases he
      exact Nat.le_of_lt (text_len c _ r (Nat.le_refl _) hp)
    · split at h
      · cases h; have := hdw nameC (r.drop 1); rw [List.length_drop] at this; omega
      · split at h
        · cases h; exact hdw _ _
        · split at h
          · cases h; exact hdw _ _
          · split at h
            · rename_i hd
              cases h; have := num_pos (r := r) hd; rw [List.length_drop, List.length_cons]; omega
            · split at h
              · split at h
                · rename_i n hn
                  cases h; have := name_pos hn; rw [List.length_drop, List.length_cons]; omega
                · split at h
                  · rename_i hl
                    cases h
                    have : nameC c = true := by unfold letterC at hl; unfold nameC nameN; rw [hl]; rfl
                    rw [List.dropWhile_cons, this]
                    exact hdw _ _
                  · cases h
              · rcases sign_len h with h1 | h1
                · simp at h1; omega
                · cases h1
theorem tok_fuel : ∀ (n m : Nat) (l : List UInt8), l.length < n → l.length < m → tokL n l = tokL m l
  | 0, m, l, h, _ => by omega
  | n + 1, 0, l, _, h => by omega
  | n + 1, m + 1, l, h1, h2 => by
    unfold tokL
    cases hp : pastL false l with
    | nil => rfl
    | cons c r =>
      have hl := past_len false l
      rw [hp, List.length_cons] at hl
      dsimp only
      cases ht : tokenL c r with
      | none => rfl
      | some p =>
        obtain ⟨t, z⟩ := p
        have hz := token_len ht
        dsimp only
        rw [tok_fuel n m z (by omega) (by omega)]
end Go.Proofs.YtefkppeicmipbaaGreatDoor
