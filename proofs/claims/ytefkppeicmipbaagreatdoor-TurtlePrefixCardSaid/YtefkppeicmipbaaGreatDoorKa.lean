/- References, plain: parts, paths without dots, references resolved. -/
import Derived.Lib.IndexAny
import Derived.Lib.LastIndexByte
namespace Go.Proofs.YtefkppeicmipbaaGreatDoor
set_option maxRecDepth 100000
set_option linter.unusedVariables false
/-- What is ahead of the first one of these marks. -/
def frontL (m l : List UInt8) : List UInt8 := l.takeWhile fun c => !m.contains c
/-- From it on. -/
def restL (m l : List UInt8) : List UInt8 := l.dropWhile fun c => !m.contains c
theorem front_rest (m l : List UInt8) : frontL m l ++ restL m l = l := List.takeWhile_append_dropWhile
theorem front_cons (m : List UInt8) (c : UInt8) (l : List UInt8) : frontL m (c :: l) = if m.contains c then [] else c :: frontL m l := by
  unfold frontL; rw [List.takeWhile_cons]; cases m.contains c <;> rfl
theorem rest_cons (m : List UInt8) (c : UInt8) (l : List UInt8) : restL m (c :: l) = if m.contains c then c :: l else restL m l := by
  unfold restL; rw [List.dropWhile_cons]; cases m.contains c <;> rfl
theorem front_len (m l : List UInt8) : (frontL m l).length + (restL m l).length = l.length := by
  rw [← List.length_append, front_rest]
theorem front_take (m l : List UInt8) : l.take (frontL m l).length = frontL m l := by
  conv => lhs; rw [← front_rest m l]
  rw [front_rest]
  exact (congrArg (List.take _) (front_rest m l).symm).trans List.take_left
theorem rest_drop (m l : List UInt8) : l.drop (frontL m l).length = restL m l :=
  (congrArg (List.drop _) (front_rest m l).symm).trans List.drop_left
theorem rest_head : ∀ (m l : List UInt8) {c : UInt8} {r : List UInt8}, restL m l = c :: r → m.contains c = true
  | m, [], c, r, h => by cases h
  | m, d :: l, c, r, h => by
    rw [rest_cons] at h
    by_cases hd : m.contains d = true
    · rw [if_pos hd] at h; cases h; exact hd
    · rw [if_neg hd] at h; exact rest_head m l h
theorem indexAny_front : ∀ (l m : List UInt8), Lib.indexAny l m = if restL m l = [] then -1 else ((frontL m l).length : Int)
  | [], m => rfl
  | c :: l, m => by
    rw [Lib.indexAny, indexAny_front l m, rest_cons, front_cons]
    cases m.contains c with
    | true => simp
    | false =>
      simp only [Bool.false_eq_true, if_false]
      by_cases h : restL m l = []
      · rw [if_pos h, if_pos h]; rfl
      · rw [if_neg h, if_neg h, if_neg (by simp), List.length_cons]
        push_cast
        rfl
/-- A reference's five parts. -/
structure Pt where
  s : List UInt8
  a : List UInt8
  p : List UInt8
  q : List UInt8
  f : List UInt8
def schemeL (l : List UInt8) : List UInt8 × List UInt8 :=
  if frontL [58, 47, 63, 35] l ≠ [] ∧ (restL [58, 47, 63, 35] l).head? = some 58 then (frontL [58, 47, 63, 35] l ++ [58], (restL [58, 47, 63, 35] l).drop 1) else ([], l)
def authL (l : List UInt8) : List UInt8 × List UInt8 :=
  if Lib.hasPrefix l [47, 47] then ([47, 47] ++ frontL [47, 63, 35] (l.drop 2), restL [47, 63, 35] (l.drop 2)) else ([], l)
def splitL (l : List UInt8) : Pt :=
  ⟨(schemeL l).1, (authL (schemeL l).2).1, frontL [63, 35] (authL (schemeL l).2).2, frontL [35] (restL [63, 35] (authL (schemeL l).2).2), restL [35] (restL [63, 35] (authL (schemeL l).2).2)⟩
def Pt.whole (t : Pt) : List UInt8 := t.s ++ t.a ++ t.p ++ t.q ++ t.f
theorem scheme_whole (l : List UInt8) : (schemeL l).1 ++ (schemeL l).2 = l := by
  unfold schemeL
  split
  · rename_i h
    have := front_rest [58, 47, 63, 35] l
    cases hr : restL [58, 47, 63, 35] l with
    | nil => rw [hr] at h; exact absurd h.2 (by simp)
    | cons c r =>
      rw [hr] at h this
      have hc : c = 58 := by have := h.2; simpa using this
      subst hc
      simp only [List.drop_succ_cons, List.drop_zero, List.append_assoc, List.cons_append, List.nil_append]
      exact this
  · rfl
theorem auth_whole (l : List UInt8) : (authL l).1 ++ (authL l).2 = l := by
  unfold authL
  split
  · rename_i h
    match l, h with
    | c :: d :: r, h =>
      have hc : c = 47 ∧ d = 47 := by
        simp [Lib.hasPrefix] at h
        exact ⟨h.1.symm, h.2.symm⟩
      obtain ⟨rfl, rfl⟩ := hc
      simp only [List.drop_succ_cons, List.drop_zero, List.append_assoc]
      rw [front_rest]; rfl
    | [c], h => exact absurd h (by simp [Lib.hasPrefix])
    | [], h => exact absurd h (by simp [Lib.hasPrefix])
  · rfl
theorem split_whole (l : List UInt8) : (splitL l).whole = l := by
  unfold splitL Pt.whole
  simp only [List.append_assoc]
  rw [front_rest, front_rest, auth_whole, scheme_whole]
/-- A text up to its last '/': nothing, if there is none. -/
def cutLK (o : List UInt8) : List UInt8 := ((o.reverse.dropWhile (· != 47)).drop 1).reverse
/-- A text up to and with its last '/'. -/
def dirL (o : List UInt8) : List UInt8 := (o.reverse.dropWhile (· != 47)).reverse
theorem cut_lenK (o : List UInt8) : (cutLK o).length ≤ o.length := by
  unfold cutLK
  rw [List.length_reverse, List.length_drop]
  have := (List.dropWhile_sublist (fun c : UInt8 => c != 47) (l := o.reverse)).length_le
  rw [List.length_reverse] at this
  omega
/-- One step of a path: what is put out, what is left. -/
def dstep (o s : List UInt8) : List UInt8 × List UInt8 :=
  let r := restL [47] (Lib.trimPrefix s [47])
  let f := frontL [47] (Lib.trimPrefix s [47])
  if s.head? ≠ some 47 ∧ (f = [46] ∨ f = [46, 46]) then (o, Lib.trimPrefix r [47])
  else if s.head? = some 47 ∧ f = [46, 46] then (cutLK o, if r = [] then [47] else r)
  else if s.head? = some 47 ∧ f = [46] then (o, if r = [] then [47] else r)
  else (o ++ s.take (s.length - r.length), r)
def dotF : Nat → List UInt8 → List UInt8 → List UInt8
  | 0, o, _ => o
  | n + 1, o, s => if s = [] then o else dotF n (dstep o s).1 (dstep o s).2
/-- A path without dots. -/
def dotL (s : List UInt8) : List UInt8 := dotF s.length [] s
theorem trim_slash (c : UInt8) (t : List UInt8) : Lib.trimPrefix (c :: t) [47] = if c = 47 then t else c :: t := by
  unfold Lib.trimPrefix
  by_cases h : c = 47
  · subst h; rfl
  · have : Lib.hasPrefix (c :: t) [47] = false := by
      show ((47 : UInt8) == c && List.isPrefixOf [] t) = false
      rw [beq_eq_false_iff_ne.2 (Ne.symm h), Bool.false_and]
    rw [this, if_neg h]; rfl
theorem trim_le (s : List UInt8) : (Lib.trimPrefix s [47]).length ≤ s.length := by
  unfold Lib.trimPrefix
  split
  · rw [List.length_drop]; omega
  · exact Nat.le_refl _
theorem rest_le (m l : List UInt8) : (restL m l).length ≤ l.length := by have := front_len m l; omega
theorem dstep_lt (o s : List UInt8) (h : s ≠ []) : (dstep o s).2.length < s.length ∧ (dstep o s).1.length + (dstep o s).2.length ≤ o.length + s.length := by
  match s, h with
  | c :: t, _ =>
    have hcut := cut_lenK o
    unfold dstep
    rw [trim_slash]
    dsimp only
    by_cases hc : c = 47
    · subst hc
      have h1 := front_len [47] t
      simp only [List.head?_cons, ne_eq, not_true_eq_false, false_and, if_false, true_and, if_true, List.length_cons]
      split
      · rename_i hf
        rw [hf] at h1
        simp only [List.length_cons, List.length_nil] at h1
        split <;> simp_all <;> omega
      · split
        · rename_i hf
          rw [hf] at h1
          simp only [List.length_cons, List.length_nil] at h1
          split <;> simp_all <;> omega
        · simp only [List.length_append, List.length_take, List.length_cons]
          omega
    · have h1 := front_len [47] (c :: t)
      have hf1 : frontL [47] (c :: t) = c :: frontL [47] t := by rw [front_cons]; simp [hc]
      have h2 : (frontL [47] (c :: t)).length ≠ 0 := by rw [hf1]; simp
      have h3 := trim_le (restL [47] (c :: t))
      rw [if_neg hc]
      simp only [List.head?_cons, Option.some.injEq, hc, false_and, if_false, List.length_cons] at *
      split
      · dsimp only; omega
      · simp only [List.length_append, List.length_take, List.length_cons]
        omega
theorem dotF_more : ∀ (n m : Nat) (o s : List UInt8), s.length ≤ n → s.length ≤ m → dotF n o s = dotF m o s
  | 0, m, o, s, h1, h2 => by
    have : s = [] := List.length_eq_zero_iff.1 (by omega)
    subst this
    cases m <;> simp [dotF]
  | n + 1, 0, o, s, h1, h2 => by
    have : s = [] := List.length_eq_zero_iff.1 (by omega)
    subst this
    simp [dotF]
  | n + 1, m + 1, o, s, h1, h2 => by
    unfold dotF
    split
    · rfl
    · rename_i h
      have := (dstep_lt o s h).1
      exact dotF_more n m _ _ (by omega) (by omega)
theorem dotF_step (o s : List UInt8) (h : s ≠ []) : dotF s.length o s = dotF (dstep o s).2.length (dstep o s).1 (dstep o s).2 := by
  have h1 := (dstep_lt o s h).1
  cases hs : s.length with
  | zero => omega
  | succ n =>
    rw [dotF, if_neg h]
    exact dotF_more _ _ _ _ (by omega) (Nat.le_refl _)
theorem dotF_nil (o : List UInt8) (n : Nat) : dotF n o [] = o := by cases n <;> simp [dotF]
/-- The same step as the document's words have it. -/
def rstep (o s : List UInt8) : List UInt8 × List UInt8 :=
  if Lib.hasPrefix s [46, 46, 47] then (o, s.drop 3)
  else if Lib.hasPrefix s [46, 47] then (o, s.drop 2)
  else if Lib.hasPrefix s [47, 46, 47] then (o, s.drop 2)
  else if s = [47, 46] then (o, [47])
  else if Lib.hasPrefix s [47, 46, 46, 47] then (cutLK o, s.drop 3)
  else if s = [47, 46, 46] then (cutLK o, [47])
  else if s = [46] ∨ s = [46, 46] then (o, [])
  else (o ++ s.take (1 + (frontL [47] (s.drop 1)).length), s.drop (1 + (frontL [47] (s.drop 1)).length))
theorem step_last (o : List UInt8) (c : UInt8) (t : List UInt8) : o ++ (c :: t).take ((c :: t).length - (restL [47] t).length) = o ++ (c :: t).take (1 + (frontL [47] t).length) := by
  have := front_len [47] t
  rw [show (c :: t).length - (restL [47] t).length = 1 + (frontL [47] t).length from by rw [List.length_cons]; omega]
theorem step_rest (c : UInt8) (t : List UInt8) : (c :: t).drop (1 + (frontL [47] t).length) = restL [47] t := by
  rw [Nat.add_comm, List.drop_succ_cons, rest_drop]
theorem front_nil (m : List UInt8) : frontL m [] = [] := rfl
theorem rest_nil (m : List UInt8) : restL m [] = [] := rfl
theorem rstep_eq (o s : List UInt8) (h : s ≠ []) : rstep o s = dstep o s := by
  match s, h with
  | c :: t, _ =>
    have hd : dstep o (c :: t) = if c ≠ 47 ∧ (c :: frontL [47] t = [46] ∨ c :: frontL [47] t = [46, 46]) then (o, Lib.trimPrefix (restL [47] t) [47])
      else if c = 47 ∧ frontL [47] t = [46, 46] then (cutLK o, if restL [47] t = [] then [47] else restL [47] t)
      else if c = 47 ∧ frontL [47] t = [46] then (o, if restL [47] t = [] then [47] else restL [47] t)
      else (o ++ (c :: t).take (1 + (frontL [47] t).length), restL [47] t) := by
      unfold dstep
      rw [trim_slash]
      by_cases hc : c = 47
      · subst hc
        simp only [List.head?_cons, ne_eq, not_true_eq_false, false_and, if_false, true_and, if_true, step_last]
      · rw [if_neg hc, front_cons, rest_cons]
        have : ([47] : List UInt8).contains c = false := by simp [hc]
        simp only [this, List.head?_cons, Option.some.injEq, hc, ne_eq, not_false_eq_true, true_and, false_and, if_false, Bool.false_eq_true, step_last]
    have hr : rstep o (c :: t) = if Lib.hasPrefix (c :: t) [46, 46, 47] then (o, (c :: t).drop 3)
      else if Lib.hasPrefix (c :: t) [46, 47] then (o, (c :: t).drop 2)
      else if Lib.hasPrefix (c :: t) [47, 46, 47] then (o, (c :: t).drop 2)
      else if (c :: t) = [47, 46] then (o, [47])
      else if Lib.hasPrefix (c :: t) [47, 46, 46, 47] then (cutLK o, (c :: t).drop 3)
      else if (c :: t) = [47, 46, 46] then (cutLK o, [47])
      else if (c :: t) = [46] ∨ (c :: t) = [46, 46] then (o, [])
      else (o ++ (c :: t).take (1 + (frontL [47] t).length), restL [47] t) := by
      unfold rstep
      simp only [List.drop_succ_cons, List.drop_zero, step_rest]
    rw [hd, hr]
    clear hd hr
    by_cases hc : c = 47
    · subst hc
      match t with
      | [] => simp [Lib.hasPrefix, front_nil, rest_nil]
      | d :: u =>
        by_cases h1 : d = 46
        · subst h1
          match u with
          | [] => simp [Lib.hasPrefix, front_cons, rest_cons, front_nil, rest_nil]
          | e :: v =>
            by_cases h2 : e = 47
            · subst h2
              simp [Lib.hasPrefix, front_cons, rest_cons]
            · by_cases h3 : e = 46
              · subst h3
                match v with
                | [] => simp [Lib.hasPrefix, front_cons, rest_cons, front_nil, rest_nil]
                | g :: x =>
                  by_cases h4 : g = 47
                  · subst h4
                    simp [Lib.hasPrefix, front_cons, rest_cons]
                  · simp [Lib.hasPrefix, front_cons, rest_cons, h4, Ne.symm h4]
              · simp [Lib.hasPrefix, front_cons, rest_cons, h2, h3, Ne.symm h2, Ne.symm h3]
        · simp [Lib.hasPrefix, front_cons, rest_cons, h1, Ne.symm h1]
          split <;> simp [h1]
    · by_cases h0 : c = 46
      · subst h0
        match t with
        | [] => simp [Lib.hasPrefix, front_nil, rest_nil, Lib.trimPrefix]
        | d :: u =>
          by_cases h1 : d = 47
          · subst h1
            simp [Lib.hasPrefix, front_cons, rest_cons, Lib.trimPrefix]
          · by_cases h2 : d = 46
            · subst h2
              match u with
              | [] => simp [Lib.hasPrefix, front_cons, rest_cons, front_nil, rest_nil, Lib.trimPrefix]
              | e :: v =>
                by_cases h3 : e = 47
                · subst h3
                  simp [Lib.hasPrefix, front_cons, rest_cons, Lib.trimPrefix]
                · simp [Lib.hasPrefix, front_cons, rest_cons, h3, Ne.symm h3]
            · simp [Lib.hasPrefix, front_cons, rest_cons, h1, h2, Ne.symm h1, Ne.symm h2]
      · simp [Lib.hasPrefix, hc, h0, Ne.symm hc, Ne.symm h0]
/-- What a path that does not begin with '/' is laid behind. -/
def folderL (b : Pt) : List UInt8 := if b.a ≠ [] ∧ b.p = [] then [47] else dirL b.p
def resolveL (b r : Pt) : List UInt8 :=
  if r.s ≠ [] then r.s ++ r.a ++ dotL r.p ++ r.q ++ r.f
  else if r.a ≠ [] then b.s ++ r.a ++ dotL r.p ++ r.q ++ r.f
  else if r.p = [] then b.s ++ b.a ++ b.p ++ (if r.q = [] then b.q else r.q) ++ r.f
  else if r.p.head? = some 47 then b.s ++ b.a ++ dotL r.p ++ r.q ++ r.f
  else b.s ++ b.a ++ dotL (folderL b ++ r.p) ++ r.q ++ r.f
theorem dw_none : ∀ (l : List UInt8), l.contains 47 = false → l.dropWhile (· != 47) = []
  | [], _ => rfl
  | c :: l, h => by
    rw [List.contains_cons] at h
    have h1 : ¬ c = 47 := fun e => by subst e; simp at h
    have h2 : l.contains 47 = false := by simp at h ⊢; exact h.2
    rw [List.dropWhile_cons, if_pos (by simpa using h1), dw_none l h2]
theorem dw_some : ∀ (l r : List UInt8), l.contains 47 = false → (l ++ 47 :: r).dropWhile (· != 47) = 47 :: r
  | [], r, _ => rfl
  | c :: l, r, h => by
    rw [List.contains_cons] at h
    have h1 : ¬ c = 47 := fun e => by subst e; simp at h
    have h2 : l.contains 47 = false := by simp at h ⊢; exact h.2
    rw [List.cons_append, List.dropWhile_cons, if_pos (by simpa using h1), dw_some l r h2]
theorem contains_rev (l : List UInt8) : l.reverse.contains 47 = l.contains 47 := by
  by_cases h : 47 ∈ l
  · rw [List.contains_iff_mem.2 h, List.contains_iff_mem.2 (List.mem_reverse.2 h)]
  · have h1 : ¬ (l.contains 47 = true) := fun e => h (List.contains_iff_mem.1 e)
    have h2 : ¬ (l.reverse.contains 47 = true) := fun e => h (List.mem_reverse.1 (List.contains_iff_mem.1 e))
    rw [Bool.not_eq_true] at h1 h2
    rw [h1, h2]
/-- The last '/' of a text, from its end. -/
theorem last_slash (l : List UInt8) : (l.contains 47 = false ∧ cutLK l = [] ∧ dirL l = []) ∨ ∃ x y, l = x ++ 47 :: y ∧ y.contains 47 = false ∧ cutLK l = x ∧ dirL l = x ++ [47] := by
  cases h : l.contains 47 with
  | false =>
    left
    have := dw_none l.reverse (by rw [contains_rev]; exact h)
    exact ⟨rfl, by unfold cutLK; rw [this]; rfl, by unfold dirL; rw [this]; rfl⟩
  | true =>
    right
    have hr : l.reverse.contains 47 = true := by rw [contains_rev]; exact h
    obtain ⟨x, y, e, hn⟩ : ∃ x y, l.reverse = x ++ 47 :: y ∧ x.contains 47 = false := by
      clear h
      generalize l.reverse = m at hr
      induction m with
      | nil => simp at hr
      | cons c m ih =>
        by_cases hc : c = 47
        · subst hc; exact ⟨[], m, rfl, rfl⟩
        · have : m.contains 47 = true := by
            rw [List.contains_cons] at hr
            have h47 : ((47 : UInt8) == c) = false := by simpa using Ne.symm hc
            rw [h47, Bool.false_or] at hr; exact hr
          obtain ⟨x, y, e, hn⟩ := ih this
          refine ⟨c :: x, y, by rw [e]; rfl, ?_⟩
          rw [List.contains_cons, hn]
          simpa using Ne.symm hc
    have el : l = y.reverse ++ 47 :: x.reverse := by
      have := congrArg List.reverse e
      rw [List.reverse_reverse] at this
      rw [this]; simp
    refine ⟨y.reverse, x.reverse, el, by rw [contains_rev]; exact hn, ?_, ?_⟩
    · unfold cutLK; rw [e, dw_some _ _ hn]; rfl
    · unfold dirL; rw [e, dw_some _ _ hn]; simp
end Go.Proofs.YtefkppeicmipbaaGreatDoor
