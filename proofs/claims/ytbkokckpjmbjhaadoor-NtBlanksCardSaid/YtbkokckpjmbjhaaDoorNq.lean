/- Triples' lines with blanks, remarks and ends of any kind, read back, plain. -/
import Derived.Test.YtbkokckpjmbjhaaDoorNp
namespace Go.Proofs.YtbkokckpjmbjhaaDoor
open Go.RowKit Go.Shelf
set_option maxRecDepth 100000
set_option linter.unusedVariables false
theorem suf_no (l : List UInt8) (a b c : UInt8) (h : ∀ x ∈ l, x ≠ a) : Lib.hasSuffix (l ++ [c]) [a, b] = false := by
  cases e : Lib.hasSuffix (l ++ [c]) [a, b] with
  | false => rfl
  | true =>
    unfold Lib.hasSuffix at e
    obtain ⟨t, ht⟩ := List.isSuffixOf_iff_suffix.1 e
    have e2 : (t ++ [a]) ++ [b] = l ++ [c] := by rw [← ht]; simp
    have e3 := (List.append_inj' e2 rfl).1
    exact absurd rfl (h a (by rw [← e3]; simp))
theorem suf_one (l : List UInt8) (a : UInt8) (h : ∀ x ∈ l, x ≠ a) : Lib.hasSuffix l [a] = false := by
  cases e : Lib.hasSuffix l [a] with
  | false => rfl
  | true =>
    unfold Lib.hasSuffix at e
    obtain ⟨t, ht⟩ := List.isSuffixOf_iff_suffix.1 e
    exact absurd rfl (h a (by rw [← ht]; simp))
theorem suf_yes (l p : List UInt8) : Lib.hasSuffix (l ++ p) p = true := by
  unfold Lib.hasSuffix
  exact List.isSuffixOf_iff_suffix.2 ⟨l, rfl⟩
theorem trim_yes (l p : List UInt8) : Lib.trimSuffix (l ++ p) p = l := by
  unfold Lib.trimSuffix
  rw [suf_yes, if_pos rfl]
  simp
theorem trim_no (l p : List UInt8) (h : Lib.hasSuffix l p = false) : Lib.trimSuffix l p = l := by
  unfold Lib.trimSuffix
  rw [h, if_neg (by decide)]
def NoN (l : List UInt8) : Prop := ∀ c ∈ l, c ≠ 10 ∧ c ≠ 13
theorem end_lf (l : List UInt8) (h : NoN l) : endL (l ++ [10]) = l := by
  unfold endL
  rw [trim_no _ _ (suf_no l 13 10 10 (fun x hx => (h x hx).2)), trim_yes]
theorem end_cr (l : List UInt8) (h : NoN l) : endL (l ++ [13, 10]) = l := by
  unfold endL
  rw [trim_yes, trim_no _ _ (suf_one l 10 (fun x hx => (h x hx).1))]
theorem line_no (x y z : Tm) (hx : checkOf x = 0) (hy : checkOf y = 0) (hz : checkOf z = 0) (b tail : List UInt8) (hb : Bk b) (ht : NoN tail) : NoN (lineL x y z b tail) := by
  have hbn : ∀ c ∈ b, c ≠ 10 ∧ c ≠ 13 := fun c hc => by rcases hb c hc with rfl | rfl <;> decide
  intro c hc
  unfold lineL at hc
  rcases List.mem_append.1 hc with hc | hc
  · exact hbn c hc
  rcases List.mem_append.1 hc with hc | hc
  · exact text_no x hx c hc
  rcases List.mem_append.1 hc with hc | hc
  · exact hbn c hc
  rcases List.mem_cons.1 hc with rfl | hc
  · decide
  rcases List.mem_append.1 hc with hc | hc
  · exact text_no y hy c hc
  rcases List.mem_append.1 hc with hc | hc
  · exact hbn c hc
  rcases List.mem_append.1 hc with hc | hc
  · exact text_no z hz c hc
  rcases List.mem_append.1 hc with hc | hc
  · exact hbn c hc
  rcases List.mem_cons.1 hc with rfl | hc
  · decide
  rcases List.mem_append.1 hc with hc | hc
  · exact hbn c hc
  · exact ht c hc
structure Ch where
  t : Tri3
  b : List UInt8
  j : Nat
structure Ch.Ok (c : Ch) : Prop where
  fit : fitsT c.t.1 c.t.2.1 c.t.2.2 = 0
  b : Bk c.b
def Ch.line (c : Ch) (tail : List UInt8) : List UInt8 := lineL c.t.1 c.t.2.1 c.t.2.2 c.b tail
/-- A triple's line's end. -/
def endsL (j : Nat) : List UInt8 := if j = 0 then [10] else if j = 1 then [35, 32, 99, 10] else if j = 2 then [13, 10] else if j = 3 then [10, 10] else [10, 32, 35, 32, 100, 32, 46, 32, 10]
def Ch.text (c : Ch) : List UInt8 := c.line (endsL c.j)
theorem line_app (c : Ch) (u v : List UInt8) : c.line (u ++ v) = c.line u ++ v := by
  unfold Ch.line lineL
  simp
theorem Ch.no {c : Ch} (h : c.Ok) (tail : List UInt8) (ht : NoN tail) : NoN (c.line tail) := by
  obtain ⟨h1, h2, h3, -⟩ := fits_parts h.fit
  exact line_no _ _ _ h1 h2 h3 _ _ h.b ht
theorem ok_step (c : Ch) (h : c.Ok) (tail : List UInt8) (hn : NoN tail) (ht : tail = [] ∨ ∃ u, tail = 35 :: u) (p : List UInt8) (he : endL p = c.line tail) (i : Nat) (xs : List ByteArray) (acc : List Tri3) :
    parseL i (⟨p.toArray⟩ :: xs) acc = parseL (i + 1) xs (acc ++ [c.t]) := by
  have h1 : overL (endL (⟨p.toArray⟩ : ByteArray).data.toList) = false := by
    show overL (endL p) = false
    rw [he]; exact line_over _ _ _ _ _ h.b
  have h2 : tripE (endL (⟨p.toArray⟩ : ByteArray).data.toList) = 0 := by
    show tripE (endL p) = 0
    rw [he]; exact trip_line h.fit _ _ h.b ht
  have h3 : tripleL (endL (⟨p.toArray⟩ : ByteArray).data.toList) = some c.t := by
    show tripleL (endL p) = some c.t
    rw [he]; exact triple_line h.fit _ _ h.b ht
  exact parse_ok h1 h2 h3
theorem over_step (p : List UInt8) (h : overL (endL p) = true) (i : Nat) (xs : List ByteArray) (acc : List Tri3) : parseL i (⟨p.toArray⟩ :: xs) acc = parseL (i + 1) xs acc :=
  parse_over (x := ⟨p.toArray⟩) h
theorem noN_nil : NoN [] := fun c hc => by cases hc
theorem noN_rem : NoN [35, 32, 99] := by
  intro c hc
  simp at hc
  rcases hc with rfl | rfl | rfl <;> decide
theorem chunk_parse (c : Ch) (h : c.Ok) (r : List UInt8) (i : Nat) (acc : List Tri3) :
    ∃ n, parseL i (piecesB ⟨(c.text ++ r).toArray⟩) acc = parseL (i + n) (piecesB ⟨r.toArray⟩) (acc ++ [c.t]) := by
  have h0 := Ch.no h [] noN_nil
  unfold Ch.text endsL
  split
  · have e : c.line [10] ++ r = c.line [] ++ 10 :: r := by rw [show ([10] : List UInt8) = [] ++ [10] from rfl, line_app]; simp
    rw [e, pieces_step _ _ (fun x hx => (h0 x hx).1)]
    exact ⟨1, ok_step c h [] noN_nil (.inl rfl) _ (end_lf _ h0) i _ acc⟩
  split
  · have h1 := Ch.no h [35, 32, 99] noN_rem
    have e : c.line [35, 32, 99, 10] ++ r = c.line [35, 32, 99] ++ 10 :: r := by rw [show ([35, 32, 99, 10] : List UInt8) = [35, 32, 99] ++ [10] from rfl, line_app]; simp
    rw [e, pieces_step _ _ (fun x hx => (h1 x hx).1)]
    exact ⟨1, ok_step c h [35, 32, 99] noN_rem (.inr ⟨_, rfl⟩) _ (end_lf _ h1) i _ acc⟩
  split
  · have e : c.line [13, 10] ++ r = (c.line [] ++ [13]) ++ 10 :: r := by rw [show ([13, 10] : List UInt8) = [] ++ [13, 10] from rfl, line_app]; simp
    rw [e, pieces_step _ _ (fun x hx => (List.mem_append.1 hx).elim (fun hx => (h0 x hx).1) (fun hx => by obtain rfl := List.mem_singleton.1 hx; decide))]
    exact ⟨1, ok_step c h [] noN_nil (.inl rfl) _ (by rw [List.append_assoc]; exact end_cr _ h0) i _ acc⟩
  split
  · have e : c.line [10, 10] ++ r = c.line [] ++ 10 :: ([] ++ 10 :: r) := by rw [show ([10, 10] : List UInt8) = [] ++ [10, 10] from rfl, line_app]; simp
    rw [e, pieces_step _ _ (fun x hx => (h0 x hx).1), pieces_step _ _ (fun x hx => by cases hx)]
    refine ⟨2, ?_⟩
    rw [ok_step c h [] noN_nil (.inl rfl) _ (end_lf _ h0) i _ acc, over_step _ (by decide +kernel)]
  · have e : c.line [10, 32, 35, 32, 100, 32, 46, 32, 10] ++ r = c.line [] ++ 10 :: ([32, 35, 32, 100, 32, 46, 32] ++ 10 :: r) := by rw [show ([10, 32, 35, 32, 100, 32, 46, 32, 10] : List UInt8) = [] ++ [10, 32, 35, 32, 100, 32, 46, 32, 10] from rfl, line_app]; simp
    rw [e, pieces_step _ _ (fun x hx => (h0 x hx).1), pieces_step [32, 35, 32, 100, 32, 46, 32] _ (by decide)]
    refine ⟨2, ?_⟩
    rw [ok_step c h [] noN_nil (.inl rfl) _ (end_lf _ h0) i _ acc, over_step _ (by decide +kernel)]
theorem chunks_parse : ∀ (L : List Ch), (∀ c ∈ L, c.Ok) → ∀ (i : Nat) (acc : List Tri3), parseL i (piecesB ⟨(L.flatMap Ch.text).toArray⟩) acc = (acc ++ L.map Ch.t, 0, 0)
  | [], _, i, acc => by
    have e : piecesB ⟨(([] : List Ch).flatMap Ch.text).toArray⟩ = [⟨#[]⟩] := by rfl
    rw [e, parse_over (by decide +kernel), parseL]
    simp
  | c :: L, h, i, acc => by
    rw [List.flatMap_cons]
    obtain ⟨n, hn⟩ := chunk_parse c (h c (List.mem_cons_self ..)) (L.flatMap Ch.text) i acc
    rw [hn, chunks_parse L (fun x hx => h x (List.mem_cons_of_mem _ hx))]
    simp
theorem blanks_eq (L : List Ch) (h : ∀ c ∈ L, c.Ok) (hs : (L.flatMap Ch.text).length ≤ 16000) : parseOfS ⟨(L.flatMap Ch.text).toArray⟩ = (L.map Ch.t, 0, 0) := by
  unfold parseOfS
  rw [if_neg (by show ¬ 16000 < (L.flatMap Ch.text).toArray.size; simpa using hs), chunks_parse L h]
  rfl
end Go.Proofs.YtbkokckpjmbjhaaDoor
