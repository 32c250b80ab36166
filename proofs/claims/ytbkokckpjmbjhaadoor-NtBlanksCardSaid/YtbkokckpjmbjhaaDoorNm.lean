/- NtLines: what its text reads as; the law's own helpers. -/
import Derived.Test.YtbkokckpjmbjhaaDoorNl
import Derived.Test.YtbkokckpjmbjhaaDoorNk
namespace Go.Proofs.YtbkokckpjmbjhaaDoor
open Go.RowKit Go.Shelf
set_option maxRecDepth 100000
set_option linter.unusedVariables false
def goodP (x : ByteArray) : Prop := overL (endL x.data.toList) = false ∧ tripE (endL x.data.toList) = 0 ∧ (tripleL (endL x.data.toList)).isSome = true
theorem parse_goods : ∀ (ys : List ByteArray) (i : Nat) (acc : List Tri3) (xs : List ByteArray), (∀ y ∈ ys, goodP y) → ∃ acc', parseL i (ys ++ xs) acc = parseL (i + ys.length) xs acc'
  | [], i, acc, xs, _ => ⟨acc, rfl⟩
  | y :: ys, i, acc, xs, h => by
    obtain ⟨h1, h2, h3⟩ := h y (List.mem_cons_self ..)
    obtain ⟨t, ht⟩ := Option.isSome_iff_exists.1 h3
    obtain ⟨acc', h4⟩ := parse_goods ys (i + 1) (acc ++ [t]) xs (fun z hz => h z (List.mem_cons_of_mem _ hz))
    refine ⟨acc', ?_⟩
    show parseL i (y :: (ys ++ xs)) acc = _
    rw [parse_ok h1 h2 ht, h4, List.length_cons]
    congr 1
    omega
def goodLs : Nat → List ByteArray
  | 0 => []
  | n + 1 => goodLs n ++ [⟨(goodA n ++ [10]).toArray⟩]
theorem goodLs_len : ∀ n, (goodLs n).length = n
  | 0 => rfl
  | n + 1 => by rw [goodLs, List.length_append, goodLs_len n]; rfl
theorem goodLs_good : ∀ n, n ≤ 20 → ∀ y ∈ goodLs n, goodP y
  | 0, _, y, h => by cases h
  | n + 1, hn, y, h => by
    rcases List.mem_append.1 h with h | h
    · exact goodLs_good n (by omega) y h
    · obtain rfl := List.mem_singleton.1 h
      have := good_line ⟨n, by omega⟩
      exact ⟨this.1, this.2.1, this.2.2.1⟩
theorem goodN_pieces : ∀ n, n ≤ 20 → ∀ r, piecesB ⟨(goodN n ++ r).toArray⟩ = goodLs n ++ piecesB ⟨r.toArray⟩
  | 0, _, r => rfl
  | n + 1, hn, r => by
    have e : goodN (n + 1) ++ r = goodN n ++ (goodA n ++ 10 :: r) := by rw [goodN]; simp
    rw [e, goodN_pieces n (by omega), pieces_step _ _ (good_line ⟨n, by omega⟩).2.2.2, goodLs]
    simp
theorem goodN_len : ∀ n, (goodN n).length = 14 * n
  | 0 => rfl
  | n + 1 => by rw [goodN, List.length_append, goodN_len n]; simp [goodA]; omega
theorem restN_len : ∀ n, (restN n).length = 5 * n
  | 0 => rfl
  | n + 1 => by rw [restN, List.length_append, restN_len n]; simp; omega
theorem badA_len (k : Nat) : (badA k).length ≤ 13 := by
  unfold badA
  split
  · decide
  · split
    · decide
    · split
      · decide
      · split <;> decide
theorem lines_eq (n k m : Nat) (hn : n < 20) (hk : k < 5) (hm : m < 5) : parseOfS ⟨((goodN n ++ (badA k ++ [10])) ++ restN m).toArray⟩ = ([], ((n + 1 : Nat) : Int), wantE k) := by
  have h1 := goodN_len n
  have h2 := restN_len m
  have h3 := badA_len k
  have hsz : (⟨((goodN n ++ (badA k ++ [10])) ++ restN m).toArray⟩ : ByteArray).size ≤ 16000 := by
    show (((goodN n ++ (badA k ++ [10])) ++ restN m).toArray).size ≤ 16000
    simp
    omega
  unfold parseOfS
  rw [if_neg (by omega)]
  have e : (goodN n ++ (badA k ++ [10])) ++ restN m = goodN n ++ (badA k ++ 10 :: restN m) := by simp
  obtain ⟨b1, b2, b3, b4⟩ := bad_line ⟨k, hk⟩
  rw [e, goodN_pieces n (by omega), pieces_step _ _ b4]
  obtain ⟨acc', h4⟩ := parse_goods (goodLs n) 0 [] (⟨(badA k ++ [10]).toArray⟩ :: piecesB ⟨(restN m).toArray⟩) (goodLs_good n (by omega))
  rw [h4, goodLs_len]
  have b1' : overL (endL (⟨(badA k ++ [10]).toArray⟩ : ByteArray).data.toList) = false := b1
  have b2' : tripE (endL (⟨(badA k ++ [10]).toArray⟩ : ByteArray).data.toList) = wantE k := b2
  rw [parse_err b1' (by rw [b2']; exact b3), b2']
  simp
theorem within9_eq (a n : Int) (hn : 0 < n) (hn2 : n ≤ 4611686018427387904) (w : World) :
    Calls Tryd.prog 8 #[.int .i64 a, .int .i64 n] w fun e w' => e = .returned (.int .i64 (a % n)) ∧ w' = w := by
  have h1 := Int.tmod_lt_of_pos a hn
  have h2 : -n < a.tmod n := Int.lt_tmod_of_pos a hn
  have hz : (n == 0) = false := by simpa using (by omega : n ≠ 0)
  have he : a % n = if a.tmod n < 0 then a.tmod n + n else a.tmod n := by
    rw [Int.tmod_eq_emod]
    have h3 := Int.emod_nonneg a (show n ≠ 0 by omega)
    have h4 := Int.emod_lt_of_pos a hn
    have h5 : ((Int.natAbs n : Nat) : Int) = n := by omega
    by_cases h0 : 0 ≤ a ∨ n ∣ a
    · rw [if_pos h0]; split <;> omega
    · rw [if_neg h0, h5]; split <;> omega
  have HE := Lib.hid he
  clear he
  by_cases h0 : a.tmod n < 0
  · go_enter Tryd.func8, Tryd.ntmps8
    go_wp2
    go_ret
    exact ⟨by rw [HE.out, if_pos h0]; rfl, rfl⟩
  · go_enter Tryd.func8, Tryd.ntmps8
    go_wp2
    go_ret
    exact ⟨by rw [HE.out, if_neg (by omega)]; rfl, rfl⟩
theorem known_eq1 : (parseOfS ⟨#[]⟩).1.length = 0 ∧ (parseOfS ⟨#[]⟩).2.1 = 0 ∧ (parseOfS ⟨#[]⟩).2.2 = 0 := by decide +kernel
theorem known_eq2 : (parseOfS ⟨#[10, 119, 104, 97, 116]⟩).1.length = 0 ∧ (parseOfS ⟨#[10, 119, 104, 97, 116]⟩).2.1 = 2 ∧ (parseOfS ⟨#[10, 119, 104, 97, 116]⟩).2.2 = 6 := by decide +kernel
theorem known9_any (w : World) : Calls Tryd.prog 4 #[] w fun e w' => e = .returned (.bool true) ∧ Below w.heap.size w w' := by
  go_enter Tryd.func4, Tryd.ntmps4
  go_wp2_with fail
  refine (parse9 ⟨#[]⟩ (by decide) _).mono ?_
  intro e w1 h
  unfold ParTo at h
  rw [known_eq1.1, known_eq1.2.1, known_eq1.2.2] at h
  obtain ⟨ao1, cap1, rfl, hb1, -⟩ := h
  have H1 := Lib.hid hb1
  clear hb1
  go_wp2_with fail
  refine (parse9 ⟨#[10, 119, 104, 97, 116]⟩ (by decide) _).mono ?_
  intro e w2 h
  unfold ParTo at h
  rw [known_eq2.1, known_eq2.2.1, known_eq2.2.2] at h
  obtain ⟨ao2, cap2, rfl, hb2, -⟩ := h
  have H2 := Lib.hid (H1.out.trans (hb2.mono H1.out.size))
  clear hb2
  go_wp2_with fail
  go_ret
  exact ⟨rfl, H2.out⟩
end Go.Proofs.YtbkokckpjmbjhaaDoor
