/- Terms: Text, package term's and triadref6's. -/
import Derived.Test.YtpoacgnncinmiaaTb
import Derived.Deep.QuietTactic
import Derived.BigQuiet
import Derived.Deep.RegionHeld3
namespace Go.Proofs.Ytpoacgnncinmiaa
open Go.RowKit
set_option maxRecDepth 100000

/-- Bytes as a string. -/
def bl (l : List UInt8) : ByteArray := ⟨l.toArray⟩
theorem bl_toList (l : List UInt8) : (bl l).data.toList = l := rfl
theorem ba_ext {a b : ByteArray} (h : a.data.toList = b.data.toList) : a = b := by
  cases a; cases b; simp at h; exact congrArg _ h
theorem ba_app (a b : ByteArray) : (a ++ b).data.toList = a.data.toList ++ b.data.toList := by simp

/-- A byte within a literal's quotes; a text; a literal's. -/
def quo (c : UInt8) : List UInt8 :=
  if c.toNat = 9 then [92, 116] else if c.toNat = 10 then [92, 110] else if c.toNat = 13 then [92, 114] else if c.toNat = 34 then [92, 34] else if c.toNat = 92 then [92, 92] else [c]
def quoL (l : List UInt8) : List UInt8 := 34 :: (l.flatMap quo ++ [34])
def tagL (x : Tm) : List UInt8 := if x.l.toList.isEmpty then (if x.t.toList.isEmpty then [] else 94 :: 94 :: 60 :: (x.t.data.toList ++ [62])) else 64 :: x.l.data.toList
def textL (x : Tm) : List UInt8 := if x.k = 1 then 60 :: (x.s.data.toList ++ [62]) else if x.k = 2 then 95 :: 58 :: x.s.data.toList else quoL x.s.data.toList ++ tagL x

theorem quo_length (c : UInt8) : (quo c).length ≤ 2 := by unfold quo; repeat' split
                                                          all_goals simp
theorem quos_length (l : List UInt8) : (l.flatMap quo).length ≤ 2 * l.length := by
  induction l with
  | nil => simp
  | cons c t ih => have := quo_length c; simp only [List.flatMap_cons, List.length_append, List.length_cons]; omega

theorem angled_any (s : ByteArray) (hs : s.size ≤ 1073741824) (w : World) :
    Calls Try.prog 43 #[.string s] w fun e w' => e = .returned (.string (bl (60 :: (s.data.toList ++ [62])))) ∧ w = w' := by
  go_enter Try.func43, Try.ntmps43
  go_wp2
  go_ret
  exact ⟨ret_str (ba_ext (by simp [bl])), rfl⟩

set_option maxHeartbeats 4000000 in
theorem quoted_any (s : ByteArray) (hs : s.size ≤ 1073741824) (w : World) :
    Calls Try.prog 44 #[.string s] w fun e w' => e = .returned (.string (bl (quoL s.data.toList))) ∧ Below w.heap.size w w' := by
  go_enter Try.func44, Try.ntmps44
  go_wp2
  go_loopw [3, 4, 5, 9, 10, 11, 12, 13, 14, 15, 16, 17, 18, 19, 20, 21, 22, 23, 24, 25, 26, 27, 28, 29, 30, 31, 32, 33] (fun b _ _ i _ _ _ _ _ _ _ _ _ _ _ _ _ _ _ _ _ _ _ _ _ _ _ _ wr => ∃ k : Nat, k ≤ s.size ∧ i = .int .i64 k ∧ Own wr w.heap.size b (34 :: (s.data.toList.take k).flatMap quo) ∧ Below w.heap.size w wr) (fun _ _ _ i _ _ _ _ _ _ _ _ _ _ _ _ _ _ _ _ _ _ _ _ _ _ _ _ _ => s.size - (intOf i).toNat)
  case atStart => exact ⟨0, Nat.zero_le _, rfl, Own.one w _ (Nat.le_refl _) 34 _ rfl, (Below.refl _ _).alloc (Nat.le_refl _) _⟩
  case round =>
    obtain ⟨k, hk, rfl, hown, hbel⟩ := hrel
    have hsz := hbel.size
    have hql : ((s.data.toList.take k).flatMap quo).length ≤ 2 * s.size := by
      have h1 := quos_length (s.data.toList.take k)
      have h2 : (s.data.toList.take k).length ≤ s.size := by simp; omega
      omega
    have HOWN := Lib.hid hown
    have HBEL := Lib.hid hbel
    clear hown hbel
    by_cases hlt : k < s.size
    · obtain ⟨c, hc⟩ : ∃ c : UInt8, c = s[k] := ⟨_, rfl⟩
      have hix : s.data.toList[k]? = some c := by rw [hc]; simp [hlt]; rfl
      have hsn : (s.data.toList.take (k + 1)).flatMap quo = (s.data.toList.take k).flatMap quo ++ quo c := by
        obtain ⟨hk', he⟩ := List.getElem?_eq_some_iff.1 hix
        rw [List.take_succ_eq_append_getElem hk', List.flatMap_append, he]; simp
      have HSN := Lib.hid hsn
      obtain ⟨n, hn, hn2⟩ := byte_cases c
      have HN := Lib.hid hn
      have hcn : s[k].toNat = n := by rw [hn, hc]
      clear hc hix hsn
      have hcase : n = 9 ∨ n = 10 ∨ n = 13 ∨ n = 34 ∨ n = 92 ∨ (n ≠ 9 ∧ n ≠ 10 ∧ n ≠ 13 ∧ n ≠ 34 ∧ n ≠ 92) := by omega
      generalize hL : (s.data.toList.take k).flatMap quo = L at *
      have HL := Lib.hid hL
      clear hL
      rcases hcase with rfl | rfl | rfl | rfl | rfl | ⟨g1, g2, g3, g4, g5⟩
      · have hq : quo c = [92, 116] := by unfold quo; rw [← hn]; rfl
        have HQ := Lib.hid hq
        clear hn hq
        go_wp2_with (at_builtin; refine wpList_append_bytes rfl (.tmp 26) (.tmp 27) rfl w.heap.size _ _ rfl (HOWN.out.alloc _) _ _ rfl (Bs.one _ 92 _ rfl) ?c1 ?c2 ?_)
        case c1 => simp only [List.length_cons, List.length_nil]; omega
        case c2 => simp; omega
        intro v1 w1 ho1 hg1
        have hb1 : Below w.heap.size w w1 := (HOWN.out.alloc _).step (HBEL.out.alloc hsz _) hg1 (Nat.le_refl _) (by simp; omega)
        have hs1 := hb1.size
        have HO1 := Lib.hid ho1
        have HB1 := Lib.hid hb1
        clear ho1 hg1 hb1
        go_wp2_with (at_builtin; refine wpList_append_bytes rfl (.tmp 29) (.tmp 31) rfl w.heap.size _ _ rfl (HO1.out.alloc _) _ _ rfl (Bs.one _ 116 _ rfl) ?d1 ?d2 ?_)
        case d1 => simp only [List.length_cons, List.length_append, List.length_nil]; omega
        case d2 => simp; omega
        intro v2 w2 ho2 hg2
        have hb2 : Below w.heap.size w w2 := (HO1.out.alloc _).step (HB1.out.alloc hs1 _) hg2 (Nat.le_refl _) (by simp; omega)
        have HO2 := Lib.hid ho2
        have HB2 := Lib.hid hb2
        clear ho2 hg2 hb2
        go_wp2_with fail
        go_roundw
        case rel => exact ⟨k + 1, by omega, by go_num, by rw [HSN.out, HQ.out]; simpa using HO2.out, HB2.out⟩
        case measure => simp [intOf]; omega
      · have hq : quo c = [92, 110] := by unfold quo; rw [← hn]; rfl
        have HQ := Lib.hid hq
        clear hn hq
        go_wp2_with (at_builtin; refine wpList_append_bytes rfl (.tmp 26) (.tmp 27) rfl w.heap.size _ _ rfl (HOWN.out.alloc _) _ _ rfl (Bs.one _ 92 _ rfl) ?c1 ?c2 ?_)
        case c1 => simp only [List.length_cons, List.length_nil]; omega
        case c2 => simp; omega
        intro v1 w1 ho1 hg1
        have hb1 : Below w.heap.size w w1 := (HOWN.out.alloc _).step (HBEL.out.alloc hsz _) hg1 (Nat.le_refl _) (by simp; omega)
        have hs1 := hb1.size
        have HO1 := Lib.hid ho1
        have HB1 := Lib.hid hb1
        clear ho1 hg1 hb1
        go_wp2_with (at_builtin; refine wpList_append_bytes rfl (.tmp 29) (.tmp 31) rfl w.heap.size _ _ rfl (HO1.out.alloc _) _ _ rfl (Bs.one _ 110 _ rfl) ?d1 ?d2 ?_)
        case d1 => simp only [List.length_cons, List.length_append, List.length_nil]; omega
        case d2 => simp; omega
        intro v2 w2 ho2 hg2
        have hb2 : Below w.heap.size w w2 := (HO1.out.alloc _).step (HB1.out.alloc hs1 _) hg2 (Nat.le_refl _) (by simp; omega)
        have HO2 := Lib.hid ho2
        have HB2 := Lib.hid hb2
        clear ho2 hg2 hb2
        go_wp2_with fail
        go_roundw
        case rel => exact ⟨k + 1, by omega, by go_num, by rw [HSN.out, HQ.out]; simpa using HO2.out, HB2.out⟩
        case measure => simp [intOf]; omega
      · have hq : quo c = [92, 114] := by unfold quo; rw [← hn]; rfl
        have HQ := Lib.hid hq
        clear hn hq
        go_wp2_with (at_builtin; refine wpList_append_bytes rfl (.tmp 26) (.tmp 27) rfl w.heap.size _ _ rfl (HOWN.out.alloc _) _ _ rfl (Bs.one _ 92 _ rfl) ?c1 ?c2 ?_)
        case c1 => simp only [List.length_cons, List.length_nil]; omega
        case c2 => simp; omega
        intro v1 w1 ho1 hg1
        have hb1 : Below w.heap.size w w1 := (HOWN.out.alloc _).step (HBEL.out.alloc hsz _) hg1 (Nat.le_refl _) (by simp; omega)
        have hs1 := hb1.size
        have HO1 := Lib.hid ho1
        have HB1 := Lib.hid hb1
        clear ho1 hg1 hb1
        go_wp2_with (at_builtin; refine wpList_append_bytes rfl (.tmp 29) (.tmp 31) rfl w.heap.size _ _ rfl (HO1.out.alloc _) _ _ rfl (Bs.one _ 114 _ rfl) ?d1 ?d2 ?_)
        case d1 => simp only [List.length_cons, List.length_append, List.length_nil]; omega
        case d2 => simp; omega
        intro v2 w2 ho2 hg2
        have hb2 : Below w.heap.size w w2 := (HO1.out.alloc _).step (HB1.out.alloc hs1 _) hg2 (Nat.le_refl _) (by simp; omega)
        have HO2 := Lib.hid ho2
        have HB2 := Lib.hid hb2
        clear ho2 hg2 hb2
        go_wp2_with fail
        go_roundw
        case rel => exact ⟨k + 1, by omega, by go_num, by rw [HSN.out, HQ.out]; simpa using HO2.out, HB2.out⟩
        case measure => simp [intOf]; omega
      · have hq : quo c = [92, 34] := by unfold quo; rw [← hn]; rfl
        have HQ := Lib.hid hq
        clear hn hq
        go_wp2_with (at_builtin; refine wpList_append_bytes rfl (.tmp 26) (.tmp 27) rfl w.heap.size _ _ rfl (HOWN.out.alloc _) _ _ rfl (Bs.one _ 92 _ rfl) ?c1 ?c2 ?_)
        case c1 => simp only [List.length_cons, List.length_nil]; omega
        case c2 => simp; omega
        intro v1 w1 ho1 hg1
        have hb1 : Below w.heap.size w w1 := (HOWN.out.alloc _).step (HBEL.out.alloc hsz _) hg1 (Nat.le_refl _) (by simp; omega)
        have hs1 := hb1.size
        have HO1 := Lib.hid ho1
        have HB1 := Lib.hid hb1
        clear ho1 hg1 hb1
        go_wp2_with (at_builtin; refine wpList_append_bytes rfl (.tmp 29) (.tmp 31) rfl w.heap.size _ _ rfl (HO1.out.alloc _) _ _ rfl (Bs.one _ 34 _ rfl) ?d1 ?d2 ?_)
        case d1 => simp only [List.length_cons, List.length_append, List.length_nil]; omega
        case d2 => simp; omega
        intro v2 w2 ho2 hg2
        have hb2 : Below w.heap.size w w2 := (HO1.out.alloc _).step (HB1.out.alloc hs1 _) hg2 (Nat.le_refl _) (by simp; omega)
        have HO2 := Lib.hid ho2
        have HB2 := Lib.hid hb2
        clear ho2 hg2 hb2
        go_wp2_with fail
        go_roundw
        case rel => exact ⟨k + 1, by omega, by go_num, by rw [HSN.out, HQ.out]; simpa using HO2.out, HB2.out⟩
        case measure => simp [intOf]; omega
      · have hq : quo c = [92, 92] := by unfold quo; rw [← hn]; rfl
        have HQ := Lib.hid hq
        clear hn hq
        go_wp2_with (at_builtin; refine wpList_append_bytes rfl (.tmp 26) (.tmp 27) rfl w.heap.size _ _ rfl (HOWN.out.alloc _) _ _ rfl (Bs.one _ 92 _ rfl) ?c1 ?c2 ?_)
        case c1 => simp only [List.length_cons, List.length_nil]; omega
        case c2 => simp; omega
        intro v1 w1 ho1 hg1
        have hb1 : Below w.heap.size w w1 := (HOWN.out.alloc _).step (HBEL.out.alloc hsz _) hg1 (Nat.le_refl _) (by simp; omega)
        have hs1 := hb1.size
        have HO1 := Lib.hid ho1
        have HB1 := Lib.hid hb1
        clear ho1 hg1 hb1
        go_wp2_with (at_builtin; refine wpList_append_bytes rfl (.tmp 29) (.tmp 31) rfl w.heap.size _ _ rfl (HO1.out.alloc _) _ _ rfl (Bs.one _ 92 _ rfl) ?d1 ?d2 ?_)
        case d1 => simp only [List.length_cons, List.length_append, List.length_nil]; omega
        case d2 => simp; omega
        intro v2 w2 ho2 hg2
        have hb2 : Below w.heap.size w w2 := (HO1.out.alloc _).step (HB1.out.alloc hs1 _) hg2 (Nat.le_refl _) (by simp; omega)
        have HO2 := Lib.hid ho2
        have HB2 := Lib.hid hb2
        clear ho2 hg2 hb2
        go_wp2_with fail
        go_roundw
        case rel => exact ⟨k + 1, by omega, by go_num, by rw [HSN.out, HQ.out]; simpa using HO2.out, HB2.out⟩
        case measure => simp [intOf]; omega
      · have hq : quo c = [c] := by unfold quo; rw [← hn, if_neg g1, if_neg g2, if_neg g3, if_neg g4, if_neg g5]
        have HQ := Lib.hid hq
        have hvb : Value.int .u8 (n : Int) = vb c := by unfold vb; rw [hn]
        have HVB := Lib.hid hvb
        have e1 : ((n : Int) == 9) = false := by simp; omega
        have e2 : ((n : Int) == 10) = false := by simp; omega
        have e3 : ((n : Int) == 13) = false := by simp; omega
        have e4 : ((n : Int) == 34) = false := by simp; omega
        have e5 : ((n : Int) == 92) = false := by simp; omega
        clear hn hq hvb g1 g2 g3 g4 g5
        go_wp2_with (at_builtin; refine wpList_append_bytes rfl (.tmp 29) (.tmp 31) rfl w.heap.size _ _ rfl (HOWN.out.alloc _) _ _ rfl (Bs.one _ c _ HVB.out) ?d1 ?d2 ?_)
        case d1 => simp only [List.length_cons, List.length_nil]; omega
        case d2 => simp; omega
        intro v2 w2 ho2 hg2
        have hb2 : Below w.heap.size w w2 := (HOWN.out.alloc _).step (HBEL.out.alloc hsz _) hg2 (Nat.le_refl _) (by simp; omega)
        have HO2 := Lib.hid ho2
        have HB2 := Lib.hid hb2
        clear ho2 hg2 hb2
        go_wp2_with fail
        go_roundw
        case rel => exact ⟨k + 1, by omega, by go_num, by rw [HSN.out, HQ.out]; simpa using HO2.out, HB2.out⟩
        case measure => simp [intOf]; omega
    · obtain rfl : k = s.size := by omega
      have htk : s.data.toList.take s.size = s.data.toList := by rw [List.take_of_length_le (by simp)]
      have HTK := Lib.hid htk
      clear htk
      generalize hL : (s.data.toList.take s.size).flatMap quo = L at *
      have HL := Lib.hid hL
      clear hL
      go_wp2_with (first | (at_builtin; refine wpList_append_bytes rfl (.tmp 34) (.tmp 35) rfl w.heap.size _ _ rfl (HOWN.out.alloc _) _ _ rfl (Bs.one _ 34 _ rfl) ?c1 ?c2 ?_) | (refine wpList_conv rfl (.tmp 36) rfl _ _ rfl HO1.out.bs ?_))
      case c1 => simp only [List.length_cons, List.length_nil]; omega
      case c2 => simp; omega
      intro v1 w1 ho1 hg1
      have hb1 : Below w.heap.size w w1 := (HOWN.out.alloc _).step (HBEL.out.alloc hsz _) hg1 (Nat.le_refl _) (by simp; omega)
      have HO1 := Lib.hid ho1
      have HB1 := Lib.hid hb1
      clear ho1 hg1 hb1
      refine wpList_conv rfl (.tmp 36) rfl _ _ rfl HO1.out.bs ?_
      go_wp2_with fail
      go_ret
      refine ⟨ret_str (ba_ext ?_), HB1.out⟩
      rw [bl_toList]
      unfold quoL
      rw [← HTK.out, HL.out]
theorem bl_size (l : List UInt8) : (bl l).size = l.length := by simp [bl, ByteArray.size]
theorem tagL_length (x : Tm) : (tagL x).length ≤ x.l.size + x.t.size + 4 := by
  have h1 : x.t.data.toList.length = x.t.size := by simp
  have h2 : x.l.data.toList.length = x.l.size := by simp
  unfold tagL
  split
  · split
    · simp
    · simp only [List.length_cons, List.length_append, List.length_nil]; omega
  · simp only [List.length_cons]; omega
theorem quoL_length (s : ByteArray) : (quoL s.data.toList).length ≤ 2 * s.size + 2 := by
  have h1 := quos_length s.data.toList
  have h2 : s.data.toList.length = s.size := by simp
  unfold quoL
  simp only [List.length_cons, List.length_append, List.length_nil]
  omega
set_option maxHeartbeats 2000000 in
theorem tag_any (x : Tm) (hl : x.l.size ≤ 1073741824) (ht : x.t.size ≤ 1073741824) (w : World) :
    Calls Try.prog 45 #[x.val] w fun e w' => e = .returned (.string (bl (tagL x))) ∧ Below w.heap.size w w' := by
  obtain ⟨k, s, l, t⟩ := x
  unfold Tm.val tagL
  dsimp only at hl ht ⊢
  cases g1 : l.toList.isEmpty with
  | false =>
    go_enter Try.func45, Try.ntmps45
    go_wp2
    go_ret
    exact ⟨ret_str (ba_ext (by simp [bl])), (Below.refl _ _).alloc (Nat.le_refl _) _⟩
  | true =>
    cases g2 : t.toList.isEmpty with
    | false =>
      go_enter Try.func45, Try.ntmps45
      go_wp2_with fail
      refine (angled_any t ht _).mono ?_
      rintro e w' ⟨rfl, rfl⟩
      have hz := bl_size (60 :: (t.data.toList ++ [62]))
      have hz2 : t.data.toList.length = t.size := by simp
      simp only [List.length_cons, List.length_append, List.length_nil] at hz
      generalize hq : bl (60 :: (t.data.toList ++ [62])) = q at *
      have HQ := Lib.hid hq
      clear hq
      have hz3 : q.size ≤ 1073741830 := by omega
      clear hz hz2
      go_wp2
      go_ret
      refine ⟨ret_str (ba_ext ?_), (Below.refl _ _).alloc (Nat.le_refl _) _⟩
      rw [← HQ.out]
      simp [bl]
    | true =>
      go_enter Try.func45, Try.ntmps45
      go_wp2
      go_ret
      exact ⟨ret_str (ba_ext (by simp [bl])), (Below.refl _ _).alloc (Nat.le_refl _) _⟩
set_option maxHeartbeats 4000000 in
theorem text_any6 (x : Tm) (hs : x.s.size ≤ 1073741824) (hl : x.l.size ≤ 1073741824) (ht : x.t.size ≤ 1073741824) (w : World) :
    Calls Try.prog 19 #[x.val] w fun e w' => e = .returned (.string (bl (textL x))) ∧ Below w.heap.size w w' := by
  have htag := tag_any x hl ht
  have hz1 := tagL_length x
  obtain ⟨k, s, l, t⟩ := x
  unfold textL
  unfold Tm.val at htag ⊢
  dsimp only at hs hl ht hz1 ⊢
  by_cases h1 : k = 1
  · subst h1
    clear htag hz1
    go_enter Try.func19, Try.ntmps19
    go_wp2_with fail
    refine (angled_any s hs _).mono ?_
    rintro e w' ⟨rfl, rfl⟩
    generalize hq : bl (60 :: (s.data.toList ++ [62])) = q at *
    have HQ := Lib.hid hq
    clear hq
    go_wp2
    go_ret
    exact ⟨ret_str (by rw [← HQ.out]), (Below.refl _ _).alloc (Nat.le_refl _) _⟩
  by_cases h2 : k = 2
  · subst h2
    clear htag hz1
    go_enter Try.func19, Try.ntmps19
    go_wp2
    go_ret
    exact ⟨ret_str (ba_ext (by simp [bl])), (Below.refl _ _).alloc (Nat.le_refl _) _⟩
  rw [if_neg h1, if_neg h2]
  have e1 : (k == 1) = false := by simpa using h1
  have e2 : (k == 2) = false := by simpa using h2
  have hz2 := quoL_length s
  have hz3 := bl_size (quoL s.data.toList)
  have hz4 := bl_size (tagL ⟨k, s, l, t⟩)
  have hquo := quoted_any s hs
  generalize hq : bl (quoL s.data.toList) = q at *
  generalize hg : bl (tagL ⟨k, s, l, t⟩) = g at *
  have hqz : q.size ≤ 2147483650 := by omega
  have hgz : g.size ≤ 2147483652 := by omega
  have HQ := Lib.hid hq
  have HG := Lib.hid hg
  have HT := Lib.hid htag
  have HU := Lib.hid hquo
  clear hq hg htag hquo hz1 hz2 hz3 hz4 h1 h2
  have c0 : (w.alloc (.cells #[.int .i64 k, .string s, .string l, .string t] 23)).cell? ⟨w.heap.size, 0, none⟩ = some (.int .i64 k) := by simp
  have c1 : (w.alloc (.cells #[.int .i64 k, .string s, .string l, .string t] 23)).cell? ⟨w.heap.size, 1, none⟩ = some (.string s) := by simp
  have c2 : (w.alloc (.cells #[.int .i64 k, .string s, .string l, .string t] 23)).cell? ⟨w.heap.size, 2, none⟩ = some (.string l) := by simp
  have c3 : (w.alloc (.cells #[.int .i64 k, .string s, .string l, .string t] 23)).cell? ⟨w.heap.size, 3, none⟩ = some (.string t) := by simp
  have hw : Below w.heap.size w (w.alloc (.cells #[.int .i64 k, .string s, .string l, .string t] 23)) := (Below.refl _ _).alloc (Nat.le_refl _) _
  have hlt : w.heap.size < (w.alloc (.cells #[.int .i64 k, .string s, .string l, .string t] 23)).heap.size := by simp
  have C := Lib.hid (And.intro c0 (And.intro c1 (And.intro c2 c3)))
  have HW := Lib.hid hw
  have HLT := Lib.hid hlt
  clear c0 c1 c2 c3 hw hlt
  have hadd : ∀ w : World, (Op.stringOp .add q g).run Try.prog w = .ok (.string (q ++ g)) w := fun w => run_string_add_sum w q g (by omega)
  go_enter Try.func19, Try.ntmps19
  go_wp2_with fail
  generalize hw1 : w.alloc _ = w1 at C HW HLT ⊢
  clear hw1
  have c0 := C.out.1
  have c1 := C.out.2.1
  have c2 := C.out.2.2.1
  have c3 := C.out.2.2.2
  go_region_held3 (fun w' => w'.cell? ⟨w.heap.size, 0, none⟩ = some (.int .i64 k) ∧ w'.cell? ⟨w.heap.size, 1, none⟩ = some (.string s) ∧ w'.cell? ⟨w.heap.size, 2, none⟩ = some (.string l) ∧ w'.cell? ⟨w.heap.size, 3, none⟩ = some (.string t)) (first | exact ⟨c0, c1, c2, c3⟩ | exact q2 | exact q1)
    (first
      | (go_at_call 44; refine (HU.out _).mono ?_; rintro e wi ⟨rfl, hb1⟩; have b1 := Lib.hid ((Below.refl w1.heap.size w1).drew.trans hb1); have q1 : wi.cell? ⟨w.heap.size, 0, none⟩ = some (.int .i64 k) ∧ wi.cell? ⟨w.heap.size, 1, none⟩ = some (.string s) ∧ wi.cell? ⟨w.heap.size, 2, none⟩ = some (.string l) ∧ wi.cell? ⟨w.heap.size, 3, none⟩ = some (.string t) := ⟨(b1.out.cell HLT.out).trans c0, (b1.out.cell HLT.out).trans c1, (b1.out.cell HLT.out).trans c2, (b1.out.cell HLT.out).trans c3⟩)
      | (go_at_call 45; refine (HT.out _).mono ?_; rintro e wj ⟨rfl, hb2⟩; have b2 := Lib.hid (b1.out.trans (hb2.mono b1.out.size)); have q2 : wj.cell? ⟨w.heap.size, 0, none⟩ = some (.int .i64 k) ∧ wj.cell? ⟨w.heap.size, 1, none⟩ = some (.string s) ∧ wj.cell? ⟨w.heap.size, 2, none⟩ = some (.string l) ∧ wj.cell? ⟨w.heap.size, 3, none⟩ = some (.string t) := ⟨(b2.out.cell HLT.out).trans c0, (b2.out.cell HLT.out).trans c1, (b2.out.cell HLT.out).trans c2, (b2.out.cell HLT.out).trans c3⟩))
  go_wp2_with fail
  go_ret
  refine ⟨ret_str (ba_ext ?_), HW.out.trans (b2.out.mono (Nat.le_of_lt HLT.out))⟩
  rw [← HQ.out, ← HG.out]
  simp [bl]
end Go.Proofs.Ytpoacgnncinmiaa
