/- References: the document's small functions on texts. -/
import Derived.Test.YtbkokckpjmbjhaaGa
import Derived.Test.YtbkokckpjmbjhaaKa
import Derived.Deep.LoopGhost
import Derived.Deep.QuietTactic
import Derived.BigQuiet
namespace Go.Proofs.Ytbkokckpjmbjhaa
open Go.RowKit
set_option maxRecDepth 100000
set_option linter.unusedVariables false
theorem ba_ext {a b : ByteArray} (h : a.data.toList = b.data.toList) : a = b := by
  obtain ⟨⟨x⟩⟩ := a
  obtain ⟨⟨y⟩⟩ := b
  simp only at h
  rw [h]
theorem draws_t (w : World) (n : Nat) : Below w.heap.size w (w.drewN n) := ⟨rfl, rfl, rfl, Nat.le_refl _, fun _ _ => rfl⟩
theorem drop_at {l : List UInt8} {i : Nat} (h : i < l.length) : l.drop i = l[i] :: l.drop (i + 1) := List.drop_eq_getElem_cons h
theorem u8_beq (x y : UInt8) : (((x.toNat : Nat) : Int) == ((y.toNat : Nat) : Int)) = (x == y) := by
  by_cases h : x = y
  · subst h; simp
  · have h1 : ¬ ((x.toNat : Nat) : Int) = ((y.toNat : Nat) : Int) := fun e => h (UInt8.toNat_inj.1 (by omega))
    rw [beq_eq_false_iff_ne.2 h1, beq_eq_false_iff_ne.2 h]
theorem rin_any (c : UInt8) (s : ByteArray) (hs : s.size ≤ 1000000) (w : World) : Calls Try.prog 24 #[.int .u8 ((c.toNat : Nat) : Int), .string s] w fun e w' => e = .returned (.bool (s.data.toList.contains c)) ∧ w' = w := by
  obtain ⟨l, hl⟩ : ∃ l, l = s.data.toList := ⟨_, rfl⟩
  have hsz : s.size = l.length := by rw [hl, Lib.size_eq]
  have hget : ∀ (i : Nat) (h : i < s.size) (h' : i < l.length), s[i]'h = l[i] := fun i h h' => by subst hl; rfl
  obtain ⟨b, hb⟩ : ∃ b, b = l.contains c := ⟨_, rfl⟩
  rw [← hl, ← hb]
  have HB := Lib.hid hb
  have HSZ := Lib.hid hsz
  have HGET := Lib.hid hget
  have hsi : (s.size : Int) ≤ 1000000 := by omega
  clear hl hsz hget hb
  go_enter Try.func24, Try.ntmps24
  go_wp2_with fail
  go_loopg [5] s.size (fun g s5 wx => ∃ i : Nat, i + g = s.size ∧ s5 = .int .i64 i ∧ wx = w ∧ b = (l.drop i).contains c)
  case atStart => exact ⟨0, by omega, rfl, rfl, by rw [List.drop_zero]; exact HB.out⟩
  case round =>
    obtain ⟨i, hig, rfl, rfl, hr⟩ := hrel
    have HR := Lib.hid hr
    clear hr
    cases gk with
    | zero =>
      obtain rfl : i = s.size := by omega
      have hn : ¬ ((s.size : Int) < s.size) := by omega
      go_wp2_with fail
      go_ret
      refine ⟨?_, rfl⟩
      rw [HR.out, List.drop_eq_nil_of_le (by rw [HSZ.out]; exact Nat.le_refl _)]
      rfl
    | succ g =>
      have hi : i < s.size := by omega
      have hiz : (i : Int) < s.size := by omega
      have hil : i < l.length := by have := HSZ.out; omega
      obtain ⟨d, hd⟩ : ∃ d, d = l[i] := ⟨_, rfl⟩
      have hg : s[i]'hi = d := by rw [hd]; exact HGET.out i hi hil
      have HD := Lib.hid hd
      have hb := u8_beq d c
      clear hd
      by_cases hcd : d = c
      · have hb2 : (d == c) = true := beq_iff_eq.2 hcd
        rw [hb2] at hb
        have HC := Lib.hid hcd
        clear hcd hb2
        go_wp2_with fail
        go_ret
        refine ⟨?_, rfl⟩
        rw [HR.out, drop_at hil, ← HD.out, HC.out, List.contains_cons]
        simp
      · have hb2 : (d == c) = false := beq_eq_false_iff_ne.2 hcd
        rw [hb2] at hb
        have HC := Lib.hid (Ne.symm hcd)
        clear hcd hb2
        go_wp2_with fail
        go_roundg g
        case measure => omega
        case rel =>
          refine ⟨i + 1, by omega, by go_num, rfl, ?_⟩
          rw [HR.out, drop_at hil, ← HD.out, List.contains_cons, beq_eq_false_iff_ne.2 HC.out, Bool.false_or]
theorem upto_any (s m : ByteArray) (k : Nat) (hs : s.size ≤ 1000000) (hm : m.size ≤ 1000000) (hk : k ≤ s.size) (w : World) : Calls Try.prog 17 #[.string s, .int .i64 k, .string m] w fun e w' => e = .returned (.int .i64 (k + (frontL m.data.toList (s.data.toList.drop k)).length : Nat)) ∧ w' = w := by
  obtain ⟨l, hl⟩ : ∃ l, l = s.data.toList := ⟨_, rfl⟩
  obtain ⟨T, hT⟩ : ∃ T, T = k + (frontL m.data.toList (l.drop k)).length := ⟨_, rfl⟩
  have hsz : s.size = l.length := by rw [hl, Lib.size_eq]
  have hget : ∀ (i : Nat) (h : i < s.size) (h' : i < l.length), s[i]'h = l[i] := fun i h h' => by subst hl; rfl
  rw [← hl, ← hT]
  have HT := Lib.hid hT
  have HSZ := Lib.hid hsz
  have HGET := Lib.hid hget
  have HIN := Lib.hid (fun c w => rin_any c m hm w)
  have hsi : (s.size : Int) ≤ 1000000 := by omega
  clear hl hsz hget hT
  go_enter Try.func17, Try.ntmps17
  go_wp2_with fail
  go_loopg [7] (s.size - k) (fun g s7 wx => ∃ i : Nat, i + g = s.size ∧ s7 = .int .i64 i ∧ wx = w ∧ T = i + (frontL m.data.toList (l.drop i)).length)
  case atStart => exact ⟨k, by omega, rfl, rfl, HT.out⟩
  case round =>
    obtain ⟨i, hig, rfl, rfl, hr⟩ := hrel
    have HR := Lib.hid hr
    clear hr
    cases gk with
    | zero =>
      obtain rfl : i = s.size := by omega
      have hn : ¬ ((s.size : Int) < s.size) := by omega
      go_wp2_with fail
      go_ret
      refine ⟨?_, rfl⟩
      rw [HR.out, List.drop_eq_nil_of_le (by rw [HSZ.out]; exact Nat.le_refl _)]
      rfl
    | succ g =>
      have hi : i < s.size := by omega
      have hiz : (i : Int) < s.size := by omega
      have hil : i < l.length := by have := HSZ.out; omega
      obtain ⟨d, hd⟩ : ∃ d, d = l[i] := ⟨_, rfl⟩
      have hg : s[i]'hi = d := by rw [hd]; exact HGET.out i hi hil
      have HD := Lib.hid hd
      clear hd
      cases hin : m.data.toList.contains d with
      | true =>
        have HC := Lib.hid hin
        have HI2 := Lib.hid (fun w => HIN.out d w)
        rw [hin] at HI2
        clear hin
        go_wp2_with fail
        refine (HI2.out _).mono ?_
        rintro e w1 ⟨rfl, hw⟩
        obtain rfl := hw.symm
        go_wp2_with fail
        go_ret
        refine ⟨?_, rfl⟩
        rw [HR.out, drop_at hil, ← HD.out, front_cons, HC.out]
        simp
      | false =>
        have HC := Lib.hid hin
        have HI2 := Lib.hid (fun w => HIN.out d w)
        rw [hin] at HI2
        clear hin
        go_wp2_with fail
        refine (HI2.out _).mono ?_
        rintro e w1 ⟨rfl, hw⟩
        obtain rfl := hw.symm
        go_wp2_with fail
        go_roundg g
        case measure => omega
        case rel =>
          refine ⟨i + 1, by omega, by go_num, rfl, ?_⟩
          rw [HR.out, drop_at hil, ← HD.out, front_cons, HC.out, if_neg (by decide), List.length_cons]
          omega
theorem cut_snoc (x : List UInt8) (c : UInt8) : cutL (x ++ [c]) = if c = 47 then x else cutL x := by
  unfold cutL
  rw [List.reverse_append, List.reverse_cons, List.reverse_nil, List.nil_append, List.singleton_append, List.dropWhile_cons]
  by_cases h : c = 47
  · subst h; simp
  · rw [if_pos (by simpa using h), if_neg h]
theorem take_snoc {l : List UInt8} {i : Nat} (h : i < l.length) : l.take (i + 1) = l.take i ++ [l[i]] := by
  rw [List.take_add_one, List.getElem?_eq_getElem h]; rfl
theorem cut_nil : cutL [] = [] := rfl
theorem rcut_any (s : ByteArray) (hs : s.size ≤ 1000000) (w : World) : Calls Try.prog 23 #[.string s] w fun e w' => e = .returned (.string ⟨(cutL s.data.toList).toArray⟩) ∧ w' = w := by
  obtain ⟨l, hl⟩ : ∃ l, l = s.data.toList := ⟨_, rfl⟩
  have hsz : s.size = l.length := by rw [hl, Lib.size_eq]
  have hget : ∀ (i : Nat) (h : i < s.size) (h' : i < l.length), s[i]'h = l[i] := fun i h h' => by subst hl; rfl
  obtain ⟨r, hr⟩ : ∃ r : ByteArray, r = ⟨(cutL l).toArray⟩ := ⟨_, rfl⟩
  rw [← hl, ← hr]
  have HL := Lib.hid hl
  have HR0 := Lib.hid hr
  have HSZ := Lib.hid hsz
  have HGET := Lib.hid hget
  have hsi : (s.size : Int) ≤ 1000000 := by omega
  clear hl hsz hget hr
  go_enter Try.func23, Try.ntmps23
  go_wp2_with fail
  go_loopg [3] s.size (fun g s3 wx => g ≤ s.size ∧ s3 = .int .i64 ((g : Int) - 1) ∧ wx = w ∧ cutL l = cutL (l.take g))
  case atStart => exact ⟨Nat.le_refl _, by go_num, rfl, by rw [List.take_of_length_le (by rw [HSZ.out]; exact Nat.le_refl _)]⟩
  case round =>
    obtain ⟨hig, rfl, rfl, hr⟩ := hrel
    have HR := Lib.hid hr
    clear hr
    cases gk with
    | zero =>
      go_wp2_with fail
      go_ret
      refine ⟨?_, rfl⟩
      rw [HR0.out, HR.out]
      rfl
    | succ g =>
      have hi : g < s.size := by omega
      have hge : (0 : Int) ≤ ((g + 1 : Nat) : Int) - 1 := by omega
      have hil : g < l.length := by have := HSZ.out; omega
      obtain ⟨d, hd⟩ : ∃ d, d = l[g] := ⟨_, rfl⟩
      have hg : s[g]'hi = d := by rw [hd]; exact HGET.out g hi hil
      have HD := Lib.hid hd
      have e1 : (((g + 1 : Nat) : Int) - 1) = (g : Int) := by omega
      rw [e1]
      have hlt : (g : Int) < s.size := by omega
      have hle : (g : Int) ≤ s.size := by omega
      clear hd e1 hge
      have hb : (((d.toNat : Nat) : Int) == 47) = (d == 47) := u8_beq d 47
      by_cases hcd : d = 47
      · have hb2 : (d == 47) = true := beq_iff_eq.2 hcd
        rw [hb2] at hb
        have HC := Lib.hid hcd
        clear hcd hb2
        go_wp2_with fail
        go_ret
        refine ⟨?_, rfl⟩
        show Ending.returned (Value.string _) = Ending.returned (Value.string _)
        congr 2
        rw [HR0.out, HR.out, take_snoc hil, ← HD.out, HC.out, cut_snoc, if_pos rfl]
        apply ba_ext
        rw [← Lib.toList_data, Lib.extract_toList, ← HL.out]
        simp
      · have hb2 : (d == 47) = false := beq_eq_false_iff_ne.2 hcd
        rw [hb2] at hb
        have HC := Lib.hid hcd
        clear hcd hb2
        go_wp2_with fail
        go_roundg g
        case measure => omega
        case rel =>
          refine ⟨by omega, by go_num, rfl, ?_⟩
          rw [HR.out, take_snoc hil, ← HD.out, cut_snoc, if_neg HC.out]
theorem beq_prefix (s p : ByteArray) (h : p.size ≤ s.size) : ((s.extract 0 p.size).toList == p.toList) = Lib.hasPrefix s.data.toList p.data.toList := by
  rw [Lib.extract_toList, Lib.toList_data, List.drop_zero, Nat.sub_zero, Lib.size_eq]
  unfold Lib.hasPrefix
  by_cases hp : p.data.toList <+: s.data.toList
  · rw [List.isPrefixOf_iff_prefix.2 hp]
    obtain ⟨t, ht⟩ := hp
    rw [← ht, List.take_left]
    simp
  · have h1 : ¬ (p.data.toList.isPrefixOf s.data.toList = true) := fun e => hp (List.isPrefixOf_iff_prefix.1 e)
    rw [Bool.not_eq_true] at h1
    rw [h1]
    exact beq_eq_false_iff_ne.2 fun e => hp ⟨_, (congrArg (· ++ s.data.toList.drop p.data.toList.length) e).symm.trans (List.take_append_drop _ _)⟩
theorem begins_any (s p : ByteArray) (hs : s.size ≤ 1000000) (hp : p.size ≤ 1000000) (w : World) : Calls Try.prog 35 #[.string s, .string p] w fun e w' => e = .returned (.bool (Lib.hasPrefix s.data.toList p.data.toList)) ∧ w' = w := by
  have hsi : (s.size : Int) ≤ 1000000 := by omega
  have hpi : (p.size : Int) ≤ 1000000 := by omega
  by_cases h : (p.size : Int) ≤ s.size
  · have hn : p.size ≤ s.size := by omega
    go_enter Try.func35, Try.ntmps35
    go_wp2_with fail
    go_ret
    refine ⟨?_, rfl⟩
    show Ending.returned (Value.bool _) = _
    rw [beq_prefix s p hn]
  · have hf : Lib.hasPrefix s.data.toList p.data.toList = false := by
      unfold Lib.hasPrefix
      rw [Bool.eq_false_iff]
      intro hh
      have := (List.isPrefixOf_iff_prefix.1 hh).length_le
      rw [← Lib.size_eq, ← Lib.size_eq] at this
      omega
    rw [hf]
    clear hf
    go_enter Try.func35, Try.ntmps35
    go_wp2_with fail
    go_ret
    exact ⟨rfl, rfl⟩
end Go.Proofs.Ytbkokckpjmbjhaa
