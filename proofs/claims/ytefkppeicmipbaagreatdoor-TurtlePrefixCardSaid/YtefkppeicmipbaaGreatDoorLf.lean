/- Signs: rows that begin as few do; numbers; what is past blanks and remarks. -/
import Derived.Test.YtefkppeicmipbaaGreatDoorLe
namespace Go.Proofs.YtefkppeicmipbaaGreatDoor
open Go.RowKit Go.Shelf
set_option maxRecDepth 100000
set_option linter.unusedVariables false
set_option linter.unusedSimpArgs false
/-- The two tables of unicode/utf8. -/
def Tabs (w : World) : Prop := Lib.Utf8Tabs (Tryz.lays197_ren.g 3) (Tryz.lays197_ren.g 4) w
theorem size_pos {s : ByteArray} {c : UInt8} {r : List UInt8} (h : s.data.toList = c :: r) : 0 < s.size := by rw [Lib.size_eq, h]; simp
theorem get_zero {s : ByteArray} {c : UInt8} {r : List UInt8} (h : s.data.toList = c :: r) (h0 : 0 < s.size) : s[0]'h0 = c := by
  obtain ⟨⟨a⟩⟩ := s
  simp only at h
  subst h
  rfl
/-- What DecodeRuneInString tells first of a text, as far as it is asked for. -/
theorem drune_any (s : ByteArray) (w : World) (hT : Tabs w) : Calls Tryz.prog 63 #[.string s] w fun e w' => ∃ r k : Nat, e = .returned (.tuple #[.int .i32 r, .int .i64 k]) ∧ Below w.heap.size w w' ∧ (match s.data.toList with | [] => 128 ≤ r | c :: _ => if c.toNat < 128 then r = c.toNat else 128 ≤ r) := by
  refine (Any.utf8_DecodeRuneInString Tryz.lays197 s w hT).mono ?_
  rintro e w' ⟨rfl, hb⟩
  refine ⟨_, _, rfl, hb, ?_⟩
  unfold Lib.decodeGo
  cases h : s.data.toList with
  | nil =>
    have h0 : s.size = 0 := by rw [Lib.size_eq, h]; rfl
    rw [if_pos h0]
    simp
  | cons c r =>
    have h0 := size_pos h
    have hg := get_zero h h0
    rw [if_neg (by omega)]
    dsimp only
    split
    · rename_i hc
      rw [decode_ascii s 0 h0 (by rw [hg]; exact hc), hg]
    · rename_i hc
      exact (decode_high s 0 h0 (by rw [hg]; omega)).1
/-- What begun answers: q says whether the text begins so. -/
def BegTo (pb : UInt8 → Bool) (q : Bool) (l : List UInt8) (w0 : World) (e : Ending) (w' : World) : Prop :=
  ∃ a b : ByteArray, e = .returned (.tuple #[.string a, .string b]) ∧ Below w0.heap.size w0 w' ∧ if q = true then a = ⟨(l.takeWhile pb).toArray⟩ ∧ b = ⟨(l.dropWhile pb).toArray⟩ else a = ⟨#[]⟩
theorem begun11 (g : Nat) (eg : ∀ args w, (callFunc g args).run Tryz.prog w = .ok (.enter g args) w) (p : Nat → Bool) (hg : ∀ (x : Nat) w, Calls Tryz.prog g #[.int .i32 x] w fun e w' => e = .returned (.bool (p x)) ∧ w' = w) (hn : ∀ n, 128 ≤ n → p n = false) (g2 : Nat) (pb : UInt8 → Bool) (s : ByteArray) (hs : s.size ≤ 9223372036854775807)
    (hrow : ∀ w, Calls Tryz.prog 32 #[.string s, .func (.func g2) #[] #[]] w fun e w' => e = .returned (.tuple #[.string ⟨(s.data.toList.takeWhile pb).toArray⟩, .string ⟨(s.data.toList.dropWhile pb).toArray⟩]) ∧ Below w.heap.size w w') (w : World) (hT : Tabs w) :
    Calls Tryz.prog 36 #[.string s, .func (.func g) #[] #[], .func (.func g2) #[] #[]] w (BegTo pb (headIs (fun c => p c.toNat) s.data.toList) s.data.toList w) := by
  have HD := Lib.hid (drune_any s w hT)
  have HROW := Lib.hid hrow
  have HG := Lib.hid hg
  have HN := Lib.hid hn
  obtain ⟨q, hq⟩ : ∃ q, q = headIs (fun c => p c.toNat) s.data.toList := ⟨_, rfl⟩
  rw [← hq]
  have HQ := Lib.hid hq
  clear hrow hg hn hs hq
  go_enter Tryz.func36, Tryz.ntmps36
  go_wp2_with fail
  refine HD.out.mono ?_
  rintro e w1 ⟨r, k, rfl, hb, hr⟩
  have HR := Lib.hid hr
  have HB := Lib.hid hb
  clear hr hb HD
  go_wp2_with fail
  refine (HG.out r _).mono ?_
  rintro e w2 ⟨rfl, hw⟩
  obtain rfl := hw.symm
  clear hw
  have hp : p r = q := by
    rw [HQ.out]
    have := HR.out
    cases h : s.data.toList with
    | nil => rw [h] at this; exact HN.out r this
    | cons c t =>
      rw [h] at this
      dsimp only at this
      unfold headIs
      split at this
      · rw [this]
      · rename_i hc
        show p r = p c.toNat
        rw [HN.out r this, HN.out c.toNat (by omega)]
  rw [hp]
  clear hp
  cases q with
  | true =>
    go_wp2_with fail
    refine (HROW.out _).mono ?_
    rintro e w3 ⟨rfl, hb⟩
    go_wp2_with fail
    go_ret2
    unfold BegTo
    exact ⟨_, _, rfl, HB.out.trans (hb.mono HB.out.size), by rw [if_pos rfl]; exact ⟨rfl, rfl⟩⟩
  | false =>
    go_wp2_with fail
    go_ret2
    unfold BegTo
    exact ⟨_, _, rfl, HB.out, by rw [if_neg (by decide)]⟩
theorem numN_dot {l x : List UInt8} (h : l.dropWhile digitC = 46 :: x) : numN l = if x.takeWhile digitC = [] then (l.takeWhile digitC).length else (l.takeWhile digitC).length + 1 + (x.takeWhile digitC).length := by
  unfold numN; rw [h]; rfl
theorem numN_other {l : List UInt8} (h : ∀ x, l.dropWhile digitC ≠ 46 :: x) : numN l = (l.takeWhile digitC).length := by
  unfold numN
  split
  · exact absurd (by assumption) (h _)
  · rfl
theorem pre_one (c d : UInt8) (r : List UInt8) : Lib.hasPrefix (c :: r) [d] = (d == c) := by unfold Lib.hasPrefix; cases r <;> simp [List.isPrefixOf]
theorem pre_nil (d : UInt8) : Lib.hasPrefix [] [d] = false := by simp [Lib.hasPrefix]
/-- A number, and what is behind it. -/
theorem number11 (s : ByteArray) (hs : s.size ≤ 1000000) (w : World) :
    Calls Tryz.prog 41 #[.string s] w fun e w' => e = .returned (.tuple #[.string ⟨(s.data.toList.take (numN s.data.toList)).toArray⟩, .string ⟨(s.data.toList.drop (numN s.data.toList)).toArray⟩]) ∧ Below w.heap.size w w' := by
  obtain ⟨l, hl⟩ : ∃ l, l = s.data.toList := ⟨_, rfl⟩
  have HR1 := Lib.hid (fun w => row_digit s (by omega) w)
  rw [← hl] at HR1 ⊢
  have hsz : s.size = l.length := by rw [hl, Lib.size_eq]
  have hdl := dropWhile_len digitC l
  obtain ⟨r, hr⟩ : ∃ r : ByteArray, r = ⟨(l.dropWhile digitC).toArray⟩ := ⟨_, rfl⟩
  have hrl : r.data.toList = l.dropWhile digitC := by rw [hr]
  have HT := Lib.hid (fun w => strimp_any r ⟨#[46]⟩ w)
  rw [hrl] at HT
  rw [← hr] at HR1
  obtain ⟨x, hx⟩ : ∃ x : ByteArray, x = ⟨(Lib.trimPrefix (l.dropWhile digitC) (⟨#[46]⟩ : ByteArray).data.toList).toArray⟩ := ⟨_, rfl⟩
  have hxl : x.data.toList = Lib.trimPrefix (l.dropWhile digitC) [46] := by rw [hx]
  have hxz : x.size ≤ 1000000 := by
    rw [Lib.size_eq, hxl]
    unfold Lib.trimPrefix
    split
    · rw [List.length_drop]; omega
    · omega
  rw [← hx] at HT
  have HR2 := Lib.hid (fun w => row_digit x (by omega) w)
  rw [hxl] at HR2
  obtain ⟨n, hn⟩ : ∃ n, n = numN l := ⟨_, rfl⟩
  rw [← hn]
  obtain ⟨a, ha⟩ : ∃ a : ByteArray, a = ⟨((Lib.trimPrefix (l.dropWhile digitC) [46]).takeWhile digitC).toArray⟩ := ⟨_, rfl⟩
  obtain ⟨b, hb⟩ : ∃ b : ByteArray, b = ⟨((Lib.trimPrefix (l.dropWhile digitC) [46]).dropWhile digitC).toArray⟩ := ⟨_, rfl⟩
  rw [← ha, ← hb] at HR2
  have htd : l.takeWhile digitC ++ l.dropWhile digitC = l := List.takeWhile_append_dropWhile
  -- what is left, in each way
  have key : (if a.toList.isEmpty = true then r.data.toList else b.data.toList) = l.drop n ∧ n ≤ l.length := by
    have e1 : a.toList.isEmpty = ((Lib.trimPrefix (l.dropWhile digitC) [46]).takeWhile digitC).isEmpty := by rw [Lib.toList_data, ha]
    have e2 : b.data.toList = (Lib.trimPrefix (l.dropWhile digitC) [46]).dropWhile digitC := by rw [hb]
    have e0 : l.drop (l.takeWhile digitC).length = l.dropWhile digitC := by
      conv => lhs; arg 2; rw [← htd]
      exact List.drop_left
    have hlen := congrArg List.length htd
    rw [List.length_append] at hlen
    rw [e1, e2, hrl, hn]
    cases hd : l.dropWhile digitC with
    | nil =>
      rw [numN_other (fun x => by rw [hd]; simp)]
      rw [hd, List.length_nil] at hlen
      have ht : Lib.trimPrefix [] [46] = [] := by unfold Lib.trimPrefix; rw [pre_nil]; rfl
      rw [ht]
      simp only [List.takeWhile_nil, List.isEmpty_nil, if_true]
      exact ⟨by rw [← hd, e0], by omega⟩
    | cons c y =>
      by_cases hc : c = 46
      · subst hc
        have ht : Lib.trimPrefix (46 :: y) [46] = y := by unfold Lib.trimPrefix; rw [pre_one]; rfl
        rw [ht, numN_dot hd]
        have hy : y.takeWhile digitC ++ y.dropWhile digitC = y := List.takeWhile_append_dropWhile
        have hyl := congrArg List.length hy
        rw [List.length_append] at hyl
        rw [hd, List.length_cons] at hlen
        by_cases he : y.takeWhile digitC = []
        · rw [if_pos he, he, if_pos (by rfl)]
          exact ⟨by rw [← hd, e0], by omega⟩
        · rw [if_neg he, if_neg (by simpa using he)]
          refine ⟨?_, by omega⟩
          rw [Nat.add_assoc, ← List.drop_drop, e0, hd, Nat.add_comm 1, List.drop_succ_cons]
          conv => rhs; arg 2; rw [← hy]
          exact List.drop_left.symm
      · have hp : Lib.hasPrefix (c :: y) [46] = false := by rw [pre_one]; exact beq_eq_false_iff_ne.2 (Ne.symm hc)
        have ht : Lib.trimPrefix (c :: y) [46] = c :: y := by unfold Lib.trimPrefix; rw [if_neg (by rw [hp]; decide)]
        have hdc : digitC c = false := by
          cases hq : digitC c with
          | false => rfl
          | true =>
            have := List.head?_dropWhile_not digitC l
            rw [hd] at this
            simp [hq] at this
        rw [ht, List.takeWhile_cons, hdc]
        simp only [Bool.false_eq_true, if_false, List.isEmpty_nil, if_true]
        rw [numN_other (fun x => by rw [hd]; simp [hc])]
        exact ⟨by rw [← hd, e0], by omega⟩
  have HK := Lib.hid key
  have HL := Lib.hid hl
  have HSZ := Lib.hid hsz
  have hrz : r.size ≤ 1000000 := by rw [Lib.size_eq, hrl]; omega
  have fin : ∀ z : ByteArray, z.data.toList = l.drop n → (z.size : Int) = (s.size : Int) - n ∧ z = ⟨(l.drop n).toArray⟩ := fun z hz => by
    refine ⟨?_, ba_extL hz⟩
    have := key.2
    rw [Lib.size_eq z, hz, List.length_drop, hsz]
    omega
  have HF := Lib.hid fin
  have hnl : n ≤ s.size := by rw [hsz]; exact key.2
  have hext : s.extract 0 n = ⟨(l.take n).toArray⟩ := ba_extL (by rw [ext_to, List.drop_zero, Nat.sub_zero, ← hl])
  have HE := Lib.hid hext
  have hsi : (s.size : Int) ≤ 1000000 := by omega
  have hni : (n : Int) ≤ s.size := by omega
  clear hl hsz hdl hr hrl hx hxl hn ha hb htd key fin hext
  go_enter Tryz.func41, Tryz.ntmps41
  go_wp2_with fail
  refine (HR1.out _).mono ?_
  rintro e w1 ⟨rfl, hb1⟩
  go_wp2_with fail
  refine (HT.out _).mono ?_
  rintro e w2 ⟨rfl, hw⟩
  obtain rfl := hw.symm
  clear hw
  go_wp2_with fail
  refine (HR2.out _).mono ?_
  rintro e w3 ⟨rfl, hb3⟩
  have hb := hb1.trans (hb3.mono hb1.size)
  cases he : a.toList.isEmpty with
  | true =>
    obtain ⟨h1, h2⟩ := HF.out r (by have := HK.out.1; rw [he, if_pos rfl] at this; exact this)
    have h3 : (s.size : Int) - (r.size : Int) = (n : Int) := by omega
    have hw3 : wrap64 ((s.size : Int) - (r.size : Int)) = (n : Int) := by rw [h3]; unfold wrap64; omega
    have H2 := Lib.hid h2
    clear h1 h2
    go_wp2_with fail
    go_ret2
    refine ⟨?_, hb⟩
    rw [← H2.out, ← HE.out]
    simp only [hw3]
    rfl
  | false =>
    obtain ⟨h1, h2⟩ := HF.out b (by have := HK.out.1; rw [he, if_neg (by decide)] at this; exact this)
    have h3 : (s.size : Int) - (b.size : Int) = (n : Int) := by omega
    have hw3 : wrap64 ((s.size : Int) - (b.size : Int)) = (n : Int) := by rw [h3]; unfold wrap64; omega
    have H2 := Lib.hid h2
    clear h1 h2
    go_wp2_with fail
    go_ret2
    refine ⟨?_, hb⟩
    rw [← H2.out, ← HE.out]
    simp only [hw3]
    rfl
end Go.Proofs.YtefkppeicmipbaaGreatDoor
