/- Terms: the three rows of bytes, what an IRI, a label, a language, a literal may be, Check. -/
import Derived.Test.YtpoacgnncinmiaaTa
import Derived.Lib.Strings
import Derived.Deep.QuietTactic
import Derived.BigQuiet
namespace Go.Proofs.Ytpoacgnncinmiaa
open Go.RowKit
set_option maxRecDepth 100000

set_option maxHeartbeats 1000000 in
theorem all_sgn (s : ByteArray) (hs : s.size ≤ maxLen) (w : World) :
    Calls Try.prog 57 #[.string s, .func (.func 58) #[] #[]] w fun e w' => e = .returned (.bool (s.data.toList.all sgn)) ∧ w = w' := by
  unfold maxLen at hs
  go_enter Try.func57, Try.ntmps57
  go_wp2
  go_loop [5, 8, 10, 11, 12, 13, 14, 15, 16, 17] (fun _ i _ _ _ _ _ _ _ _ => ∃ k : Nat, k ≤ s.size ∧ i = .int .i64 k ∧ (s.data.toList.take k).all sgn = true) (fun _ i _ _ _ _ _ _ _ _ => s.size - (intOf i).toNat)
  case atStart => exact ⟨0, Nat.zero_le _, rfl, rfl⟩
  case round =>
    obtain ⟨k, hk, rfl, hall⟩ := hrel
    have HALL := Lib.hid hall
    clear hall
    by_cases hlt : k < s.size
    · obtain ⟨c, hc⟩ : ∃ c : UInt8, c = s[k] := ⟨_, rfl⟩
      have HC := Lib.hid hc
      obtain ⟨b, hb⟩ : ∃ b, b = sgn c := ⟨_, rfl⟩
      have HB := Lib.hid hb
      have hix : s.data.toList[k]? = some c := by rw [hc]; simp [hlt]; rfl
      have HIX := Lib.hid hix
      clear hc hb hix
      go_wp2_with fail
      simp only [← HC.out]
      refine (sgn_clo c _).mono ?_
      rintro e w' ⟨rfl, rfl⟩
      rw [← HB.out]
      cases b with
      | false =>
        go_wp2_with fail
        go_ret
        exact ⟨ret_bool (all_false HIX.out HB.out.symm).symm, rfl⟩
      | true =>
        go_wp2_with fail
        go_round
        case rel => exact ⟨k + 1, by omega, by go_num, all_snoc HIX.out HALL.out HB.out.symm⟩
        case measure => simp [intOf]; omega
    · obtain rfl : k = s.size := by omega
      go_wp2_with fail
      go_ret
      have := HALL.out
      rw [List.take_of_length_le (by simp)] at this
      exact ⟨ret_bool (by simpa using this.symm), rfl⟩

set_option maxHeartbeats 1000000 in
theorem all_wrd (s : ByteArray) (hs : s.size ≤ maxLen) (w : World) :
    Calls Try.prog 57 #[.string s, .func (.func 60) #[] #[]] w fun e w' => e = .returned (.bool (s.data.toList.all wrd)) ∧ w = w' := by
  unfold maxLen at hs
  go_enter Try.func57, Try.ntmps57
  go_wp2
  go_loop [5, 8, 10, 11, 12, 13, 14, 15, 16, 17] (fun _ i _ _ _ _ _ _ _ _ => ∃ k : Nat, k ≤ s.size ∧ i = .int .i64 k ∧ (s.data.toList.take k).all wrd = true) (fun _ i _ _ _ _ _ _ _ _ => s.size - (intOf i).toNat)
  case atStart => exact ⟨0, Nat.zero_le _, rfl, rfl⟩
  case round =>
    obtain ⟨k, hk, rfl, hall⟩ := hrel
    have HALL := Lib.hid hall
    clear hall
    by_cases hlt : k < s.size
    · obtain ⟨c, hc⟩ : ∃ c : UInt8, c = s[k] := ⟨_, rfl⟩
      have HC := Lib.hid hc
      obtain ⟨b, hb⟩ : ∃ b, b = wrd c := ⟨_, rfl⟩
      have HB := Lib.hid hb
      have hix : s.data.toList[k]? = some c := by rw [hc]; simp [hlt]; rfl
      have HIX := Lib.hid hix
      clear hc hb hix
      go_wp2_with fail
      simp only [← HC.out]
      refine (wrd_clo c _).mono ?_
      rintro e w' ⟨rfl, rfl⟩
      rw [← HB.out]
      cases b with
      | false =>
        go_wp2_with fail
        go_ret
        exact ⟨ret_bool (all_false HIX.out HB.out.symm).symm, rfl⟩
      | true =>
        go_wp2_with fail
        go_round
        case rel => exact ⟨k + 1, by omega, by go_num, all_snoc HIX.out HALL.out HB.out.symm⟩
        case measure => simp [intOf]; omega
    · obtain rfl : k = s.size := by omega
      go_wp2_with fail
      go_ret
      have := HALL.out
      rw [List.take_of_length_le (by simp)] at this
      exact ⟨ret_bool (by simpa using this.symm), rfl⟩

set_option maxHeartbeats 1000000 in
theorem all_lng (s : ByteArray) (hs : s.size ≤ maxLen) (w : World) :
    Calls Try.prog 57 #[.string s, .func (.func 74) #[] #[]] w fun e w' => e = .returned (.bool (s.data.toList.all lng)) ∧ w = w' := by
  unfold maxLen at hs
  go_enter Try.func57, Try.ntmps57
  go_wp2
  go_loop [5, 8, 10, 11, 12, 13, 14, 15, 16, 17] (fun _ i _ _ _ _ _ _ _ _ => ∃ k : Nat, k ≤ s.size ∧ i = .int .i64 k ∧ (s.data.toList.take k).all lng = true) (fun _ i _ _ _ _ _ _ _ _ => s.size - (intOf i).toNat)
  case atStart => exact ⟨0, Nat.zero_le _, rfl, rfl⟩
  case round =>
    obtain ⟨k, hk, rfl, hall⟩ := hrel
    have HALL := Lib.hid hall
    clear hall
    by_cases hlt : k < s.size
    · obtain ⟨c, hc⟩ : ∃ c : UInt8, c = s[k] := ⟨_, rfl⟩
      have HC := Lib.hid hc
      obtain ⟨b, hb⟩ : ∃ b, b = lng c := ⟨_, rfl⟩
      have HB := Lib.hid hb
      have hix : s.data.toList[k]? = some c := by rw [hc]; simp [hlt]; rfl
      have HIX := Lib.hid hix
      clear hc hb hix
      go_wp2_with fail
      simp only [← HC.out]
      refine (lng_clo c _).mono ?_
      rintro e w' ⟨rfl, rfl⟩
      rw [← HB.out]
      cases b with
      | false =>
        go_wp2_with fail
        go_ret
        exact ⟨ret_bool (all_false HIX.out HB.out.symm).symm, rfl⟩
      | true =>
        go_wp2_with fail
        go_round
        case rel => exact ⟨k + 1, by omega, by go_num, all_snoc HIX.out HALL.out HB.out.symm⟩
        case measure => simp [intOf]; omega
    · obtain rfl : k = s.size := by omega
      go_wp2_with fail
      go_ret
      have := HALL.out
      rw [List.take_of_length_le (by simp)] at this
      exact ⟨ret_bool (by simpa using this.symm), rfl⟩


/-- May a text be an IRI's, a label, a language? -/
def refB (s : ByteArray) : Bool := !s.toList.isEmpty && s.data.toList.all sgn
def labB (s : ByteArray) : Bool := !s.toList.isEmpty && decide (s.size ≤ 20) && s.data.toList.all wrd
def lanB (s : ByteArray) : Bool := !Lib.hasPrefix s.data.toList [45] && s.data.toList.all lng

set_option maxHeartbeats 1000000 in
theorem reference_any (s : ByteArray) (hs : s.size ≤ maxLen) (w : World) :
    Calls Try.prog 29 #[.string s] w fun e w' => e = .returned (.bool (refB s)) ∧ w = w' := by
  unfold refB
  obtain ⟨b, hb⟩ : ∃ b, b = s.data.toList.all sgn := ⟨_, rfl⟩
  rw [← hb]
  have HB := Lib.hid hb
  clear hb
  cases he : s.toList.isEmpty with
  | true =>
    go_enter Try.func29, Try.ntmps29
    go_wp2
    go_ret
    exact ⟨rfl, rfl⟩
  | false =>
    go_enter Try.func29, Try.ntmps29
    go_wp2_with fail
    refine (all_sgn s hs _).mono ?_
    rintro e w' ⟨rfl, rfl⟩
    rw [← HB.out]
    go_wp2
    go_ret
    exact ⟨rfl, rfl⟩
set_option maxHeartbeats 1000000 in
theorem label_any (s : ByteArray) (hs : s.size ≤ maxLen) (w : World) :
    Calls Try.prog 30 #[.string s] w fun e w' => e = .returned (.bool (labB s)) ∧ w = w' := by
  unfold labB
  obtain ⟨b, hb⟩ : ∃ b, b = s.data.toList.all wrd := ⟨_, rfl⟩
  rw [← hb]
  have HB := Lib.hid hb
  clear hb
  cases he : s.toList.isEmpty with
  | true =>
    go_enter Try.func30, Try.ntmps30
    go_wp2
    go_ret
    exact ⟨rfl, rfl⟩
  | false =>
    by_cases hl : s.size ≤ 20
    · go_enter Try.func30, Try.ntmps30
      go_wp2_with fail
      refine (all_wrd s hs _).mono ?_
      rintro e w' ⟨rfl, rfl⟩
      rw [← HB.out]
      go_wp2
      go_ret
      exact ⟨ret_bool (by simp [hl]), rfl⟩
    · go_enter Try.func30, Try.ntmps30
      go_wp2_with fail
      go_ret
      exact ⟨ret_bool (by simp), rfl⟩
set_option maxHeartbeats 1000000 in
theorem hasPrefix_any (s p : ByteArray) (w : World) :
    Calls Try.prog 77 #[.string s, .string p] w fun e w' => e = .returned (.bool (Lib.hasPrefix s.data.toList p.data.toList)) ∧ w = w' := by
  rw [← Lib.hasPrefix_of_take, ← Lib.size_eq, ← Lib.size_eq]
  go_enter Try.func77, Try.ntmps77
  go_wp2
  · rename_i h
    go_ret
    refine ⟨?_, rfl⟩
    show Ending.returned (Value.bool ((s.extract 0 p.size).toList == p.toList)) = _
    rw [Lib.extract_toList, Lib.toList_data]
    simp [h]
  · rename_i h
    go_ret
    refine ⟨?_, rfl⟩
    show Ending.returned (Value.bool false) = _
    simp [h]
theorem prefix_any (s p : ByteArray) (w : World) :
    Calls Try.prog 73 #[.string s, .string p] w fun e w' => e = .returned (.bool (Lib.hasPrefix s.data.toList p.data.toList)) ∧ w = w' := by
  go_enter Try.func73, Try.ntmps73
  go_wp2_with fail
  refine (hasPrefix_any s p _).mono ?_
  rintro e w' ⟨rfl, rfl⟩
  obtain ⟨b, hb⟩ : ∃ b, b = Lib.hasPrefix s.data.toList p.data.toList := ⟨_, rfl⟩
  rw [← hb]
  have HB := Lib.hid hb
  clear hb
  go_wp2
  go_ret
  exact ⟨ret_bool HB.out, rfl⟩
set_option maxHeartbeats 1000000 in
theorem language_any (s : ByteArray) (hs : s.size ≤ maxLen) (w : World) :
    Calls Try.prog 62 #[.string s] w fun e w' => e = .returned (.bool (lanB s)) ∧ w = w' := by
  unfold lanB
  obtain ⟨b, hb⟩ : ∃ b, b = s.data.toList.all lng := ⟨_, rfl⟩
  obtain ⟨c, hc⟩ : ∃ c, c = Lib.hasPrefix s.data.toList [45] := ⟨_, rfl⟩
  rw [← hb, ← hc]
  have HB := Lib.hid hb
  have HC := Lib.hid hc
  clear hb hc
  cases c with
  | true =>
    go_enter Try.func62, Try.ntmps62
    go_wp2_with fail
    refine (prefix_any s ⟨#[45]⟩ _).mono ?_
    rintro e w' ⟨rfl, rfl⟩
    rw [← HC.out]
    go_wp2
    go_ret
    exact ⟨rfl, rfl⟩
  | false =>
    go_enter Try.func62, Try.ntmps62
    go_wp2_with fail
    refine (prefix_any s ⟨#[45]⟩ _).mono ?_
    rintro e w' ⟨rfl, rfl⟩
    rw [← HC.out]
    go_wp2_with fail
    refine (all_lng s hs _).mono ?_
    rintro e w' ⟨rfl, rfl⟩
    rw [← HB.out]
    go_wp2
    go_ret
    exact ⟨rfl, rfl⟩
/-- A term. -/
structure Tm where
  k : Int
  s : ByteArray
  l : ByteArray
  t : ByteArray

def Tm.val (x : Tm) : Value := .agg #[.int .i64 x.k, .string x.s, .string x.l, .string x.t]
/-- Its texts are texts. -/
structure Tm.Ok (x : Tm) : Prop where
  k : (Lit.int .i64 x.k).wf = true
  s : x.s.size ≤ maxLen
  l : x.l.size ≤ maxLen
  t : x.t.size ≤ maxLen

theorem bcell {W w1 : World} (hb : Below W.heap.size W w1) : (∀ b o, b < W.heap.size → w1.cell? ⟨b, o, none⟩ = W.cell? ⟨b, o, none⟩) ∧ (∀ b o, b < W.heap.size → w1.frozen? ⟨b, o, none⟩ = W.frozen? ⟨b, o, none⟩) :=
  ⟨fun b o h => hb.cell (p := ⟨b, o, none⟩) h, fun b o h => hb.frozen (p := ⟨b, o, none⟩) h⟩

theorem drewN_below {B : Nat} {a b : World} (h : Below B a b) (n : Nat) : Below B a (b.drewN n) := ⟨h.os, h.tape, h.output, h.size, h.block⟩

def barB (x : Tm) : Bool := x.l.toList.isEmpty && x.t.toList.isEmpty
def tagB (x : Tm) : Bool := if x.l.toList.isEmpty then x.t.toList.isEmpty || refB x.t else if x.t.toList.isEmpty then lanB x.l else false

def rankOf (k : Int) : Int := if k = 2 then 0 else if k = 1 then 1 else if k = 3 then 2 else 3
def checkOf (x : Tm) : Int :=
  if x.k < 1 ∨ 3 < x.k then 3
  else if 60 < x.s.size ∨ 60 < x.t.size ∨ 8 < x.l.size then 5
  else if x.k = 1 then (if barB x && refB x.s then 0 else 1)
  else if x.k = 2 then (if barB x && labB x.s then 0 else 1)
  else (if tagB x then 0 else 1)

set_option maxHeartbeats 1000000 in
theorem rank_any (k : Int) (w : World) :
    Calls Try.prog 27 #[.int .i64 k] w fun e w' => e = .returned (.int .i64 (rankOf k)) ∧ w = w' := by
  unfold rankOf
  by_cases h2 : k = 2
  · subst h2
    go_enter Try.func27, Try.ntmps27
    go_wp2
    go_ret
    exact ⟨rfl, rfl⟩
  by_cases h1 : k = 1
  · subst h1
    go_enter Try.func27, Try.ntmps27
    go_wp2
    go_ret
    exact ⟨rfl, rfl⟩
  by_cases h3 : k = 3
  · subst h3
    go_enter Try.func27, Try.ntmps27
    go_wp2
    go_ret
    exact ⟨rfl, rfl⟩
  rw [if_neg h2, if_neg h1, if_neg h3]
  have g2 : (k == 2) = false := by simpa using h2
  have g1 : (k == 1) = false := by simpa using h1
  have g3 : (k == 3) = false := by simpa using h3
  clear h1 h2 h3
  go_enter Try.func27, Try.ntmps27
  go_wp2
  go_ret
  exact ⟨rfl, rfl⟩
end Go.Proofs.Ytpoacgnncinmiaa
