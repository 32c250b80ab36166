/- Ta; Tb; Tg -/
import Derived.Test.YtefkppeicmipbaaGreatDoorGc
import Derived.Laws.Externs
import Derived.Lib.Bytealg
import Derived.Lib.IndexLaws
namespace Go.Proofs.YtefkppeicmipbaaGreatDoor
open Go.RowKit
set_option maxRecDepth 100000
theorem ret_bool {a b : Bool} (h : a = b) : Ending.returned (.bool a) = .returned (.bool b) := by rw [h]
theorem ret_str {a b : ByteArray} (h : a = b) : Ending.returned (.string a) = .returned (.string b) := by rw [h]
/-- May a byte stand in an IRI, in a label, in a language? -/
def sgn (c : UInt8) : Bool := decide (32 < c.toNat) && decide (c.toNat ≠ 60) && decide (c.toNat ≠ 62) && decide (c.toNat ≠ 34) && decide (c.toNat ≠ 123) && decide (c.toNat ≠ 125) && decide (c.toNat ≠ 124) && decide (c.toNat ≠ 94) && decide (c.toNat ≠ 92) && decide (c.toNat ≠ 96)
def sml (c : UInt8) : Bool := decide (97 ≤ c.toNat) && decide (c.toNat ≤ 122)
def wrd (c : UInt8) : Bool := sml c || decide (65 ≤ c.toNat) && decide (c.toNat ≤ 90) || decide (48 ≤ c.toNat) && decide (c.toNat ≤ 57) || decide (c.toNat = 95)
def lng (c : UInt8) : Bool := sml c || decide (c.toNat = 45)
theorem all_snoc {l : List UInt8} {p : UInt8 → Bool} {k : Nat} {c : UInt8} (h : l[k]? = some c) (ha : (l.take k).all p = true) (hc : p c = true) : (l.take (k + 1)).all p = true := by
  obtain ⟨hk, rfl⟩ := List.getElem?_eq_some_iff.1 h
  rw [List.take_succ_eq_append_getElem hk, List.all_append, ha]
  simp [hc]
theorem all_false {l : List UInt8} {p : UInt8 → Bool} {k : Nat} {c : UInt8} (h : l[k]? = some c) (hc : p c = false) : l.all p = false := by
  rw [List.all_eq_false]
  exact ⟨c, List.mem_of_getElem? h, by simp [hc]⟩
theorem byte_cases (c : UInt8) : ∃ n : Nat, n = c.toNat ∧ n < 256 := ⟨_, rfl, c.toNat_lt⟩
set_option maxHeartbeats 1000000 in
theorem small_any (c : UInt8) (w : World) :
    Calls Tryz.prog 136 #[.int .u8 c.toNat] w fun e w' => e = .returned (.bool (sml c)) ∧ w = w' := by
  obtain ⟨n, hn, hlt⟩ := byte_cases c
  unfold sml
  rw [← hn]
  clear hn
  go_enter Tryz.func136, Tryz.ntmps136
  go_wp2
  all_goals
    go_ret
    refine ⟨ret_bool ?_, rfl⟩
    rw [Bool.eq_iff_iff]
    simp
    try omega
set_option maxHeartbeats 1000000 in
theorem indexByte_barred (c : UInt8) (w : World) :
    Calls Tryz.prog 83 #[.string ⟨#[60, 62, 34, 123, 125, 124, 94, 92, 96]⟩, .int .u8 c.toNat] w fun e w' => e = .returned (.int .i64 (Lib.indexByte [60, 62, 34, 123, 125, 124, 94, 92, 96] c)) ∧ w = w' := by
  go_enter Tryz.func83, Tryz.ntmps83
  go_wp2
  rw [run_callFunc_extern (f := 123) (P := Tryz.prog) (fn := Tryz.f123) (by kernel_rfl) (by kernel_rfl) (by kernel_rfl) (by kernel_rfl) (e := Extern.BytealgIndexByte.indexByte) (by kernel_rfl), Lib.run_indexByteString]
  simp only [Result.andThen]
  rw [Oper.upon_value]
  go_wp2
  go_ret
  exact ⟨rfl, rfl⟩
theorem barred_sgn (c : UInt8) (h : 32 < c.toNat) : decide (Lib.indexByte [60, 62, 34, 123, 125, 124, 94, 92, 96] c < 0) = sgn c := by
  have key : ∀ n : Fin 256, 32 < (UInt8.ofNat n.val).toNat → decide (Lib.indexByte [60, 62, 34, 123, 125, 124, 94, 92, 96] (UInt8.ofNat n.val) < 0) = sgn (UInt8.ofNat n.val) := by decide +kernel
  have := key ⟨c.toNat, c.toNat_lt⟩
  simp only [UInt8.ofNat_toNat] at this
  exact this h
set_option maxHeartbeats 1000000 in
theorem sgn_clo (c : UInt8) (w : World) :
    Calls Tryz.prog 134 #[.int .u8 c.toNat] w fun e w' => e = .returned (.bool (sgn c)) ∧ w = w' := by
  by_cases h : 32 < c.toNat
  · have hb := barred_sgn c h
    have HB := Lib.hid hb
    clear hb
    obtain ⟨z, hz⟩ : ∃ z, z = Lib.indexByte [60, 62, 34, 123, 125, 124, 94, 92, 96] c := ⟨_, rfl⟩
    have HZ := Lib.hid hz
    clear hz
    go_enter Tryz.func134, Tryz.ntmps134
    go_wp2_with fail
    · refine (indexByte_barred c _).mono ?_
      rintro e w' ⟨rfl, rfl⟩
      rw [← HZ.out]
      go_wp2
      go_ret
      exact ⟨ret_bool (by rw [← HB.out, ← HZ.out]), rfl⟩
  · have hs : sgn c = false := by unfold sgn; simp [h]
    rw [hs]
    clear hs
    go_enter Tryz.func134, Tryz.ntmps134
    go_wp2
    go_ret
    exact ⟨rfl, rfl⟩
set_option maxHeartbeats 1000000 in
theorem lng_clo (c : UInt8) (w : World) :
    Calls Tryz.prog 141 #[.int .u8 c.toNat] w fun e w' => e = .returned (.bool (lng c)) ∧ w = w' := by
  unfold lng
  obtain ⟨b, hb⟩ : ∃ b, b = sml c := ⟨_, rfl⟩
  rw [← hb]
  have HB := Lib.hid hb
  clear hb
  go_enter Tryz.func141, Tryz.ntmps141
  go_wp2_with fail
  refine (small_any c _).mono ?_
  rintro e w' ⟨rfl, rfl⟩
  rw [← HB.out]
  cases b
  all_goals
    go_wp2
    go_ret
    refine ⟨ret_bool ?_, rfl⟩
    rw [Bool.eq_iff_iff]
    simp
    try omega
set_option maxHeartbeats 1000000 in
theorem wrd_clo (c : UInt8) (w : World) :
    Calls Tryz.prog 135 #[.int .u8 c.toNat] w fun e w' => e = .returned (.bool (wrd c)) ∧ w = w' := by
  unfold wrd
  obtain ⟨b, hb⟩ : ∃ b, b = sml c := ⟨_, rfl⟩
  rw [← hb]
  have HB := Lib.hid hb
  clear hb
  cases b with
  | true =>
    go_enter Tryz.func135, Tryz.ntmps135
    go_wp2_with fail
    refine (small_any c _).mono ?_
    rintro e w' ⟨rfl, rfl⟩
    rw [← HB.out]
    go_wp2
    go_ret
    exact ⟨rfl, rfl⟩
  | false =>
    go_enter Tryz.func135, Tryz.ntmps135
    go_wp2_with fail
    refine (small_any c _).mono ?_
    rintro e w' ⟨rfl, rfl⟩
    rw [← HB.out]
    clear HB
    go_wp2
    all_goals
      go_ret
      refine ⟨ret_bool ?_, rfl⟩
      rw [Bool.eq_iff_iff]
      simp
      try omega
end Go.Proofs.YtefkppeicmipbaaGreatDoor
namespace Go.Proofs.YtefkppeicmipbaaGreatDoor
open Go.RowKit
set_option maxRecDepth 100000
set_option maxHeartbeats 1000000 in
theorem all_sgn (s : ByteArray) (hs : s.size ≤ maxLen) (w : World) :
    Calls Tryz.prog 133 #[.string s, .func (.func 134) #[] #[]] w fun e w' => e = .returned (.bool (s.data.toList.all sgn)) ∧ w = w' := by
  unfold maxLen at hs
  go_enter Tryz.func133, Tryz.ntmps133
  go_wp2
  go_loop [5, 8, 10, 11, 12, 13, 14, 15, 16, 17] (fun _ i _ _ _ _ _ _ _ _ => ∃ k : Nat, k ≤ s.size ∧ i = .int .i64 k ∧ (s.data.toList.take k).all sgn = true) (fun _ i _ _ _ _ _ _ _ _ => s.size - (intOf i).toNat)
  case atStart => exact ⟨0, Nat.zero_le _, rfl, rfl⟩
  case round =>
    obtain ⟨k, hk, rfl, hall⟩ := hrel
    have HALL := Lib.hid hall
    clear hall
    by_cases hlt : k < s.size
    · obtain ⟨c, hc⟩ : ∃ c : UInt8, c = s[k] := ⟨_, rfl⟩
      have HC := Lib.hid hc
      obtain ⟨b, hb⟩ : ∃ b, b = sgn c := ⟨_, rfl⟩
      have HB := Lib.hid hb
      have hix : s.data.toList[k]? = some c := by rw [hc]; simp [hlt]; rfl
      have HIX := Lib.hid hix
      clear hc hb hix
      go_wp2_with fail
      simp only [← HC.out]
      refine (sgn_clo c _).mono ?_
      rintro e w' ⟨rfl, rfl⟩
      rw [← HB.out]
      cases b with
      | false =>
        go_wp2_with fail
        go_ret
        exact ⟨ret_bool (all_false HIX.out HB.out.symm).symm, rfl⟩
      | true =>
        go_wp2_with fail
        go_round
        case rel => exact ⟨k + 1, by omega, by go_num, all_snoc HIX.out HALL.out HB.out.symm⟩
        case measure => simp [intOf]; omega
    · obtain rfl : k = s.size := by omega
      go_wp2_with fail
      go_ret
      have := HALL.out
      rw [List.take_of_length_le (by simp)] at this
      exact ⟨ret_bool (by simpa using this.symm), rfl⟩
set_option maxHeartbeats 1000000 in
theorem all_wrd (s : ByteArray) (hs : s.size ≤ maxLen) (w : World) :
    Calls Tryz.prog 133 #[.string s, .func (.func 135) #[] #[]] w fun e w' => e = .returned (.bool (s.data.toList.all wrd)) ∧ w = w' := by
  unfold maxLen at hs
  go_enter Tryz.func133, Tryz.ntmps133
  go_wp2
  go_loop [5, 8, 10, 11, 12, 13, 14, 15, 16, 17] (fun _ i _ _ _ _ _ _ _ _ => ∃ k : Nat, k ≤ s.size ∧ i = .int .i64 k ∧ (s.data.toList.take k).all wrd = true) (fun _ i _ _ _ _ _ _ _ _ => s.size - (intOf i).toNat)
  case atStart => exact ⟨0, Nat.zero_le _, rfl, rfl⟩
  case round =>
    obtain ⟨k, hk, rfl, hall⟩ := hrel
    have HALL := Lib.hid hall
    clear hall
    by_cases hlt : k < s.size
    · obtain ⟨c, hc⟩ : ∃ c : UInt8, c = s[k] := ⟨_, rfl⟩
      have HC := Lib.hid hc
      obtain ⟨b, hb⟩ : ∃ b, b = wrd c := ⟨_, rfl⟩
      have HB := Lib.hid hb
      have hix : s.data.toList[k]? = some c := by rw [hc]; simp [hlt]; rfl
      have HIX := Lib.hid hix
      clear hc hb hix
      go_wp2_with fail
      simp only [← HC.out]
      refine (wrd_clo c _).mono ?_
      rintro e w' ⟨rfl, rfl⟩
      rw [← HB.out]
      cases b with
      | false =>
        go_wp2_with fail
        go_ret
        exact ⟨ret_bool (all_false HIX.out HB.out.symm).symm, rfl⟩
      | true =>
        go_wp2_with fail
        go_round
        case rel => exact ⟨k + 1, by omega, by go_num, all_snoc HIX.out HALL.out HB.out.symm⟩
        case measure => simp [intOf]; omega
    · obtain rfl : k = s.size := by omega
      go_wp2_with fail
      go_ret
      have := HALL.out
      rw [List.take_of_length_le (by simp)] at this
      exact ⟨ret_bool (by simpa using this.symm), rfl⟩
set_option maxHeartbeats 1000000 in
theorem all_lng (s : ByteArray) (hs : s.size ≤ maxLen) (w : World) :
    Calls Tryz.prog 133 #[.string s, .func (.func 141) #[] #[]] w fun e w' => e = .returned (.bool (s.data.toList.all lng)) ∧ w = w' := by
  unfold maxLen at hs
  go_enter Tryz.func133, Tryz.ntmps133
  go_wp2
  go_loop [5, 8, 10, 11, 12, 13, 14, 15, 16, 17] (fun _ i _ _ _ _ _ _ _ _ => ∃ k : Nat, k ≤ s.size ∧ i = .int .i64 k ∧ (s.data.toList.take k).all lng = true) (fun _ i _ _ _ _ _ _ _ _ => s.size - (intOf i).toNat)
  case atStart => exact ⟨0, Nat.zero_le _, rfl, rfl⟩
  case round =>
    obtain ⟨k, hk, rfl, hall⟩ := hrel
    have HALL := Lib.hid hall
    clear hall
    by_cases hlt : k < s.size
    · obtain ⟨c, hc⟩ : ∃ c : UInt8, c = s[k] := ⟨_, rfl⟩
      have HC := Lib.hid hc
      obtain ⟨b, hb⟩ : ∃ b, b = lng c := ⟨_, rfl⟩
      have HB := Lib.hid hb
      have hix : s.data.toList[k]? = some c := by rw [hc]; simp [hlt]; rfl
      have HIX := Lib.hid hix
      clear hc hb hix
      go_wp2_with fail
      simp only [← HC.out]
      refine (lng_clo c _).mono ?_
      rintro e w' ⟨rfl, rfl⟩
      rw [← HB.out]
      cases b with
      | false =>
        go_wp2_with fail
        go_ret
        exact ⟨ret_bool (all_false HIX.out HB.out.symm).symm, rfl⟩
      | true =>
        go_wp2_with fail
        go_round
        case rel => exact ⟨k + 1, by omega, by go_num, all_snoc HIX.out HALL.out HB.out.symm⟩
        case measure => simp [intOf]; omega
    · obtain rfl : k = s.size := by omega
      go_wp2_with fail
      go_ret
      have := HALL.out
      rw [List.take_of_length_le (by simp)] at this
      exact ⟨ret_bool (by simpa using this.symm), rfl⟩
/-- May a text be an IRI's, a label, a language? -/
def refB (s : ByteArray) : Bool := !s.toList.isEmpty && s.data.toList.all sgn
def labB (s : ByteArray) : Bool := !s.toList.isEmpty && decide (s.size ≤ 20) && s.data.toList.all wrd
def lanB (s : ByteArray) : Bool := !Lib.hasPrefix s.data.toList [45] && s.data.toList.all lng
set_option maxHeartbeats 1000000 in
theorem reference_any (s : ByteArray) (hs : s.size ≤ maxLen) (w : World) :
    Calls Tryz.prog 120 #[.string s] w fun e w' => e = .returned (.bool (refB s)) ∧ w = w' := by
  unfold refB
  obtain ⟨b, hb⟩ : ∃ b, b = s.data.toList.all sgn := ⟨_, rfl⟩
  rw [← hb]
  have HB := Lib.hid hb
  clear hb
  cases he : s.toList.isEmpty with
  | true =>
    go_enter Tryz.func120, Tryz.ntmps120
    go_wp2
    go_ret
    exact ⟨rfl, rfl⟩
  | false =>
    go_enter Tryz.func120, Tryz.ntmps120
    go_wp2_with fail
    refine (all_sgn s hs _).mono ?_
    rintro e w' ⟨rfl, rfl⟩
    rw [← HB.out]
    go_wp2
    go_ret
    exact ⟨rfl, rfl⟩
set_option maxHeartbeats 1000000 in
theorem label_any (s : ByteArray) (hs : s.size ≤ maxLen) (w : World) :
    Calls Tryz.prog 121 #[.string s] w fun e w' => e = .returned (.bool (labB s)) ∧ w = w' := by
  unfold labB
  obtain ⟨b, hb⟩ : ∃ b, b = s.data.toList.all wrd := ⟨_, rfl⟩
  rw [← hb]
  have HB := Lib.hid hb
  clear hb
  cases he : s.toList.isEmpty with
  | true =>
    go_enter Tryz.func121, Tryz.ntmps121
    go_wp2
    go_ret
    exact ⟨rfl, rfl⟩
  | false =>
    by_cases hl : s.size ≤ 20
    · go_enter Tryz.func121, Tryz.ntmps121
      go_wp2_with fail
      refine (all_wrd s hs _).mono ?_
      rintro e w' ⟨rfl, rfl⟩
      rw [← HB.out]
      go_wp2
      go_ret
      exact ⟨ret_bool (by simp [hl]), rfl⟩
    · go_enter Tryz.func121, Tryz.ntmps121
      go_wp2_with fail
      go_ret
      exact ⟨ret_bool (by simp), rfl⟩
set_option maxHeartbeats 1000000 in
theorem hasPrefix_any (s p : ByteArray) (w : World) :
    Calls Tryz.prog 58 #[.string s, .string p] w fun e w' => e = .returned (.bool (Lib.hasPrefix s.data.toList p.data.toList)) ∧ w = w' := by
  rw [← Lib.hasPrefix_of_take, ← Lib.size_eq, ← Lib.size_eq]
  go_enter Tryz.func58, Tryz.ntmps58
  go_wp2
  · rename_i h
    go_ret
    refine ⟨?_, rfl⟩
    show Ending.returned (Value.bool ((s.extract 0 p.size).toList == p.toList)) = _
    rw [Lib.extract_toList, Lib.toList_data]
    simp [h]
  · rename_i h
    go_ret
    refine ⟨?_, rfl⟩
    show Ending.returned (Value.bool false) = _
    simp [h]
theorem prefix_any (s p : ByteArray) (w : World) :
    Calls Tryz.prog 29 #[.string s, .string p] w fun e w' => e = .returned (.bool (Lib.hasPrefix s.data.toList p.data.toList)) ∧ w = w' := by
  go_enter Tryz.func29, Tryz.ntmps29
  go_wp2_with fail
  refine (hasPrefix_any s p _).mono ?_
  rintro e w' ⟨rfl, rfl⟩
  obtain ⟨b, hb⟩ : ∃ b, b = Lib.hasPrefix s.data.toList p.data.toList := ⟨_, rfl⟩
  rw [← hb]
  have HB := Lib.hid hb
  clear hb
  go_wp2
  go_ret
  exact ⟨ret_bool HB.out, rfl⟩
set_option maxHeartbeats 1000000 in
theorem language_any (s : ByteArray) (hs : s.size ≤ maxLen) (w : World) :
    Calls Tryz.prog 137 #[.string s] w fun e w' => e = .returned (.bool (lanB s)) ∧ w = w' := by
  unfold lanB
  obtain ⟨b, hb⟩ : ∃ b, b = s.data.toList.all lng := ⟨_, rfl⟩
  obtain ⟨c, hc⟩ : ∃ c, c = Lib.hasPrefix s.data.toList [45] := ⟨_, rfl⟩
  rw [← hb, ← hc]
  have HB := Lib.hid hb
  have HC := Lib.hid hc
  clear hb hc
  cases c with
  | true =>
    go_enter Tryz.func137, Tryz.ntmps137
    go_wp2_with fail
    refine (prefix_any s ⟨#[45]⟩ _).mono ?_
    rintro e w' ⟨rfl, rfl⟩
    rw [← HC.out]
    go_wp2
    go_ret
    exact ⟨rfl, rfl⟩
  | false =>
    go_enter Tryz.func137, Tryz.ntmps137
    go_wp2_with fail
    refine (prefix_any s ⟨#[45]⟩ _).mono ?_
    rintro e w' ⟨rfl, rfl⟩
    rw [← HC.out]
    go_wp2_with fail
    refine (all_lng s hs _).mono ?_
    rintro e w' ⟨rfl, rfl⟩
    rw [← HB.out]
    go_wp2
    go_ret
    exact ⟨rfl, rfl⟩
/-- A term. -/
structure Tm where
  k : Int
  s : ByteArray
  l : ByteArray
  t : ByteArray
def Tm.val (x : Tm) : Value := .agg #[.int .i64 x.k, .string x.s, .string x.l, .string x.t]
/-- Its texts are texts. -/
structure Tm.Ok (x : Tm) : Prop where
  k : (Lit.int .i64 x.k).wf = true
  s : x.s.size ≤ maxLen
  l : x.l.size ≤ maxLen
  t : x.t.size ≤ maxLen
theorem bcell {W w1 : World} (hb : Below W.heap.size W w1) : (∀ b o, b < W.heap.size → w1.cell? ⟨b, o, none⟩ = W.cell? ⟨b, o, none⟩) ∧ (∀ b o, b < W.heap.size → w1.frozen? ⟨b, o, none⟩ = W.frozen? ⟨b, o, none⟩) :=
  ⟨fun b o h => hb.cell (p := ⟨b, o, none⟩) h, fun b o h => hb.frozen (p := ⟨b, o, none⟩) h⟩
def barB (x : Tm) : Bool := x.l.toList.isEmpty && x.t.toList.isEmpty
def tagB (x : Tm) : Bool := if x.l.toList.isEmpty then x.t.toList.isEmpty || refB x.t else if x.t.toList.isEmpty then lanB x.l else false
def rankOf (k : Int) : Int := if k = 2 then 0 else if k = 1 then 1 else if k = 3 then 2 else 3
def checkOf (x : Tm) : Int :=
  if x.k < 1 ∨ 3 < x.k then 3
  else if 60 < x.s.size ∨ 60 < x.t.size ∨ 8 < x.l.size then 5
  else if x.k = 1 then (if barB x && refB x.s then 0 else 1)
  else if x.k = 2 then (if barB x && labB x.s then 0 else 1)
  else (if tagB x then 0 else 1)
set_option maxHeartbeats 1000000 in
theorem rank_any (k : Int) (w : World) :
    Calls Tryz.prog 118 #[.int .i64 k] w fun e w' => e = .returned (.int .i64 (rankOf k)) ∧ w = w' := by
  unfold rankOf
  by_cases h2 : k = 2
  · subst h2
    go_enter Tryz.func118, Tryz.ntmps118
    go_wp2
    go_ret
    exact ⟨rfl, rfl⟩
  by_cases h1 : k = 1
  · subst h1
    go_enter Tryz.func118, Tryz.ntmps118
    go_wp2
    go_ret
    exact ⟨rfl, rfl⟩
  by_cases h3 : k = 3
  · subst h3
    go_enter Tryz.func118, Tryz.ntmps118
    go_wp2
    go_ret
    exact ⟨rfl, rfl⟩
  rw [if_neg h2, if_neg h1, if_neg h3]
  have g2 : (k == 2) = false := by simpa using h2
  have g1 : (k == 1) = false := by simpa using h1
  have g3 : (k == 3) = false := by simpa using h3
  clear h1 h2 h3
  go_enter Tryz.func118, Tryz.ntmps118
  go_wp2
  go_ret
  exact ⟨rfl, rfl⟩
end Go.Proofs.YtefkppeicmipbaaGreatDoor
namespace Go.Proofs.YtefkppeicmipbaaGreatDoor
open Go.RowKit
set_option maxRecDepth 100000
/-- Bytes as a string. -/
def bl (l : List UInt8) : ByteArray := ⟨l.toArray⟩
theorem bl_toList (l : List UInt8) : (bl l).data.toList = l := rfl
theorem ba_ext {a b : ByteArray} (h : a.data.toList = b.data.toList) : a = b := by
  cases a; cases b; simp at h; exact congrArg _ h
theorem ba_app (a b : ByteArray) : (a ++ b).data.toList = a.data.toList ++ b.data.toList := by simp
/-- A byte within a literal's quotes; a text; a literal's. -/
def quo (c : UInt8) : List UInt8 :=
  if c.toNat = 9 then [92, 116] else if c.toNat = 10 then [92, 110] else if c.toNat = 13 then [92, 114] else if c.toNat = 34 then [92, 34] else if c.toNat = 92 then [92, 92] else [c]
def quoL (l : List UInt8) : List UInt8 := 34 :: (l.flatMap quo ++ [34])
def tagL (x : Tm) : List UInt8 := if x.l.toList.isEmpty then (if x.t.toList.isEmpty then [] else 94 :: 94 :: 60 :: (x.t.data.toList ++ [62])) else 64 :: x.l.data.toList
def textL (x : Tm) : List UInt8 := if x.k = 1 then 60 :: (x.s.data.toList ++ [62]) else if x.k = 2 then 95 :: 58 :: x.s.data.toList else quoL x.s.data.toList ++ tagL x
theorem quo_length (c : UInt8) : (quo c).length ≤ 2 := by unfold quo; repeat' split
                                                          all_goals simp
theorem quos_length (l : List UInt8) : (l.flatMap quo).length ≤ 2 * l.length := by
  induction l with
  | nil => simp
  | cons c t ih => have := quo_length c; simp only [List.flatMap_cons, List.length_append, List.length_cons]; omega
theorem bl_size (l : List UInt8) : (bl l).size = l.length := by simp [bl, ByteArray.size]
theorem tagL_length (x : Tm) : (tagL x).length ≤ x.l.size + x.t.size + 4 := by
  have h1 : x.t.data.toList.length = x.t.size := by simp
  have h2 : x.l.data.toList.length = x.l.size := by simp
  unfold tagL
  split
  · split
    · simp
    · simp only [List.length_cons, List.length_append, List.length_nil]; omega
  · simp only [List.length_cons]; omega
theorem quoL_length (s : ByteArray) : (quoL s.data.toList).length ≤ 2 * s.size + 2 := by
  have h1 := quos_length s.data.toList
  have h2 : s.data.toList.length = s.size := by simp
  unfold quoL
  simp only [List.length_cons, List.length_append, List.length_nil]
  omega
end Go.Proofs.YtefkppeicmipbaaGreatDoor
