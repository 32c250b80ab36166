/- Terms: bytes that may be, row by row. -/
import Derived.Test.YtpoacgnncinmiaaCd
import Derived.Laws.Externs
import Derived.Lib.Bytealg
import Derived.Lib.IndexLaws
namespace Go.Proofs.Ytpoacgnncinmiaa
open Go.RowKit
set_option maxRecDepth 100000

theorem ret_bool {a b : Bool} (h : a = b) : Ending.returned (.bool a) = .returned (.bool b) := by rw [h]
theorem ret_str {a b : ByteArray} (h : a = b) : Ending.returned (.string a) = .returned (.string b) := by rw [h]
/-- May a byte stand in an IRI, in a label, in a language? -/
def sgn (c : UInt8) : Bool := decide (32 < c.toNat) && decide (c.toNat ≠ 60) && decide (c.toNat ≠ 62) && decide (c.toNat ≠ 34) && decide (c.toNat ≠ 123) && decide (c.toNat ≠ 125) && decide (c.toNat ≠ 124) && decide (c.toNat ≠ 94) && decide (c.toNat ≠ 92) && decide (c.toNat ≠ 96)
def sml (c : UInt8) : Bool := decide (97 ≤ c.toNat) && decide (c.toNat ≤ 122)
def wrd (c : UInt8) : Bool := sml c || decide (65 ≤ c.toNat) && decide (c.toNat ≤ 90) || decide (48 ≤ c.toNat) && decide (c.toNat ≤ 57) || decide (c.toNat = 95)
def lng (c : UInt8) : Bool := sml c || decide (c.toNat = 45)

theorem all_snoc {l : List UInt8} {p : UInt8 → Bool} {k : Nat} {c : UInt8} (h : l[k]? = some c) (ha : (l.take k).all p = true) (hc : p c = true) : (l.take (k + 1)).all p = true := by
  obtain ⟨hk, rfl⟩ := List.getElem?_eq_some_iff.1 h
  rw [List.take_succ_eq_append_getElem hk, List.all_append, ha]
  simp [hc]
theorem all_false {l : List UInt8} {p : UInt8 → Bool} {k : Nat} {c : UInt8} (h : l[k]? = some c) (hc : p c = false) : l.all p = false := by
  rw [List.all_eq_false]
  exact ⟨c, List.mem_of_getElem? h, by simp [hc]⟩

theorem byte_cases (c : UInt8) : ∃ n : Nat, n = c.toNat ∧ n < 256 := ⟨_, rfl, c.toNat_lt⟩

set_option maxHeartbeats 1000000 in
theorem small_any (c : UInt8) (w : World) :
    Calls Try.prog 61 #[.int .u8 c.toNat] w fun e w' => e = .returned (.bool (sml c)) ∧ w = w' := by
  obtain ⟨n, hn, hlt⟩ := byte_cases c
  unfold sml
  rw [← hn]
  clear hn
  go_enter Try.func61, Try.ntmps61
  go_wp2
  all_goals
    go_ret
    refine ⟨ret_bool ?_, rfl⟩
    rw [Bool.eq_iff_iff]
    simp
    try omega

set_option maxHeartbeats 1000000 in
theorem indexByte_barred (c : UInt8) (w : World) :
    Calls Try.prog 59 #[.string ⟨#[60, 62, 34, 123, 125, 124, 94, 92, 96]⟩, .int .u8 c.toNat] w fun e w' => e = .returned (.int .i64 (Lib.indexByte [60, 62, 34, 123, 125, 124, 94, 92, 96] c)) ∧ w = w' := by
  go_enter Try.func59, Try.ntmps59
  go_wp2
  rw [run_callFunc_extern (f := 76) (P := Try.prog) (fn := Try.f76) (by kernel_rfl) (by kernel_rfl) (by kernel_rfl) (by kernel_rfl) (e := Extern.BytealgIndexByte.indexByte) (by kernel_rfl), Lib.run_indexByteString]
  simp only [Result.andThen]
  rw [Oper.upon_value]
  go_wp2
  go_ret
  exact ⟨rfl, rfl⟩
theorem barred_sgn (c : UInt8) (h : 32 < c.toNat) : decide (Lib.indexByte [60, 62, 34, 123, 125, 124, 94, 92, 96] c < 0) = sgn c := by
  have key : ∀ n : Fin 256, 32 < (UInt8.ofNat n.val).toNat → decide (Lib.indexByte [60, 62, 34, 123, 125, 124, 94, 92, 96] (UInt8.ofNat n.val) < 0) = sgn (UInt8.ofNat n.val) := by decide +kernel
  have := key ⟨c.toNat, c.toNat_lt⟩
  simp only [UInt8.ofNat_toNat] at this
  exact this h
set_option maxHeartbeats 1000000 in
theorem sgn_clo (c : UInt8) (w : World) :
    Calls Try.prog 58 #[.int .u8 c.toNat] w fun e w' => e = .returned (.bool (sgn c)) ∧ w = w' := by
  by_cases h : 32 < c.toNat
  · have hb := barred_sgn c h
    have HB := Lib.hid hb
    clear hb
    obtain ⟨z, hz⟩ : ∃ z, z = Lib.indexByte [60, 62, 34, 123, 125, 124, 94, 92, 96] c := ⟨_, rfl⟩
    have HZ := Lib.hid hz
    clear hz
    go_enter Try.func58, Try.ntmps58
    go_wp2_with fail
    · refine (indexByte_barred c _).mono ?_
      rintro e w' ⟨rfl, rfl⟩
      rw [← HZ.out]
      go_wp2
      go_ret
      exact ⟨ret_bool (by rw [← HB.out, ← HZ.out]), rfl⟩
  · have hs : sgn c = false := by unfold sgn; simp [h]
    rw [hs]
    clear hs
    go_enter Try.func58, Try.ntmps58
    go_wp2
    go_ret
    exact ⟨rfl, rfl⟩
set_option maxHeartbeats 1000000 in
theorem lng_clo (c : UInt8) (w : World) :
    Calls Try.prog 74 #[.int .u8 c.toNat] w fun e w' => e = .returned (.bool (lng c)) ∧ w = w' := by
  unfold lng
  obtain ⟨b, hb⟩ : ∃ b, b = sml c := ⟨_, rfl⟩
  rw [← hb]
  have HB := Lib.hid hb
  clear hb
  go_enter Try.func74, Try.ntmps74
  go_wp2_with fail
  refine (small_any c _).mono ?_
  rintro e w' ⟨rfl, rfl⟩
  rw [← HB.out]
  cases b
  all_goals
    go_wp2
    go_ret
    refine ⟨ret_bool ?_, rfl⟩
    rw [Bool.eq_iff_iff]
    simp
    try omega
set_option maxHeartbeats 1000000 in
theorem wrd_clo (c : UInt8) (w : World) :
    Calls Try.prog 60 #[.int .u8 c.toNat] w fun e w' => e = .returned (.bool (wrd c)) ∧ w = w' := by
  unfold wrd
  obtain ⟨b, hb⟩ : ∃ b, b = sml c := ⟨_, rfl⟩
  rw [← hb]
  have HB := Lib.hid hb
  clear hb
  cases b with
  | true =>
    go_enter Try.func60, Try.ntmps60
    go_wp2_with fail
    refine (small_any c _).mono ?_
    rintro e w' ⟨rfl, rfl⟩
    rw [← HB.out]
    go_wp2
    go_ret
    exact ⟨rfl, rfl⟩
  | false =>
    go_enter Try.func60, Try.ntmps60
    go_wp2_with fail
    refine (small_any c _).mono ?_
    rintro e w' ⟨rfl, rfl⟩
    rw [← HB.out]
    clear HB
    go_wp2
    all_goals
      go_ret
      refine ⟨ret_bool ?_, rfl⟩
      rw [Bool.eq_iff_iff]
      simp
      try omega
end Go.Proofs.Ytpoacgnncinmiaa
