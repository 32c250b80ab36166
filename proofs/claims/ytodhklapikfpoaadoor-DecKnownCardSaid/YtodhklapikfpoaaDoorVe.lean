/- Div64, where the quotient is below a million: said plainly. -/
import Derived.Test.YtodhklapikfpoaaDoorVc
import Derived.Shelf.Bits.Mul64
namespace Go.Proofs.YtodhklapikfpoaaDoor
open Go.RowKit
set_option maxRecDepth 100000
set_option linter.unusedVariables false
set_option linter.unusedSimpArgs false

theorem or_join (a b s : Nat) (hs : s ≤ 64) (hb : b < 2 ^ s) (h : a * 2 ^ s + b < 18446744073709551616) : bits .or .u64 ((a * 2 ^ s : Nat) : Int) (b : Int) = ((a * 2 ^ s + b : Nat) : Int) := by
  have hk : ∀ n : Int, 0 ≤ n → n < 2 ^ 64 → IntKind.u64.wrap n = n := fun n h0 h1 => by rw [IntKind.wrap_u64]; omega
  have e : (2 : Nat) ^ 64 = 18446744073709551616 := by decide
  have := bits_nat .u64 64 (by decide) hk (a * 2 ^ s) b (by omega) (by omega)
  rw [this.2]
  congr 1
  rw [Nat.mul_comm, Nat.two_pow_add_eq_or_of_lt hb]

theorem kn_top {hi lo y s N : Nat} (hN : N = hi * 18446744073709551616 + lo) (hlo : lo < 18446744073709551616) (hs : s ≤ 64) : N * 2 ^ s / 18446744073709551616 = hi * 2 ^ s + lo / 2 ^ (64 - s) := by
  have e : (2 : Nat) ^ 64 = 18446744073709551616 := by decide
  have := kn_halves N s hs
  rw [e] at this
  rw [this, show N / 18446744073709551616 = hi by omega, show N % 18446744073709551616 = lo by omega]
theorem kn_low {hi lo s N : Nat} (hN : N = hi * 18446744073709551616 + lo) : N * 2 ^ s % 18446744073709551616 = lo * 2 ^ s % 18446744073709551616 := by
  rw [hN, Nat.add_mul, Nat.mul_right_comm, Nat.mul_comm _ 18446744073709551616, Nat.mul_add_mod]

theorem div64_big (hi lo y : Nat) (w : World) (hhi : 1 ≤ hi) (hlo : lo < 18446744073709551616) (hyB : y ≤ 9223372036854775807) (hN : hi * 18446744073709551616 + lo < 1000000 * y) :
    Calls Tryd.prog 28 #[.int .u64 (hi : Int), .int .u64 (lo : Int), .int .u64 (y : Int)] w fun e w' => (∃ r, e = .returned (.tuple #[.int .u64 (((hi * 18446744073709551616 + lo) / y : Nat) : Int), .int .u64 r])) ∧ w = w' := by
  have hhy : hi < y := by omega
  obtain ⟨b1, b2⟩ := bl_bounds y y (Nat.le_refl _) (by omega) (by omega)
  obtain ⟨L, hL⟩ : ∃ L, L = Lib.bitLen y := ⟨_, rfl⟩
  rw [← hL] at b1 b2
  have hL0 : 1 ≤ L := by
    rcases Nat.eq_zero_or_pos L with h | h
    · rw [h] at b2; omega
    · exact h
  have hL63 : L ≤ 63 := by
    rcases Nat.lt_or_ge 63 L with h | h
    · have : (2 : Nat) ^ 63 ≤ 2 ^ (L - 1) := Nat.pow_le_pow_right (by decide) (by omega)
      have e : (2 : Nat) ^ 63 = 9223372036854775808 := by decide
      omega
    · exact h
  obtain ⟨s, hs⟩ : ∃ s, s = 64 - L := ⟨_, rfl⟩
  have e64 : (2 : Nat) ^ 64 = 18446744073709551616 := by decide
  have e63 : (2 : Nat) ^ 63 = 9223372036854775808 := by decide
  obtain ⟨Y, hY⟩ : ∃ Y, Y = y * 2 ^ s := ⟨_, rfl⟩
  have hY1 : 9223372036854775808 ≤ Y := by
    have := Nat.mul_le_mul_right (2 ^ s) b1
    rw [← Nat.pow_add, show L - 1 + s = 63 by omega, e63] at this
    omega
  have hY2 : Y < 18446744073709551616 := by
    have := Nat.mul_lt_mul_of_pos_right b2 (Nat.two_pow_pos s)
    rw [← Nat.pow_add, show L + s = 64 by omega, e64] at this
    omega
  obtain ⟨N, hNN⟩ : ∃ N, N = hi * 18446744073709551616 + lo := ⟨_, rfl⟩
  rw [← hNN] at hN ⊢
  have t1 := kn_top (s := s) (y := y) hNN hlo (by omega)
  have t2 := kn_low (s := s) hNN
  have hNY : N * 2 ^ s < 1000000 * Y := by
    have := Nat.mul_lt_mul_of_pos_right hN (Nat.two_pow_pos s)
    rw [Nat.mul_assoc, ← hY] at this
    exact this
  obtain ⟨M, hM⟩ : ∃ M, M = N * 2 ^ s := ⟨_, rfl⟩
  have hQ : N / y = M / Y := by rw [hM, hY, Nat.mul_div_mul_right _ _ (Nat.two_pow_pos s)]
  rw [← hM] at t1 t2 hNY
  obtain ⟨un, hun⟩ : ∃ un, un = hi * 2 ^ s + lo / 2 ^ (64 - s) := ⟨_, rfl⟩
  rw [← hun] at t1
  have hub : un ≤ 1000000 := by omega
  obtain ⟨V, hV⟩ : ∃ V, V = lo * 2 ^ s % 18446744073709551616 := ⟨_, rfl⟩
  rw [← hV] at t2
  have hMV : M = un * 18446744073709551616 + V := by omega
  have hlp : lo / 2 ^ (64 - s) < 2 ^ s := by
    rw [Nat.div_lt_iff_lt_mul (Nat.two_pow_pos _), ← Nat.pow_add, show s + (64 - s) = 64 by omega, e64]
    exact hlo
  have c1 : IntKind.u64.wrap ((y : Int) * 2 ^ s) = (Y : Int) := by
    have : (y : Int) * 2 ^ s = ((y * 2 ^ s : Nat) : Int) := by push_cast; rfl
    rw [this, ← hY, IntKind.wrap_u64]; omega
  have c4 : bits .or .u64 (IntKind.u64.wrap ((hi : Int) * 2 ^ s)) ((lo : Int) / 2 ^ (64 - s)) = (un : Int) := by
    have h1 : (hi : Int) * 2 ^ s = ((hi * 2 ^ s : Nat) : Int) := by push_cast; rfl
    have h2 : (lo : Int) / 2 ^ (64 - s) = ((lo / 2 ^ (64 - s) : Nat) : Int) := by push_cast; rfl
    have h6 : hi * 2 ^ s ≤ un := by rw [hun]; exact Nat.le_add_right _ _
    have h5 : hi * 2 ^ s < 18446744073709551616 := by omega
    have h3 : IntKind.u64.wrap ((hi * 2 ^ s : Nat) : Int) = ((hi * 2 ^ s : Nat) : Int) := by
      generalize hi * 2 ^ s = hh at h5
      rw [IntKind.wrap_u64]; omega
    rw [h1, h2, h3, or_join hi _ s (by omega) hlp (by omega), ← hun]
  have c5 : IntKind.u64.wrap ((lo : Int) * 2 ^ s) = (V : Int) := by
    have : (lo : Int) * 2 ^ s = ((lo * 2 ^ s : Nat) : Int) := by push_cast; rfl
    rw [this, IntKind.wrap_u64, hV]; omega
  have hVb : V < 18446744073709551616 := by omega
  obtain ⟨y1, hy1⟩ : ∃ x, x = Y / 4294967296 := ⟨_, rfl⟩
  obtain ⟨y0, hy0⟩ : ∃ x, x = Y % 4294967296 := ⟨_, rfl⟩
  obtain ⟨u1, hu1⟩ : ∃ x, x = V / 4294967296 := ⟨_, rfl⟩
  obtain ⟨u0, hu0⟩ : ∃ x, x = V % 4294967296 := ⟨_, rfl⟩
  have c3 : bits .and .u64 (Y : Int) 4294967295 = (y0 : Int) := by rw [Mul64.maskN Y hY2, hy0]
  have c7 : bits .and .u64 (V : Int) 4294967295 = (u0 : Int) := by rw [Mul64.maskN V hVb, hu0]
  obtain ⟨U, hU⟩ : ∃ U, U = un * 4294967296 + u1 := ⟨_, rfl⟩
  have hy1p : 2147483648 ≤ y1 := by omega
  have hd := Nat.div_add_mod U y1
  have hml := Nat.mod_lt U (show 0 < y1 by omega)
  obtain ⟨q0, hq0⟩ : ∃ q, q = U / y1 := ⟨_, rfl⟩
  obtain ⟨r0, hr0⟩ : ∃ r, r = U % y1 := ⟨_, rfl⟩
  rw [← hq0, ← hr0] at hd
  rw [← hr0] at hml
  have hq0b : q0 ≤ 4000000 := by
    rw [hq0]
    refine Nat.div_le_of_le_mul ?_
    omega
  have hst := kn_start (b := 4294967296) (y1 := y1) (y0 := y0) (u := U) (l := u0) (by omega) (by omega)
  rw [← hq0] at hst
  have eY : y1 * 4294967296 + y0 = Y := by omega
  have hVV : V = u1 * 4294967296 + u0 := by rw [hu1, hu0]; exact (Nat.div_add_mod' V 4294967296).symm
  have e32 : (4294967296 : Nat) * 4294967296 = 18446744073709551616 := rfl
  have eM : U * 4294967296 + u0 = M := by rw [hU, hMV, hVV, Nat.add_mul, Nat.mul_assoc, e32, Nat.add_assoc]
  obtain ⟨P, hP⟩ : ∃ P, P = q0 * y1 := ⟨_, rfl⟩
  rw [Nat.mul_comm, ← hP] at hd
  refine div64_some hi lo y s Y un y1 y0 V u1 u0 U (un * 4294967296) q0 P r0 (N / y) w hhi hhy (by omega) hyB (by rw [← hL]; omega) (by omega) (by omega) c1 (by omega) c3 c4 c5 (by omega) c7
    (by omega) (by omega) (by omega) (by omega) (by omega) hub ?_ (by omega) (by omega) (by omega) ?_ ?_ (by omega) hq0b (by omega) (by omega) (by omega) (Lib.hid ⟨by rw [← hP]; omega, hst, by rw [hQ, eM, eY]⟩)
  · have : un / y1 = 0 := Nat.div_eq_of_lt (by omega)
    have h : (un : Int) / (y1 : Int) = ((un / y1 : Nat) : Int) := rfl
    rw [h, this]; rfl
  · have h : (U : Int) / (y1 : Int) = ((U / y1 : Nat) : Int) := rfl
    rw [h, ← hq0]
  · rw [hP]; exact (Int.natCast_mul q0 y1).symm

theorem div64_small (lo y : Nat) (w : World) (hy0 : 1 ≤ y) (hlo : lo < 18446744073709551616) (hyB : y ≤ 9223372036854775807) :
    Calls Tryd.prog 28 #[.int .u64 0, .int .u64 (lo : Int), .int .u64 (y : Int)] w fun e w' => (∃ r, e = .returned (.tuple #[.int .u64 ((lo / y : Nat) : Int), .int .u64 r])) ∧ Below w.heap.size w w' := by
  have hyn : ¬ (y : Int) = 0 := by omega
  have hyn2 : ¬ (y : Int) ≤ 0 := by omega
  obtain ⟨q, hq⟩ : ∃ q, q = lo / y := ⟨_, rfl⟩
  have e1 : (lo : Int) / (y : Int) = (q : Int) := by rw [hq]; rfl
  obtain ⟨r, hr⟩ : ∃ q, q = lo % y := ⟨_, rfl⟩
  have e2 : (lo : Int) % (y : Int) = (r : Int) := by rw [hr]; rfl
  have hw : IntKind.u64.wrap (q : Int) = (q : Int) := by
    have : q ≤ lo := by rw [hq]; exact Nat.div_le_self _ _
    rw [IntKind.wrap_u64]; omega
  rw [← hq]
  clear hq hr
  go_enter Tryd.func28, Tryd.ntmps28
  go_wp2_with fail
  go_quiet (fail)
  go_wp2_with fail
  go_ret2
  exact ⟨⟨_, rfl⟩, ⟨rfl, rfl, rfl, Nat.le_refl _, fun _ _ => rfl⟩⟩
end Go.Proofs.YtodhklapikfpoaaDoor
