/- The walk of the law CodeLong. -/
import Derived.Test.YtkgdplbkhkafgaaKnown
import Derived.Test.YtkgdplbkhkafgaaLess
namespace Go.Proofs.Ytkgdplbkhkafgaa
open Go.RowKit

theorem num_le2 (k : Nat) (hk : k < 65536) : num (le k 2) = k := by
  have e : le (k : Int) 2 = [byteOf k, byteOf ((k : Int) / 256)] := by simp [le, List.range_succ]
  have h1 := byteOf_toNat k
  have h2 := byteOf_toNat ((k : Int) / 256)
  rw [e]
  simp only [num]
  omega

/-- Reading a text that was written. -/
theorem text_back (m t : List UInt8) (h : m.length < 65536) :
    textOf (le m.length 2 ++ m ++ t) 0 = m ∧ textLeft (le m.length 2 ++ m ++ t) 0 = t ∧ textErr (le m.length 2 ++ m ++ t) 0 = 0 := by
  have hl := le_length (m.length : Int) 2
  have h2 : 2 ≤ (le (m.length : Int) 2 ++ m ++ t).length := by simp only [List.length_append]; omega
  have hm : m.length ≤ (m ++ t).length := by simp
  unfold textOf textLeft textErr
  rw [took_ok h2, left_ok h2, err_ok h2, List.append_assoc]
  have e1 : (le (m.length : Int) 2 ++ (m ++ t)).take 2 = le m.length 2 := by rw [← hl]; exact List.take_left
  have e2 : (le (m.length : Int) 2 ++ (m ++ t)).drop 2 = m ++ t := by conv => lhs; rw [← hl]
                                                                      exact List.drop_left
  rw [e1, e2, num_le2 _ h, took_ok hm, left_ok hm, err_ok hm]
  simp

theorem tx_of (L : List UInt8) : tx ⟨L.toArray⟩ = le ((L.take 65535).length : Nat) 2 ++ L.take 65535 := by
  have h : (⟨L.toArray⟩ : ByteArray).size = L.length := by simp [ByteArray.size]
  unfold tx
  rw [h, List.length_take, Nat.min_comm]
  congr 1
  congr 1
  omega

theorem long_core (n : Int) (C : UInt8) (w : World) (hn : (Lit.int .i64 n).wf = true) :
    Calls Try.prog 8 #[.int .i64 n, .int .u8 (C.toNat : Int)] w fun en w' => en = .returned (.bool true) ∧ Below w.heap.size w w' := by
  obtain ⟨i0, hi, hz0, hz1, hz2⟩ := info_parts Try.infoU8
  have e1 := Int.emod_nonneg n (show (5 : Int) ≠ 0 by decide)
  have e2 := Int.emod_lt_of_pos n (show (0 : Int) < 5 by decide)
  go_enter Try.func8, Try.ntmps8
  go_wp2_with fail
  refine (known_any _).mono ?_
  rintro en w1 ⟨rfl, hb1⟩
  have hs1 := hb1.size
  go_wp2_with fail
  refine (within_any n 5 (by decide) (by decide) hn _).mono ?_
  rintro en w2 ⟨rfl, rfl⟩
  generalize n % 5 = E at *
  obtain ⟨N, hN⟩ := Int.eq_ofNat_of_zero_le (show 0 ≤ 65533 + E by omega)
  have hN1 : 65533 ≤ N := by omega
  have hN2 : N ≤ 65537 := by omega
  go_wp2_with (at_make; refine wpList_make_full _ rfl _ _ 22 rfl w.heap.size 5 i0 (.int .u8 0) 1 Try.underlying22 hi hz0 hz1 _ _ _ _ N rfl rfl rfl rfl ?b1 ?b2 ?b3 ?_)
  case b1 => rw [hz2]; omega
  case b2 => simp [maxLen]; omega
  case b3 => omega
  intro w2 ho2 hg2
  have hb2 := hb1.trans ((grownBy_below hg2).mono hs1)
  have hc0 : w2.cell? ⟨w1.heap.size, 0, none⟩ = some (.int .u8 0) := by
    rw [ho2.cellAt 0 (by omega), toList_madeCells_one, List.getElem?_replicate, if_pos (by omega)]
  have hf0 := ho2.frozenAt 0
  have ho3 := (ho2.stored 0 (.int .u8 (C.toNat : Int))).1
  have hb3 : Below w.heap.size w (w2.setCell ⟨w1.heap.size, 0, none⟩ (.int .u8 (C.toNat : Int))) := hb2.setCell hs1 _
  have hp : (0 : Int) < N := by omega
  rw [toList_madeCells_one] at ho3
  have ho4 : Own (w2.setCell ⟨w1.heap.size, 0, none⟩ (.int .u8 (C.toNat : Int))) w.heap.size (.slice (some ⟨w1.heap.size, 0, none⟩) N N) ((List.replicate N (0 : UInt8)).set 0 C) :=
    Own.of ho3 (by rw [List.length_set, List.length_replicate]) (by unfold vbs; rw [List.map_set, List.map_replicate]; rfl)
  obtain ⟨L, hL⟩ : ∃ L, L = (List.replicate N (0 : UInt8)).set 0 C := ⟨_, rfl⟩
  have hLl : L.length = N := by rw [hL]; simp
  have hL0 : L[0]'(by omega) = C := by subst hL; simp
  rw [← hL] at ho4
  have hcv := run_conv_bytes ho4.bs
  clear ho2 ho3 hL hg2 hb1 hb2
  go_wp2_with fail
  have hs3 := hb3.size
  generalize w2.setCell ⟨w1.heap.size, 0, none⟩ (.int .u8 (C.toNat : Int)) = w3 at *
  refine (text_any _ [] _ (by simp) _ (Bs.nil _)).mono ?_
  rintro en w4 ⟨v4, rfl, ho5, hb4⟩
  have hB4 := hb3.trans (hb4.mono hs3)
  have hs4 := hB4.size
  have ho5' := ho5.mono hs3
  obtain ⟨m, hm⟩ : ∃ m, m = L.take 65535 := ⟨_, rfl⟩
  obtain ⟨K, hK⟩ : ∃ K, K = m.length := ⟨_, rfl⟩
  have hKN : K = min 65535 N := by rw [hK, hm, List.length_take, hLl]
  have hm0 : ∀ h : 0 < m.length, m[0]'h = C := by intro h; subst hm; simpa using hL0
  rw [tx_of, ← hm, ← hK, List.nil_append] at ho5'
  have hl2 : (le (K : Int) 2 ++ m).length = 2 + K := by rw [List.length_append, le_length, hK]
  obtain ⟨g, cap, hv, k1, k2, k3, k4, k5⟩ := ho5'.at (by omega)
  have e2 : le (K : Int) 2 = [byteOf K, byteOf ((K : Int) / 256)] := by simp [le, List.range_succ]
  have c0 : w4.cell? ⟨g, 0, none⟩ = some (.int .u8 ((K : Int) % 256)) := by
    rw [k5 0 (by omega), ← vb_byteOf]; simp [e2]
  have c1 : w4.cell? ⟨g, 1, none⟩ = some (.int .u8 ((K : Int) / 256)) := by
    rw [k5 1 (by omega)]
    have : vb (byteOf ((K : Int) / 256)) = .int .u8 ((K : Int) / 256) := by rw [vb_byteOf]; congr 1; omega
    rw [← this]; simp [e2]
  have hbs4 := ho5'.bs
  subst hv
  rw [hl2] at hbs4 k1 ⊢
  have K1 : 65533 ≤ K := by omega
  have K2 : K ≤ 65535 := by omega
  have K3 : K ≤ N := by omega
  have K4 : N ≤ 65535 → K = N := by omega
  have K5 : 65535 < N → K = 65535 := by omega
  have HK := Lib.hid hK
  have HM := Lib.hid hm0
  have HN := Lib.hid hN
  clear ho4 hcv hb3 hb4 ho5 ho5' k5 e2 hs3 hL0 hc0 hf0 hKN hm0 hm hLl hl2
  clear hK hN
  by_cases hle : (N : Int) ≤ 65535
  · obtain rfl := K4 (by omega)
    clear K4 K5
    go_wp2_with fail
    refine (new_any _ _ (by simp [le_length]; have := HK.out; omega) _ hbs4).mono ?_
    rintro en w5 ⟨r, rfl, hr5, hq5, hb5⟩
    have hs5 := hb5.size
    go_wp2_with fail
    refine (rtext_any r _ 0 _ hr5).mono ?_
    rintro en w6 ⟨rfl, hr6, hg6⟩
    have hT := text_back m [] (by have := HK.out; omega)
    rw [← HK.out, List.append_nil] at hT
    rw [hT.1]
    rw [hT.2.1, hT.2.2] at hr6
    have hb6 := Below.rd hb5 hg6 hs5 hq5
    have hB6 := hB4.trans (hb6.mono hs4)
    have c0' : w6.cell? ⟨g, 0, none⟩ = some (.int .u8 ((K : Int) % 256)) := (hb6.cell k4).trans c0
    have c1' : w6.cell? ⟨g, 1, none⟩ = some (.int .u8 ((K : Int) / 256)) := (hb6.cell k4).trans c1
    clear hT hr5 hg6 hb5 hb6 c0 c1 hB4 hbs4 hs5
    obtain ⟨S, hS⟩ : ∃ S : ByteArray, S = ⟨m.toArray⟩ := ⟨_, rfl⟩
    have hSz : S.size = m.length := by rw [hS]; simp [ByteArray.size]
    have hK := HK.out
    have q0n : 0 < S.size := by omega
    have hS0 : S[0]'q0n = C := by subst hS; exact HM.out (by omega)
    rw [← hS]
    have q0 : (0 : Int) < S.size := by omega
    have q1 : ((2 : Int) + (K : Nat) == (K : Nat) + 2) = true := beq_iff_eq.2 (by omega)
    have q2 : ((S.size : Int) == (K : Int)) = true := beq_iff_eq.2 (by omega)
    have q3 : (((S[0]'q0n).toNat : Int) == (C.toNat : Int)) = true := by rw [hS0]; exact beq_iff_eq.2 rfl
    clear hS hSz hK hS0 HK HM HN
    go_wp2_with fail
    refine (end_any r _ _ _ hr6).mono ?_
    rintro en w7 ⟨rfl, rfl⟩
    go_wp2
    go_ret
    exact ⟨rfl, hB6⟩
  · obtain rfl := K5 (by omega)
    clear K4 K5
    go_wp2_with fail
    refine (new_any _ _ (by simp [le_length]; have := HK.out; omega) _ hbs4).mono ?_
    rintro en w5 ⟨r, rfl, hr5, hq5, hb5⟩
    have hs5 := hb5.size
    go_wp2_with fail
    refine (rtext_any r _ 0 _ hr5).mono ?_
    rintro en w6 ⟨rfl, hr6, hg6⟩
    have hT := text_back m [] (by have := HK.out; omega)
    rw [← HK.out, List.append_nil] at hT
    rw [hT.1]
    rw [hT.2.1, hT.2.2] at hr6
    have hb6 := Below.rd hb5 hg6 hs5 hq5
    have hB6 := hB4.trans (hb6.mono hs4)
    have c0' : w6.cell? ⟨g, 0, none⟩ = some (.int .u8 (((65535 : Nat) : Int) % 256)) := (hb6.cell k4).trans c0
    have c1' : w6.cell? ⟨g, 1, none⟩ = some (.int .u8 (((65535 : Nat) : Int) / 256)) := (hb6.cell k4).trans c1
    clear hT hr5 hg6 hb5 hb6 c0 c1 hB4 hbs4 hs5
    obtain ⟨S, hS⟩ : ∃ S : ByteArray, S = ⟨m.toArray⟩ := ⟨_, rfl⟩
    have hSz : S.size = m.length := by rw [hS]; simp [ByteArray.size]
    have hK := HK.out
    have q0n : 0 < S.size := by omega
    have hS0 : S[0]'q0n = C := by subst hS; exact HM.out (by omega)
    rw [← hS]
    have q0 : (0 : Int) < S.size := by omega
    have q1 : ((2 : Int) + (65535 : Nat) == (65535 : Nat) + 2) = true := beq_iff_eq.2 (by omega)
    have q2 : ((S.size : Int) == (65535 : Int)) = true := beq_iff_eq.2 (by omega)
    have q3 : (((S[0]'q0n).toNat : Int) == (C.toNat : Int)) = true := by rw [hS0]; exact beq_iff_eq.2 rfl
    clear hS hSz hK hS0 HK HM HN
    go_wp2_with fail
    refine (end_any r _ _ _ hr6).mono ?_
    rintro en w7 ⟨rfl, rfl⟩
    go_wp2
    go_ret
    exact ⟨rfl, hB6⟩

theorem long_walk (n c : Int) (w : World) (hn : (Lit.int .i64 n).wf = true) (hc : (Lit.int .u8 c).wf = true) :
    Calls Try.prog 8 #[.int .i64 n, .int .u8 c] w fun en w' => en = .returned (.bool true) ∧ Below w.heap.size w w' := by
  have hr : 0 ≤ c ∧ c ≤ 255 := by simpa [Lit.wf, IntKind.min, IntKind.max, IntKind.signed, IntKind.bits] using hc
  have hC : c = ((UInt8.ofNat c.toNat).toNat : Int) := by
    have : c.toNat < 256 := by omega
    rw [UInt8.toNat_ofNat_of_lt' this]
    omega
  rw [hC]
  exact long_core n _ w hn
end Go.Proofs.Ytkgdplbkhkafgaa
