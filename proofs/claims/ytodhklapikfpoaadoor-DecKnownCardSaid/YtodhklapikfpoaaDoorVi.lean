/- Quotients: both ways the same; how far they are from the number, plainly. -/
import Derived.Test.YtodhklapikfpoaaDoorVh
import Derived.Test.YtodhklapikfpoaaDoorMw
namespace Go.Proofs.YtodhklapikfpoaaDoor
open Go.RowKit Go.Shelf Flo
set_option maxRecDepth 100000
set_option linter.unusedVariables false
set_option linter.unusedSimpArgs false

theorem ddiv_none (w : World) (m s n : Int) (h : n < 1) : Calls Tryd.prog 11 #[.agg #[.int .i64 m, .int .i64 s], .int .i64 n] w fun e w' =>
      e = .returned (.tuple #[.agg #[.int .i64 0, .int .i64 0], .bool false]) ∧ Below w.heap.size w w' := by
  have HC := Lib.hid (cmp_boxes w m s 0 0 24)
  go_enter Tryd.func11, Tryd.ntmps11
  go_upto_region 2 with fail
  generalize World.alloc (World.alloc w _) _ = w1 at HC ⊢
  obtain ⟨-, -, ⟨b0, b1, b2, b3, b4⟩⟩ := HC.out
  go_wp2_with fail
  exact bodyPost_ret (v := .tuple #[.agg #[.int .i64 0, .int .i64 0], .bool false]) (by simp [results, Tryd.results11, go_sem, b0, b1, b2]) rfl ⟨rfl, ((CmpS.lo HC.out).setCell (by simp) _).setCell (by simp) _⟩
theorem rdiv_none (w : World) (m s n : Int) (h : n < 1) : Calls Tryd.prog 12 #[.agg #[.int .i64 m, .int .i64 s], .int .i64 n] w fun e w' =>
      e = .returned (.tuple #[.agg #[.int .i64 0, .int .i64 0], .bool false]) ∧ Below w.heap.size w w' := by
  have HC := Lib.hid (cmp_boxes w m s 0 0 24)
  go_enter Tryd.func12, Tryd.ntmps12
  go_upto_region 2 with fail
  generalize World.alloc (World.alloc w _) _ = w1 at HC ⊢
  obtain ⟨-, -, ⟨b0, b1, b2, b3, b4⟩⟩ := HC.out
  go_wp2_with fail
  exact bodyPost_ret (v := .tuple #[.agg #[.int .i64 0, .int .i64 0], .bool false]) (by simp [results, Tryd.results12, go_sem, b0, b1, b2]) rfl ⟨rfl, ((CmpS.lo HC.out).setCell (by simp) _).setCell (by simp) _⟩
theorem ddiv_any (w : World) (m s n : Int) (h : GoodD m s) (hn : n ≤ 9223372036854775807) (hP : PowAt w) : Calls Tryd.prog 11 #[.agg #[.int .i64 m, .int .i64 s], .int .i64 n] w fun e w' => e = .returned (divP m s n) ∧ Below w.heap.size w w' := by
  unfold divP
  by_cases h1 : n < 1
  · rw [if_pos h1]; exact ddiv_none w m s n h1
  · rw [if_neg h1]
    obtain ⟨k, rfl⟩ : ∃ k : Nat, s = k := ⟨s.toNat, by have := h.2.2.1; omega⟩
    obtain ⟨N, rfl⟩ : ∃ k : Nat, n = k := ⟨n.toNat, by omega⟩
    exact ddiv_some w m k N h (by omega) (by omega) hP
theorem rdiv_any (w : World) (m s n : Int) (h : GoodD m s) (hn : n ≤ 9223372036854775807) : Calls Tryd.prog 12 #[.agg #[.int .i64 m, .int .i64 s], .int .i64 n] w fun e w' => e = .returned (divP m s n) ∧ Below w.heap.size w w' := by
  unfold divP
  by_cases h1 : n < 1
  · rw [if_pos h1]; exact rdiv_none w m s n h1
  · rw [if_neg h1]
    obtain ⟨k, rfl⟩ : ∃ k : Nat, s = k := ⟨s.toNat, by have := h.2.2.1; omega⟩
    obtain ⟨N, rfl⟩ : ∃ k : Nat, n = k := ⟨n.toNat, by omega⟩
    exact rdiv_some w m k N h (by omega) (by omega)
theorem divP_cases (m s n : Int) : ∃ (vm vs : Int) (vb : Bool), divP m s n = .tuple #[.agg #[.int .i64 vm, .int .i64 vs], .bool vb] ∧ (n < 1 → vb = false) := by
  unfold divP
  by_cases h : n < 1
  · rw [if_pos h]; exact ⟨0, 0, false, rfl, fun _ => rfl⟩
  · rw [if_neg h]
    obtain ⟨vm, vs, vb, hv⟩ := decP_cases (nrm (sgnI (decide (m < 0)) (divQ m s.toNat n.toNat)) 6)
    exact ⟨vm, vs, vb, hv, fun h' => absurd h' h⟩

theorem nrm_le : ∀ (k : Nat) (n : Int), (nrm n k).1.natAbs ≤ n.natAbs
  | 0, n => Nat.le_refl _
  | k + 1, n => by
    by_cases h : n % 10 = 0
    · rw [nrm_go (k + 1) (by omega) h]
      exact Nat.le_trans (nrm_le k (n / 10)) (by omega)
    · rw [nrm_stay _ _ h]; exact Nat.le_refl _
/-- what is not too great is a decimal of that number. -/
theorem dec_fits {Z : Int} (h : Z.natAbs ≤ 999999999999999) : ∃ vm vs : Int, decP (nrm Z 6) = .tuple #[.agg #[.int .i64 vm, .int .i64 vs], .bool true] ∧ GoodD vm vs ∧ sixI vm vs.toNat = Z := by
  have g := nrm_good 6 Z h (Nat.le_refl _)
  have e := dec_self g
  rw [Int.toNat_natCast] at e
  exact ⟨_, _, e, dec_of e⟩
theorem mul_six {v Z K : Int} {s : Nat} (hs : s ≤ 6) (h : sixI v s = Z) : nrm (v * K) s = nrm (Z * K) 6 := by
  have := nrm_ten (v * K) (6 - s) s
  rw [show s + (6 - s) = 6 by omega] at this
  rw [← this, ← h]
  unfold sixI
  rw [Int.mul_right_comm]
/-- what is left behind a quotient times its divisor. -/
theorem rest_small {b : Bool} {M K : Nat} (hK : 0 < K) : (sgnI b (M : Int) + -(sgnI b ((M / K : Nat) : Int) * K)).natAbs < K ∧ (sgnI b ((M / K : Nat) : Int) * (K : Int)).natAbs ≤ M := by
  have h1 := Nat.div_add_mod M K
  have h2 := Nat.mod_lt M hK
  have h3 : ((M / K : Nat) : Int) * (K : Int) = ((K * (M / K) : Nat) : Int) := by rw [Int.natCast_mul, Int.mul_comm]
  cases b
  · show ((M : Int) + -(((M / K : Nat) : Int) * K)).natAbs < K ∧ (((M / K : Nat) : Int) * (K : Int)).natAbs ≤ M
    rw [h3]
    generalize K * (M / K) = z at *
    omega
  · show (-(M : Int) + -(-((M / K : Nat) : Int) * K)).natAbs < K ∧ (-((M / K : Nat) : Int) * (K : Int)).natAbs ≤ M
    rw [Int.neg_mul, h3]
    generalize K * (M / K) = z at *
    omega
theorem six_sign {v : Int} {s : Nat} : (sixI v s < 0 ↔ v < 0) := by
  unfold sixI
  have hp : (0 : Int) < ((10 ^ (6 - s) : Nat) : Int) := by
    have := Nat.pow_pos (n := 6 - s) (show 0 < 10 by decide)
    omega
  generalize ((10 ^ (6 - s) : Nat) : Int) = p at hp
  constructor
  · intro h
    rcases Int.lt_or_le v 0 with h0 | h0
    · exact h0
    · have := Int.mul_nonneg h0 (Int.le_of_lt hp); omega
  · intro h; exact Int.mul_neg_of_neg_of_pos h hp
theorem six_abs (m : Int) (k : Nat) : sixI m k = sgnI (decide (m < 0)) ((m.natAbs * 10 ^ (6 - k) : Nat) : Int) := by
  unfold sixI
  by_cases h : m < 0
  · rw [decide_eq_true h]
    show _ = -_
    rw [Int.natCast_mul, ← Int.neg_mul]
    congr 1
    omega
  · rw [decide_eq_false h]
    show _ = ((_ : Nat) : Int)
    rw [Int.natCast_mul]
    congr 1
    omega

/-- one decimal by a small number: the quotient, it times the divisor, what is left, all are decimals; and that is little. -/
theorem divs_chain {m : Int} {s K : Nat} (h : GoodD m (s : Int)) (hm : m.natAbs ≤ 999999) (hK : 0 < K) (hK2 : K ≤ 50) :
    ∃ vx sx vb sb vr sr : Int, divP m (s : Int) (K : Int) = .tuple #[.agg #[.int .i64 vx, .int .i64 sx], .bool true] ∧ GoodD vx sx ∧
      decP (nrm (vx * (K : Int)) (sx.toNat + (0 : Int).toNat)) = .tuple #[.agg #[.int .i64 vb, .int .i64 sb], .bool true] ∧ GoodD vb sb ∧
      decP (nrm (sixI m s + sixI (-vb) sb.toNat) 6) = .tuple #[.agg #[.int .i64 vr, .int .i64 sr], .bool true] ∧ GoodD vr sr ∧
      (vr < 0 → cmpI (sixI (-vr) sr.toNat) 50 = -1) ∧ (¬ vr < 0 → cmpI (sixI vr sr.toNat) 50 = -1) := by
  have hs := h.le6
  obtain ⟨M, hM⟩ : ∃ M, M = m.natAbs * 10 ^ (6 - s) := ⟨_, rfl⟩
  have hMb : M ≤ 999999000000 := by
    rw [hM]
    exact Nat.le_trans (Nat.mul_le_mul hm (Nat.pow_le_pow_right (by decide) (show 6 - s ≤ 6 by omega))) (by decide)
  obtain ⟨r1, r2⟩ := rest_small (b := decide (m < 0)) (M := M) hK
  obtain ⟨Z, hZ⟩ : ∃ Z, Z = sgnI (decide (m < 0)) ((M / K : Nat) : Int) := ⟨_, rfl⟩
  have hZb : Z.natAbs ≤ 999999999999999 := by
    have : M / K ≤ M := Nat.div_le_self _ _
    rw [hZ]
    generalize M / K = q at *
    unfold sgnI
    split <;> omega
  rw [← hZ] at r1 r2
  obtain ⟨vx, sx, x1, x2, x3⟩ := dec_fits hZb
  obtain ⟨vb, sb, b1, b2, b3⟩ := dec_fits (Z := Z * K) (by omega)
  have hB : sixI m s = sgnI (decide (m < 0)) (M : Int) := by rw [six_abs, ← hM]
  rw [← hB] at r1
  have hR : (sixI m s + sixI (-vb) sb.toNat).natAbs < K := by rw [six_neg, b3]; exact r1
  obtain ⟨vr, sr, c1, c2, c3⟩ := dec_fits (Z := sixI m s + sixI (-vb) sb.toNat) (by omega)
  refine ⟨vx, sx, vb, sb, vr, sr, ?_, x2, ?_, b2, c1, c2, ?_, ?_⟩
  · unfold divP
    rw [if_neg (by omega), Int.toNat_natCast, Int.toNat_natCast, ← x1, hZ, hM]
    rfl
  · rw [show sx.toNat + (0 : Int).toNat = sx.toNat from rfl, mul_six (by have := x2.2.2.2.1; omega) x3, b1]
  · intro hn
    have := (six_sign (v := vr) (s := sr.toNat)).2 hn
    rw [six_neg, c3]
    rw [c3] at this
    generalize sixI m s + sixI (-vb) sb.toNat = R at *
    unfold cmpI
    rw [if_pos (by omega)]
  · intro hn
    have : ¬ sixI vr sr.toNat < 0 := fun h => hn ((six_sign (v := vr) (s := sr.toNat)).1 h)
    rw [c3]
    rw [c3] at this
    generalize sixI m s + sixI (-vb) sb.toNat = R at *
    unfold cmpI
    rw [if_pos (by omega)]
end Go.Proofs.YtodhklapikfpoaaDoor
