/- triadref13: above, whole, Neg. -/
import Derived.Test.YtcaejheaojnmmaaDoorRf
namespace Go.Proofs.YtcaejheaojnmmaaDoor
open Go.RowKit Go.Shelf Flo
set_option maxRecDepth 100000
set_option linter.unusedVariables false
set_option linter.unusedSimpArgs false

theorem equal_wid (m s m2 s2 : Int) (w : World) : (Op.equalIn 10000 64 (.agg #[.int .i64 m, .int .i64 s]) (.agg #[.int .i64 m2, .int .i64 s2])).run Tryd.prog w = .ok (m == m2 && s == s2) w := by
  cases h1 : m == m2 <;> cases h2 : s == s2
  all_goals go_simp

theorem above_any (w : World) (A B : Nat) : Calls Tryd.prog 45 #[wid A, wid B] w fun e w' => e = .returned (.int .i64 (cmpI (A : Int) (B : Int))) ∧ Below w.heap.size w w' := by
  obtain ⟨R, hR⟩ : ∃ R, R = cmpI (A : Int) (B : Int) := ⟨_, rfl⟩
  rw [← hR]
  have hc : (A < B ∧ R = -1) ∨ (A = B ∧ R = 0) ∨ (B < A ∧ R = 1) := by
    rw [hR]; unfold cmpI
    rcases Nat.lt_trichotomy A B with h | h | h
    · exact .inl ⟨h, if_pos (by omega)⟩
    · exact .inr (.inl ⟨h, by rw [if_neg (by omega), if_neg (by omega)]⟩)
    · exact .inr (.inr ⟨h, by rw [if_neg (by omega), if_pos (by omega)]⟩)
  obtain ⟨a1, ha1⟩ : ∃ a, a = ((A / 1000000000 : Nat) : Int) := ⟨_, rfl⟩
  obtain ⟨a0, ha0⟩ : ∃ a, a = ((A % 1000000000 : Nat) : Int) := ⟨_, rfl⟩
  obtain ⟨b1, hb1⟩ : ∃ a, a = ((B / 1000000000 : Nat) : Int) := ⟨_, rfl⟩
  obtain ⟨b0, hb0⟩ : ∃ a, a = ((B % 1000000000 : Nat) : Int) := ⟨_, rfl⟩
  have h1 : (a1 < b1 ∧ R = -1) ∨ (a1 = b1 ∧ a0 < b0 ∧ R = -1) ∨ (a1 = b1 ∧ a0 = b0 ∧ R = 0) ∨ (b1 < a1 ∧ R = 1) ∨ (a1 = b1 ∧ b0 < a0 ∧ R = 1) := by omega
  unfold wid
  rw [← ha1, ← ha0, ← hb1, ← hb0]
  have hE := fun w => equal_wid a1 a0 b1 b0 w
  clear ha1 ha0 hb1 hb0 hc hR
  have HB := Lib.hid (boxes2 w a1 a0 b1 b0 64 64)
  rcases h1 with ⟨h, rfl⟩ | ⟨h, h', rfl⟩ | ⟨rfl, rfl, rfl⟩ | ⟨h, rfl⟩ | ⟨h, h', rfl⟩
  · go_enter Tryd.func45, Tryd.ntmps45
    go_wp2
    go_ret
    exact ⟨rfl, HB.out.2.2⟩
  · subst h
    go_enter Tryd.func45, Tryd.ntmps45
    go_wp2
    go_ret
    exact ⟨rfl, HB.out.2.2⟩
  · have g : ¬ a0 < a0 := by omega
    have g2 : ¬ a1 < a1 := by omega
    go_enter Tryd.func45, Tryd.ntmps45
    go_wp2
    go_ret
    exact ⟨rfl, HB.out.2.2⟩
  · have g : ¬ a1 < b1 := by omega
    have g2 : (a1 == b1) = false := by simp; omega
    have g3 : (a1 != b1) = true := by simp; omega
    go_enter Tryd.func45, Tryd.ntmps45
    go_wp2
    go_ret
    exact ⟨rfl, HB.out.2.2⟩
  · subst h
    have g : ¬ a0 < b0 := by omega
    have g0 : ¬ a1 < a1 := by omega
    have g2 : (a0 == b0) = false := by simp; omega
    go_enter Tryd.func45, Tryd.ntmps45
    go_wp2
    go_ret
    exact ⟨rfl, HB.out.2.2⟩

theorem rneg_any (w : World) (m s : Int) (h : GoodD m s) : Calls Tryd.prog 19 #[.agg #[.int .i64 m, .int .i64 s]] w fun e w' => e = .returned (.agg #[.int .i64 (-m), .int .i64 s]) ∧ Below w.heap.size w w' := by
  obtain ⟨h1, h2, h3, h4, -⟩ := h
  go_enter Tryd.func19, Tryd.ntmps19
  go_wp2_with fail
  exact bodyPost_ret (v := .agg #[.int .i64 (-m), .int .i64 s]) (by simp [results, Tryd.results19, go_sem]) rfl ⟨rfl, ((Below.refl _ _).alloc (Nat.le_refl _) _).alloc (by simp) _⟩

theorem nrm_idem : ∀ (k : Nat) (n : Int), nrm (nrm n k).1 (nrm n k).2 = nrm n k
  | 0, n => rfl
  | k + 1, n => by
    by_cases h : n % 10 = 0
    · rw [nrm_go (k + 1) (by omega) h]
      exact nrm_idem k (n / 10)
    · rw [nrm_stay _ _ h]
      exact nrm_stay _ _ h
theorem nrm_neg : ∀ (k : Nat) (n : Int), nrm (-n) k = (-(nrm n k).1, (nrm n k).2)
  | 0, n => rfl
  | k + 1, n => by
    by_cases h : n % 10 = 0
    · rw [nrm_go (k + 1) (by omega) h, nrm_go (k + 1) (by omega) (show -n % 10 = 0 by omega)]
      rw [show -n / 10 = -(n / 10) by omega]
      exact nrm_neg k (n / 10)
    · rw [nrm_stay _ _ h, nrm_stay _ _ (show ¬ -n % 10 = 0 by omega)]

/-- not too great for a wide number. -/
def Under21 (N : Nat) : Prop := N ≤ 3000000000000000000000

set_option maxHeartbeats 1000000 in
theorem whole_any (w : World) (N : Nat) (b : Bool) (hN : N ≤ 3000000000000000000000) : Calls Tryd.prog 44 #[wid N, .bool b] w fun e w' => e = .returned (decP (nrm (if b then -(N : Int) else (N : Int)) 6)) ∧ Below w.heap.size w w' := by
  obtain ⟨V, hV⟩ : ∃ V, V = decP (nrm (if b then -(N : Int) else (N : Int)) 6) := ⟨_, rfl⟩
  rw [← hV]
  have HV := Lib.hid hV
  obtain ⟨vm, vs, vb, hv⟩ := decP_cases (nrm (if b then -(N : Int) else (N : Int)) 6)
  rw [← hV] at hv
  have HVT := Lib.hid hv
  clear hV hv
  have HN := Lib.hid (show Under21 N from hN)
  obtain ⟨N1, hN1⟩ : ∃ a, a = N / 1000000000 := ⟨_, rfl⟩
  obtain ⟨N0, hN0⟩ : ∃ a, a = N % 1000000000 := ⟨_, rfl⟩
  have HNN := Lib.hid (And.intro hN1 hN0)
  unfold wid
  rw [← hN1, ← hN0]
  clear hN hN1 hN0
  have HX := Lib.hid (boxes2 w (N1 : Int) (N0 : Int) 0 0 64 27)
  go_enter Tryd.func44, Tryd.ntmps44
  go_wp2_with fail
  generalize World.alloc (World.alloc w _) _ = w1 at HX ⊢
  go_loopw [6] (fun i wx => ∃ (M M1 M0 j : Nat), i = .int .i64 (j : Int) ∧ j ≤ 6 ∧ Under21 M ∧ M1 = M / 1000000000 ∧ M0 = M % 1000000000 ∧ nrm (N : Int) 6 = nrm (M : Int) j ∧ DecB wx w.heap.size (M1 : Int) (M0 : Int) ∧ DecB wx (w.heap.size + 1) 0 0 ∧ Below w.heap.size w wx) (fun i _ => (intOf i).toNat)
  case atStart => exact ⟨N, N1, N0, 6, rfl, by decide, HN.out, HNN.out.1, HNN.out.2, rfl, HX.out⟩
  case round =>
    obtain ⟨M, hi, lo, j, rfl, hj, hM, hhi, hlo, hn, hD, hD2, hB⟩ := hrel
    have HH := Lib.hid (And.intro hn (And.intro hD (And.intro hD2 hB)))
    obtain ⟨d0, d1, d2, d3, d4⟩ := hD
    have HM := Lib.hid (And.intro hhi (And.intro hlo hM))
    have hil : (hi : Int) ≤ 3000000000000 := by unfold Under21 at hM; omega
    have hll : (lo : Int) ≤ 999999999 := by omega
    clear hn hD2 hB hhi hlo hM
    by_cases hgo : 0 < j ∧ lo % 10 = 0
    · have hj0 : (0 : Int) < j := by omega
      have hl0 : (lo : Int) % 10 = 0 := by omega
      have HG := Lib.hid hgo
      clear hgo
      have HF := Lib.hid (show DecB ((wr.setCell ⟨w.heap.size, 0, none⟩ (.int .i64 ((hi : Int) / 10))).setCell ⟨w.heap.size, 1, none⟩ (.int .i64 ((lo : Int) / 10 + (hi : Int) % 10 * 100000000))) w.heap.size ((hi / 10 : Nat) : Int) ((lo / 10 + hi % 10 * 100000000 : Nat) : Int) ∧ DecB ((wr.setCell ⟨w.heap.size, 0, none⟩ (.int .i64 ((hi : Int) / 10))).setCell ⟨w.heap.size, 1, none⟩ (.int .i64 ((lo : Int) / 10 + (hi : Int) % 10 * 100000000))) (w.heap.size + 1) 0 0 ∧ Below w.heap.size w ((wr.setCell ⟨w.heap.size, 0, none⟩ (.int .i64 ((hi : Int) / 10))).setCell ⟨w.heap.size, 1, none⟩ (.int .i64 ((lo : Int) / 10 + (hi : Int) % 10 * 100000000))) from
        ⟨HH.out.2.1.set, HH.out.2.2.1.put (by omega), (HH.out.2.2.2.setCell (Nat.le_refl _) _).setCell (Nat.le_refl _) _⟩)
      go_wp2_with fail
      refine ⟨⟨M / 10, hi / 10, lo / 10 + hi % 10 * 100000000, j - 1, by congr 1; have := HG.out.1; omega, by omega, ?_, ?_, ?_, ?_, HF.out⟩, by have := HG.out.1; simp [intOf]; omega⟩
      · have := HM.out.2.2; unfold Under21 at *; omega
      · have := HM.out.1; omega
      · obtain ⟨g1, g2, -⟩ := HM.out; have := HG.out.2; omega
      · have h10 : (M : Int) % 10 = 0 := by obtain ⟨g1, g2, -⟩ := HM.out; have := HG.out.2; omega
        rw [HH.out.1, nrm_go j HG.out.1 h10]
        congr 1
    · have HP := Lib.hid (show nrm (N : Int) 6 = ((M : Int), j) by
        rw [HH.out.1]
        rcases Nat.eq_zero_or_pos j with h | h
        · rw [h]; rfl
        · exact nrm_stay _ _ (by
            have h1 : ¬ lo % 10 = 0 := fun h2 => hgo ⟨h, h2⟩
            obtain ⟨g1, g2, -⟩ := HM.out
            omega))
      have hgo2 : (j = 0) ∨ (0 < j ∧ ¬ lo % 10 = 0) := by omega
      have HV2 := Lib.hid (show V = decP (nrm (if b then -(M : Int) else (M : Int)) j) by
        have e : nrm (M : Int) j = ((M : Int), j) := by
          have := nrm_idem 6 (N : Int)
          rw [HP.out] at this
          exact this
        rw [HV.out]
        cases b
        · simp only [Bool.false_eq_true, if_false]
          rw [HP.out, e]
        · simp only [if_true]
          rw [nrm_neg, nrm_neg, HP.out, e])
      by_cases hbig : 1000000 ≤ hi
      · have hbi : (1000000 : Int) ≤ (hi : Int) := by omega
        have HO := Lib.hid (show V = .tuple #[.agg #[.int .i64 0, .int .i64 0], .bool false] by
          rw [HV.out]
          cases b
          · simp only [Bool.false_eq_true, if_false]
            rw [HP.out]; unfold decP
            rw [if_neg (by have := HM.out.1; simp [fitsL]; omega)]
          · simp only [if_true]
            rw [nrm_neg, HP.out]; unfold decP
            rw [if_neg (by have := HM.out.1; simp [fitsL]; omega)])
        obtain ⟨e0, e1, e2, e3, e4⟩ := HH.out.2.2.1
        clear hgo hbig
        rcases hgo2 with rfl | ⟨hj1, hl1⟩
        · go_wp2_with fail
          rw [HO.out]
          exact bodyPost_ret (v := .tuple #[.agg #[.int .i64 0, .int .i64 0], .bool false]) (by simp [results, Tryd.results44, go_sem, e0, e1, e2]) rfl ⟨rfl, (HH.out.2.2.2.setCell (by simp only []; omega) _).setCell (by simp only []; omega) _⟩
        · have hj1i : (0 : Int) < j := by omega
          have hl1i : ¬ (lo : Int) % 10 = 0 := by omega
          go_wp2_with fail
          rw [HO.out]
          exact bodyPost_ret (v := .tuple #[.agg #[.int .i64 0, .int .i64 0], .bool false]) (by simp [results, Tryd.results44, go_sem, e0, e1, e2]) rfl ⟨rfl, (HH.out.2.2.2.setCell (by simp only []; omega) _).setCell (by simp only []; omega) _⟩
      · have hbi : ¬ (1000000 : Int) ≤ (hi : Int) := by omega
        have hML : M ≤ 999999999999999 := by obtain ⟨g1, g2, -⟩ := HM.out; omega
        have hMe : (hi : Int) * 1000000000 + (lo : Int) = (M : Int) := by obtain ⟨g1, g2, -⟩ := HM.out; omega
        have hMi : (M : Int) ≤ 999999999999999 := by omega
        have hhs : (hi : Int) ≤ 999999 := by omega
        have HNM := Lib.hid (fun w => norm_any w (if b then -(M : Int) else (M : Int)) j (by cases b <;> simp <;> omega) (by omega))
        rw [← HV2.out, HVT.out] at HNM
        have hD2 := HH.out.2.2.1
        clear hgo hbig hML
        cases b
        all_goals simp only [Bool.false_eq_true, if_false, if_true] at HNM
        all_goals rcases hgo2 with rfl | ⟨hj1, hl1⟩
        all_goals try rw [show ((0 : Nat) : Int) = 0 from rfl] at HNM
        all_goals try have hj1i : (0 : Int) < j := by omega
        all_goals try have hl1i : ¬ (lo : Int) % 10 = 0 := by omega
        all_goals
          go_wp2_with fail
          (with_reducible refine (HNM.out _).mono ?_)
          rintro e w8 ⟨rfl, hb8⟩
          have HB8 := Lib.hid (HH.out.2.2.2.trans (hb8.mono HH.out.2.2.2.size))
          obtain ⟨q0, q1, q2, q3, q4⟩ := hD2.below hb8
          clear hb8
          go_wp2_with fail
          exact bodyPost_ret (v := .tuple #[.agg #[.int .i64 vm, .int .i64 vs], .bool vb]) (by simp [results, Tryd.results44, go_sem, q0, q1, q2]) rfl ⟨by rw [HVT.out], (HB8.out.setCell (by simp only []; omega) _).setCell (by simp only []; omega) _⟩
end Go.Proofs.YtcaejheaojnmmaaDoor
