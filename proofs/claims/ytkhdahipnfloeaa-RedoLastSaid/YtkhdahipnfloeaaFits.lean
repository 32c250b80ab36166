/- triadref3's fits. -/
import Derived.Test.YtkhdahipnfloeaaPus
import Derived.Deep.RegionHeld3
import Derived.BigQuiet
import Derived.Deep.QuietTactic
namespace Go.Proofs.Ytkhdahipnfloeaa
open Go.RowKit
set_option maxRecDepth 100000

theorem draws {B : Nat} {a w : World} (h : Below B a w) (n : Nat) : Below B a (w.drewN n) := ⟨h.os, h.tape, h.output, h.size, h.block⟩

/-- What fits has seen of the first k pages. -/
def OkTo (n : Nat) (l : Pages) (k : Nat) : Prop := ∀ i (hi : i < l.length), i < k → 401 ≤ l[i].1 ∧ l[i].1 < n ∧ l[i].2.length ≤ 504 ∧ ∀ j (hj : j < i), l[j].1 ≠ l[i].1

theorem okTo_all {n : Nat} {l : Pages} (h : OkTo n l l.length) (h0 : l.length ≠ 0) (h4 : l.length ≤ 400) : fitsOf n l = 0 := by
  rw [fits_iff]
  refine ⟨h0, h4, fun p hp => ?_, ?_⟩
  · obtain ⟨i, hi, rfl⟩ := List.getElem_of_mem hp
    exact ⟨(h i hi hi).1, (h i hi hi).2.1, (h i hi hi).2.2.1⟩
  · rw [List.Nodup, List.pairwise_iff_getElem]
    intro j i hj hi hji
    have hi' : i < l.length := by simpa using hi
    have := (h i hi' hi').2.2.2 j hji
    simpa using this
theorem fits_bad {n : Nat} {l : Pages} {i : Nat} (hi : i < l.length) (h4 : l.length ≤ 400) (h : ¬ (401 ≤ l[i].1 ∧ l[i].1 < n ∧ l[i].2.length ≤ 504)) : fitsOf n l = 1 := by
  unfold fitsOf
  rw [if_neg (by omega), if_neg (by omega), if_neg]
  intro ho
  simp only [okPages, Bool.and_eq_true, List.all_eq_true, decide_eq_true_eq] at ho
  have := ho.1 _ (List.getElem_mem hi)
  exact h ⟨this.1.1, this.1.2, this.2⟩
theorem fits_twice {n : Nat} {l : Pages} {j i : Nat} (hi : i < l.length) (hj : j < i) (h4 : l.length ≤ 400) (h : l[j].1 = l[i].1) : fitsOf n l = 1 := by
  unfold fitsOf
  rw [if_neg (by omega), if_neg (by omega), if_neg]
  intro ho
  simp only [okPages, Bool.and_eq_true, decide_eq_true_eq] at ho
  have := ho.2
  rw [List.Nodup, List.pairwise_iff_getElem] at this
  exact this j i (by simp; omega) (by simpa using hi) hj (by simpa using h)

set_option maxHeartbeats 1000000 in
theorem rfits_any (v : Value) (l : Pages) (S : Nat → Prop) (w w1 : World) (Q : Nat → Prop) (x : Nat) (A : Ab) (h : RkTo w Q w1 x A) (hp : Pus w1 S v l) :
    Calls Try.prog 40 #[.pointer (some ⟨x, 0, none⟩), v] w1 fun e w' => e = .returned (.int .i64 (fitsOf A.now.length l)) ∧ Below w1.heap.size w1 w' := by
  obtain ⟨ao, cap, rfl, hc1, hc2, hE⟩ := hp
  have hc2' : cap ≤ 9223372036854775807 := hc2
  obtain ⟨N, hN⟩ : ∃ N, N = A.now.length := ⟨_, rfl⟩
  rw [← hN]
  by_cases h0 : l.length = 0
  · have e : fitsOf N l = 1 := by unfold fitsOf; rw [if_pos h0]
    rw [e, h0]
    clear h hE
    go_enter Try.func40, Try.ntmps40
    go_wp2
    go_ret
    exact ⟨rfl, Below.refl _ _⟩
  by_cases h4 : 400 < l.length
  · have e : fitsOf N l = 4 := by unfold fitsOf; rw [if_neg h0, if_pos h4]
    rw [e]
    have h0' : (l.length : Int) ≠ 0 := by omega
    have h4' : (400 : Int) < l.length := by omega
    clear h hE
    go_enter Try.func40, Try.ntmps40
    go_wp2
    go_ret
    exact ⟨rfl, Below.refl _ _⟩
  obtain ⟨n, hn⟩ : ∃ n, n = l.length := ⟨_, rfl⟩
  have HE := Lib.hid hE
  have HN := Lib.hid hn
  have H4 := Lib.hid h4
  have H0 := Lib.hid h0
  have HNN := Lib.hid hN
  have HX := Lib.hid h
  rw [← hn] at hc1 ⊢
  have h0' : (n : Int) ≠ 0 := by omega
  have h4' : ¬ (400 : Int) < n := by omega
  clear hE hn hc2 h0 h4 hN h
  go_enter Try.func40, Try.ntmps40
  go_wp2_with fail
  go_loopw [5, 6] (fun i _ wr => ∃ k : Nat, k ≤ n ∧ i = .int .i64 k ∧ Below w1.heap.size w1 wr ∧ OkTo N l k) (fun i _ _ => n - (intOf i).toNat)
  case atStart => exact ⟨0, Nat.zero_le _, rfl, Below.refl _ _, fun i hi h => absurd h (Nat.not_lt_zero _)⟩
  case round =>
    obtain ⟨k, hk, rfl, hb, hO⟩ := hrel
    have HO := Lib.hid hO
    have HB := Lib.hid hb
    clear hO
    by_cases hlt : k < n
    · have hkl : k < l.length := by rw [← HN.out]; exact hlt
      obtain ⟨b, off, rfl, hSb, hA⟩ := HE.out k hkl
      obtain ⟨c0, u, c1, hbs, -⟩ := hA.moved hSb (Moved.of_below hb (fun _ => False)) (fun _ _ h => h)
      obtain ⟨bo, bc, rfl, hb1, hb2, -⟩ := hbs
      have hb2' : bc ≤ 9223372036854775807 := hb2
      obtain ⟨m1, hm1⟩ : ∃ m, m = l[k].2.length := ⟨_, rfl⟩
      obtain ⟨at1, hat⟩ : ∃ m, m = l[k].1 := ⟨_, rfl⟩
      rw [← hm1] at c1 hb1
      rw [← hat] at c0
      have HM1 := Lib.hid hm1
      have HAT := Lib.hid hat
      clear hm1 hb2 hat hb hA hSb
      have key : ∀ nq, Calls Try.prog 45 #[.pointer (some ⟨x, 0, none⟩)] (World.drewN wr nq) fun e w' => e = .returned (.int .i64 (N : Int)) ∧ w' = World.drewN wr nq := fun nq => by
        rw [HNN.out]
        exact ro_size (HX.out.grow (draws HB.out nq))
      have bad : ¬ (401 ≤ at1 ∧ at1 < N ∧ m1 ≤ 504) → fitsOf N l = 1 := fun hn => fits_bad hkl (by have := H4.out; omega) (by rw [← HAT.out, ← HM1.out]; exact hn)
      have BAD := Lib.hid bad
      clear bad
      by_cases h1 : at1 < 401
      · have d1 : decide (at1 < 401) = true := by simpa using h1
        go_wp2_with fail
        go_quiet ((go_at_call 45; refine Calls.quiet_of_same (key _)))
        go_wp2_with fail
        go_ret
        exact ⟨by rw [BAD.out (by omega)]; rfl, draws HB.out _⟩
      have d1 : decide (at1 < 401) = false := by simpa using h1
      by_cases h2 : (N : Int) ≤ at1
      · have d2 : decide ((N : Int) ≤ at1) = true := by simpa using h2
        go_wp2_with fail
        go_quiet ((go_at_call 45; refine Calls.quiet_of_same (key _)))
        go_wp2_with fail
        go_ret
        exact ⟨by rw [BAD.out (by omega)]; rfl, draws HB.out _⟩
      have d2 : decide ((N : Int) ≤ at1) = false := by simpa using h2
      by_cases h3 : (504 : Int) < m1
      · have d3 : decide ((504 : Int) < m1) = true := by simpa using h3
        go_wp2_with fail
        go_quiet ((go_at_call 45; refine Calls.quiet_of_same (key _)))
        go_wp2_with fail
        go_ret
        exact ⟨by rw [BAD.out (by omega)]; rfl, draws HB.out _⟩
      have d3 : decide ((504 : Int) < m1) = false := by simpa using h3
      go_wp2_with fail
      go_quiet ((go_at_call 45; refine Calls.quiet_of_same (key _)))
      go_wp2_with fail
      clear BAD key c1 hb1 hb2'
      have c0' := Lib.hid c0
      have HB2 := Lib.hid (draws HB.out nq)
      have c0n : (wr.drewN nq).cell? ⟨b, off + k * 2, none⟩ = some (.int .i64 at1) := c0
      clear HB c0 c0'
      generalize wr.drewN nq = wr2 at HB2 c0n ⊢
      go_loopw [6] (fun j wz => ∃ i : Nat, i ≤ k ∧ j = .int .i64 i ∧ Below w1.heap.size w1 wz ∧ ∀ p (hp : p < l.length), p < i → l[p].1 ≠ at1) (fun j _ => k - (intOf j).toNat)
      case atStart => exact ⟨0, Nat.zero_le _, rfl, HB2.out, fun p hp h => absurd h (Nat.not_lt_zero _)⟩
      case round =>
        obtain ⟨i, hi, rfl, hb, hD⟩ := hrel
        have HD := Lib.hid hD
        have HB3 := Lib.hid hb
        clear hD
        by_cases hlt2 : i < k
        · have hil : i < l.length := by omega
          obtain ⟨b', off', e', hSb, hA⟩ := HE.out i hil
          obtain ⟨b'', off'', e'', hSb', hA'⟩ := HE.out k hkl
          simp only [Option.some.injEq, Addr.mk.injEq, and_true] at e' e''
          obtain ⟨rfl, rfl⟩ := e'
          obtain ⟨rfl, rfl⟩ := e''
          obtain ⟨q0, -⟩ := hA.moved hSb (Moved.of_below hb (fun _ => False)) (fun _ _ h => h)
          obtain ⟨r0, -⟩ := hA'.moved hSb' (Moved.of_below hb (fun _ => False)) (fun _ _ h => h)
          obtain ⟨at2, hat2⟩ : ∃ m, m = l[i].1 := ⟨_, rfl⟩
          rw [← hat2] at q0
          rw [← HAT.out] at r0
          have HAT2 := Lib.hid hat2
          clear hat2 hb hA hA' hSb hSb' c0n
          have hin : i < n := by omega
          by_cases heq : at2 = at1
          · have he : (at2 == at1) = true := by simpa using heq
            have bad : fitsOf N l = 1 := fits_twice hkl hlt2 (by have := H4.out; omega) (by rw [← HAT.out, ← HAT2.out]; exact heq)
            have BAD := Lib.hid bad
            clear bad heq
            go_wp2_with fail
            go_quiet (fail)
            go_wp2_with fail
            go_ret
            exact ⟨by rw [BAD.out]; rfl, draws HB3.out _⟩
          · have he : (at2 == at1) = false := by simpa using heq
            go_wp2_with fail
            go_quiet (fail)
            go_wp2_with fail
            go_roundw
            case rel =>
              refine ⟨i + 1, by omega, by go_num, draws HB3.out _, fun p hp hpi => ?_⟩
              by_cases e : p < i
              · exact HD.out p hp e
              · obtain rfl : p = i := by omega
                rw [← HAT2.out]; exact heq
            case measure => simp [intOf]; omega
        · obtain rfl : i = k := by omega
          go_wp2_with fail
          go_roundw
          case rel =>
            refine ⟨i + 1, by omega, by go_num, HB3.out, fun p hp hpi => ?_⟩
            by_cases e : p < i
            · exact HO.out p hp e
            · obtain rfl : p = i := by omega
              rw [← HAT.out, ← HM1.out]
              exact ⟨h1, h2, by omega, fun j hj => HD.out j (by omega) hj⟩
          case measure => simp [intOf]; omega
    · obtain rfl : k = n := by omega
      go_wp2_with fail
      go_ret
      refine ⟨?_, HB.out⟩
      rw [okTo_all (by rw [← HN.out]; exact HO.out) H0.out (by have := H4.out; omega)]
      rfl
end Go.Proofs.Ytkhdahipnfloeaa
