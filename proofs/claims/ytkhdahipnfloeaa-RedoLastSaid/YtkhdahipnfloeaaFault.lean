/- redo's small functions: isHome, fault. -/
import Derived.Test.YtkhdahipnfloeaaFits
namespace Go.Proofs.Ytkhdahipnfloeaa
open Go.RowKit
set_option maxRecDepth 100000

theorem home_any (w w1 : World) (P : Nat → Prop) (r : Nat) (A : Ab) (at1 : Int) (h : DkTo w P w1 r A) :
    Calls Try.prog 58 #[.pointer (some ⟨r, 0, none⟩), .int .i64 at1] w1 fun e w' => e = .returned (.bool (decide (401 ≤ at1 ∧ at1 < A.now.length))) ∧ w' = w1 := by
  have hsz := to_size h
  obtain ⟨N, hN⟩ : ∃ N, N = A.now.length := ⟨_, rfl⟩
  rw [← hN] at hsz ⊢
  clear hN h
  by_cases h1 : 401 ≤ at1
  · rw [show decide (401 ≤ at1 ∧ at1 < (N : Int)) = decide (at1 < (N : Int)) by simp [h1]]
    go_enter Try.func58, Try.ntmps58
    go_wp2_with (go_at_call 44; refine hsz.mono ?_; rintro e w' ⟨rfl, hw⟩; replace hw := hw.symm; subst hw)
    go_ret
    exact ⟨rfl, rfl⟩
  · rw [show decide (401 ≤ at1 ∧ at1 < (N : Int)) = false by simp [h1]]
    clear hsz
    go_enter Try.func58, Try.ntmps58
    go_wp2_with fail
    go_ret
    exact ⟨rfl, rfl⟩

/-- The closure of fault: is p's place that of the page ahead? -/
theorem ahead_any (a : Int) (u : Value) (b : Nat) (at1 : Int) (w : World) (h : w.cell? ⟨b, 0, none⟩ = some (.int .i64 at1)) :
    Calls Try.prog 57 #[.agg #[.int .i64 a, u], .pointer (some ⟨b, 0, none⟩)] w fun e w' => e = .returned (.bool (a == at1)) ∧ Below w.heap.size w w' := by
  have hlt := World.block_lt_of_cell? w _ h
  go_enter Try.func57, Try.ntmps57
  go_wp2_with fail
  go_ret
  exact ⟨rfl, (Below.refl _ w).alloc (Nat.le_refl _) _⟩

theorem Pus.takes {w : World} {S : Nat → Prop} {ao : Option Addr} {n cap : Nat} {l : Pages} (h : Pus w S (.slice ao n cap) l) (k : Nat) (hk : k ≤ l.length) : Pus w S (.slice ao k cap) (l.take k) := by
  obtain ⟨ao', cap', e, h1, h2, h3⟩ := h
  simp only [Value.slice.injEq] at e
  obtain ⟨rfl, rfl, rfl⟩ := e
  have hl : (l.take k).length = k := by rw [List.length_take]; omega
  refine ⟨ao, cap, by rw [hl], by omega, h2, fun j hj => ?_⟩
  obtain ⟨b, off, e, hS, hA⟩ := h3 j (by omega)
  refine ⟨b, off, e, hS, ?_⟩
  rw [List.getElem_take]
  exact hA

theorem index_any (v : Value) (l : Pages) (S : Nat → Prop) (b : Nat) (at1 : Int) (w : World) (hp : Pus w S v l) (h : w.cell? ⟨b, 0, none⟩ = some (.int .i64 at1)) :
    Calls Try.prog 66 #[v, .func (.func 57) #[] #[.pointer (some ⟨b, 0, none⟩)]] w fun e w' =>
      (∃ j, e = .returned (.int .i64 j) ∧ decide (0 ≤ j) = l.any (fun q => q.1 == at1)) ∧ Below w.heap.size w w' := by
  obtain ⟨ao, cap, rfl, hc1, hc2, hE⟩ := hp
  have hc2' : cap ≤ 9223372036854775807 := hc2
  obtain ⟨n, hn⟩ : ∃ n, n = l.length := ⟨_, rfl⟩
  have HE := Lib.hid hE
  have HN := Lib.hid hn
  have HC := Lib.hid h
  rw [← hn] at hc1 ⊢
  clear hE hn hc2 h
  go_enter Try.func66, Try.ntmps66
  go_wp2_with fail
  go_loopw [5, 8] (fun _ i wr => ∃ k : Nat, k ≤ n ∧ i = .int .i64 k ∧ Below w.heap.size w wr ∧ (l.take k).any (fun q => q.1 == at1) = false) (fun _ i _ => n - (intOf i).toNat)
  case atStart => exact ⟨0, Nat.zero_le _, rfl, Below.refl _ _, by simp⟩
  case round =>
    obtain ⟨k, hk, rfl, hb, hno⟩ := hrel
    have HB := Lib.hid hb
    have HNO := Lib.hid hno
    clear hb hno
    by_cases hlt : k < n
    · have hkl : k < l.length := by rw [← HN.out]; exact hlt
      obtain ⟨g, off, rfl, hSb, hA⟩ := HE.out k hkl
      obtain ⟨c0, u, c1, -⟩ := hA.moved hSb (Moved.of_below HB.out (fun _ => False)) (fun _ _ h => h)
      have hc := (HB.out.cell (p := ⟨b, 0, none⟩) (World.block_lt_of_cell? _ _ HC.out)).trans HC.out
      obtain ⟨at2, hat⟩ : ∃ m : Int, m = l[k].1 := ⟨_, rfl⟩
      rw [← hat] at c0
      have hnext : (l.take (k + 1)).any (fun q => q.1 == at1) = (at2 == at1) := by
        rw [List.take_succ_eq_append_getElem hkl, List.any_append, HNO.out, hat]
        simp
      have HNX := Lib.hid hnext
      have hcall := ahead_any at2 u b at1 wr hc
      clear hat hnext hA hSb
      go_wp2_with fail
      refine hcall.mono ?_
      rintro e w2 ⟨rfl, hb2⟩
      have HB2 := Lib.hid (HB.out.trans (hb2.mono HB.out.size))
      clear hcall hb2 HB
      cases heq : (at2 == at1)
      · go_wp2_with fail
        go_roundw
        case rel => exact ⟨k + 1, by omega, by go_num, HB2.out, by rw [HNX.out]; exact heq⟩
        case measure => simp [intOf]; omega
      · go_wp2_with fail
        go_ret
        refine ⟨⟨_, rfl, ?_⟩, HB2.out⟩
        have hany : l.any (fun q => q.1 == at1) = true := by
          have h1 := HNX.out
          rw [heq, List.any_eq_true] at h1
          obtain ⟨q, hq, e⟩ := h1
          rw [List.any_eq_true]
          exact ⟨q, List.mem_of_mem_take hq, e⟩
        rw [hany]
        simp
    · obtain rfl : k = n := by omega
      go_wp2_with fail
      go_ret
      refine ⟨⟨_, rfl, ?_⟩, HB.out⟩
      have := HNO.out
      rw [HN.out, List.take_length] at this
      rw [this]
      rfl

theorem contains_any (v : Value) (l : Pages) (S : Nat → Prop) (b : Nat) (at1 : Int) (w : World) (hp : Pus w S v l) (h : w.cell? ⟨b, 0, none⟩ = some (.int .i64 at1)) :
    Calls Try.prog 56 #[v, .func (.func 57) #[] #[.pointer (some ⟨b, 0, none⟩)]] w fun e w' =>
      e = .returned (.bool (l.any (fun q => q.1 == at1))) ∧ Below w.heap.size w w' := by
  have hix := index_any v l S b at1 w hp h
  obtain ⟨ao, cap, rfl, -⟩ := hp
  clear h
  go_enter Try.func56, Try.ntmps56
  go_wp2_with fail
  refine hix.mono ?_
  rintro e w2 ⟨⟨j, rfl, hj⟩, hb⟩
  go_wp2_with fail
  go_ret
  rw [← hj]
  exact ⟨rfl, hb⟩

set_option maxHeartbeats 1000000 in
theorem fault2_any (v : Value) (l : Pages) (S : Nat → Prop) (w w1 : World) (P : Nat → Prop) (r : Nat) (A : Ab) (h : DkTo w P w1 r A) (hp : Pus w1 S v l) :
    Calls Try.prog 33 #[.pointer (some ⟨r, 0, none⟩), v] w1 fun e w' => e = .returned (.int .i64 (fitsOf A.now.length l)) ∧ Below w1.heap.size w1 w' := by
  have hp' := hp
  obtain ⟨ao, cap, rfl, hc1, hc2, hE⟩ := hp
  have hc2' : cap ≤ 9223372036854775807 := hc2
  obtain ⟨N, hN⟩ : ∃ N, N = A.now.length := ⟨_, rfl⟩
  rw [← hN]
  by_cases h0 : l.length = 0
  · have e : fitsOf N l = 1 := by unfold fitsOf; rw [if_pos h0]
    rw [e, h0]
    clear h hE
    go_enter Try.func33, Try.ntmps33
    go_wp2
    go_ret
    exact ⟨rfl, Below.refl _ _⟩
  by_cases h4 : 400 < l.length
  · have e : fitsOf N l = 4 := by unfold fitsOf; rw [if_neg h0, if_pos h4]
    rw [e]
    have h0' : (l.length : Int) ≠ 0 := by omega
    have h4' : (400 : Int) < l.length := by omega
    clear h hE
    go_enter Try.func33, Try.ntmps33
    go_wp2
    go_ret
    exact ⟨rfl, Below.refl _ _⟩
  obtain ⟨n, hn⟩ : ∃ n, n = l.length := ⟨_, rfl⟩
  have HE := Lib.hid hE
  have HP := Lib.hid hp'
  have HN := Lib.hid hn
  have H4 := Lib.hid h4
  have H0 := Lib.hid h0
  have HNN := Lib.hid hN
  have HX := Lib.hid h
  rw [← hn] at hc1 HP ⊢
  have h0' : (n : Int) ≠ 0 := by omega
  have h4' : ¬ (400 : Int) < n := by omega
  clear hE hn hc2 h0 h4 hN h hp'
  go_enter Try.func33, Try.ntmps33
  go_wp2_with fail
  go_loopw [5, 6, 7, 16] (fun _ _ _ i wr => ∃ k : Nat, k ≤ n ∧ i = .int .i64 k ∧ Below w1.heap.size w1 wr ∧ OkTo N l k) (fun _ _ _ i _ => n - (intOf i).toNat)
  case atStart => exact ⟨0, Nat.zero_le _, rfl, Below.refl _ _, fun i hi h => absurd h (Nat.not_lt_zero _)⟩
  case round =>
    obtain ⟨k, hk, rfl, hb, hO⟩ := hrel
    have HO := Lib.hid hO
    have HB := Lib.hid hb
    clear hO
    by_cases hlt : k < n
    · have hkl : k < l.length := by rw [← HN.out]; exact hlt
      obtain ⟨b, off, rfl, hSb, hA⟩ := HE.out k hkl
      obtain ⟨c0, u, c1, hbs, -⟩ := hA.moved hSb (Moved.of_below hb (fun _ => False)) (fun _ _ h => h)
      obtain ⟨bo, bc, rfl, hb1, hb2, -⟩ := hbs
      have hb2' : bc ≤ 9223372036854775807 := hb2
      obtain ⟨m1, hm1⟩ : ∃ m, m = l[k].2.length := ⟨_, rfl⟩
      obtain ⟨at1, hat⟩ : ∃ m, m = l[k].1 := ⟨_, rfl⟩
      rw [← hm1] at c1 hb1
      rw [← hat] at c0
      have HM1 := Lib.hid hm1
      have HAT := Lib.hid hat
      have hpt := (HP.out.moved (Moved.of_below hb (fun _ => False)) (fun _ _ h => h)).takes k (by omega)
      have HPT := Lib.hid hpt
      clear hm1 hb2 hat hb hA hSb hpt
      obtain ⟨B, hB⟩ : ∃ B, B = (l.take k).any (fun q => q.1 == at1) := ⟨_, rfl⟩
      have HBB := Lib.hid hB
      clear hB
      have hal : Below wr.heap.size wr (wr.alloc (.cells #[.int .i64 at1, .slice bo m1 bc] 56)) := (Below.refl _ wr).alloc (Nat.le_refl _) _
      have hbk := Blk.new wr #[.int .i64 at1, .slice bo m1 bc] 56
      have hcall := contains_any _ (l.take k) S wr.heap.size at1 _ (HPT.out.below hal) (hbk.cell 0)
      rw [← HBB.out] at hcall
      have HCL := Lib.hid hcall
      have HAL := Lib.hid hal
      have HBK := Lib.hid hbk
      clear hal hbk hcall
      go_wp2_with fail
      refine HCL.out.mono ?_
      rintro e w2 ⟨rfl, hb2⟩
      have d0 : w2.cell? ⟨wr.heap.size, 0, none⟩ = some (.int .i64 at1) := (hb2.cell (by simp)).trans (HBK.out.cell 0)
      have d1 : w2.cell? ⟨wr.heap.size, 1, none⟩ = some (.slice bo m1 bc) := (hb2.cell (by simp)).trans (HBK.out.cell 1)
      have HB2 := Lib.hid (HB.out.trans ((HAL.out.trans (hb2.mono HAL.out.size)).mono HB.out.size))
      have hhome := home_any w w2 P r A at1 (HX.out.grow HB2.out)
      rw [← HNN.out] at hhome
      have HH := Lib.hid hhome
      clear hb2 hhome HAL HBK HCL HB c0 c1
      generalize wr.heap.size = pb at d0 d1 ⊢
      cases B
      · by_cases h1 : 401 ≤ at1 ∧ at1 < N
        · have dd : decide (401 ≤ at1 ∧ at1 < (N : Int)) = true := by simpa using h1
          have HH1 := Lib.hid h1
          rw [dd] at HH
          clear h1 dd
          by_cases h3 : (504 : Int) < m1
          · have d3 : decide ((504 : Int) < m1) = true := by simpa using h3
            have bad : fitsOf N l = 1 := fits_bad hkl (by have := H4.out; omega) (by rw [← HAT.out, ← HM1.out]; omega)
            have BAD := Lib.hid bad
            clear bad
            go_wp2_with (go_at_call 58; refine HH.out.mono ?_; rintro e wz ⟨rfl, hwz⟩; replace hwz := hwz.symm; subst hwz)
            go_ret
            exact ⟨by rw [BAD.out]; rfl, HB2.out⟩
          · have d3 : decide ((504 : Int) < m1) = false := by simpa using h3
            go_wp2_with (go_at_call 58; refine HH.out.mono ?_; rintro e wz ⟨rfl, hwz⟩; replace hwz := hwz.symm; subst hwz)
            go_roundw
            case rel =>
              refine ⟨k + 1, by omega, by go_num, HB2.out, fun p hp hpi => ?_⟩
              by_cases e : p < k
              · exact HO.out p hp e
              · obtain rfl : p = k := by omega
                rw [← HAT.out, ← HM1.out]
                refine ⟨HH1.out.1, HH1.out.2, by omega, fun j hj e => ?_⟩
                have hB := HBB.out
                have : (l.take p).any (fun q => q.1 == at1) = true := by
                  rw [List.any_eq_true]
                  refine ⟨l[j], ?_, by simpa using e⟩
                  rw [List.mem_take_iff_getElem]
                  exact ⟨j, by omega, rfl⟩
                rw [this] at hB
                exact absurd hB (by decide)
            case measure => simp [intOf]; omega
        · have dd : decide (401 ≤ at1 ∧ at1 < (N : Int)) = false := by simpa using h1
          rw [dd] at HH
          have bad : fitsOf N l = 1 := fits_bad hkl (by have := H4.out; omega) (by rw [← HAT.out, ← HM1.out]; omega)
          have BAD := Lib.hid bad
          clear bad h1 dd
          go_wp2_with (go_at_call 58; refine HH.out.mono ?_; rintro e wz ⟨rfl, hwz⟩; replace hwz := hwz.symm; subst hwz)
          go_ret
          exact ⟨by rw [BAD.out]; rfl, HB2.out⟩
      · have hany := HBB.out.symm
        rw [List.any_eq_true] at hany
        obtain ⟨q, hq, e⟩ := hany
        rw [List.mem_take_iff_getElem] at hq
        obtain ⟨j, hj, rfl⟩ := hq
        have bad : fitsOf N l = 1 := fits_twice hkl (j := j) (by omega) (by have := H4.out; omega) (by rw [← HAT.out]; simpa using e)
        have BAD := Lib.hid bad
        clear bad e hj HH
        go_wp2_with fail
        go_ret
        exact ⟨by rw [BAD.out]; rfl, HB2.out⟩
    · obtain rfl : k = n := by omega
      go_wp2_with fail
      go_ret
      refine ⟨?_, HB.out⟩
      rw [okTo_all (by rw [← HN.out]; exact HO.out) H0.out (by have := H4.out; omega)]
      rfl
end Go.Proofs.Ytkhdahipnfloeaa
