/- The walk of the law PagerGivesUp. -/
import Derived.Test.YtcnfnpccbnnplaaR4r
namespace Go.Proofs.Ytcnfnpccbnnplaa
open Go.RowKit Go.Maps
set_option maxRecDepth 100000
set_option linter.unusedVariables false

/-- Another reference at x, beside the blocks K that are its own. -/
def XAt (w0 w : World) (K : Nat → Prop) (x N : Nat) (S : PS) (T : Option PS) : Prop := Rp w K x N S T ∧ ∀ k, K k → w0.heap.size ≤ k
theorem XAt.moved {w0 w w' : World} {K : Nat → Prop} {x N : Nat} {S : PS} {T : Option PS} (h : XAt w0 w K x N S T) (hm : Mx w0 K w w') : XAt w0 w' K x N S T :=
  ⟨h.1.moved hm (fun k hk e => e.2 hk), h.2⟩
theorem Pr.news {w0 w w' : World} {x y r p N c : Nat} {S : PS} {T : Option PS} {G : Lg} {H : Option Lg} (h : Pr w0 w x r p N c S T G H) (hy : Rp w' (fun k => w.heap.size ≤ k ∧ k < w'.heap.size) y N PS.new none) (hb : Below w.heap.size w w') :
    ∃ K, PrK w0 w' K y r p N c PS.new none G H ∧ XAt w0 w' K x N S T := by
  have hs := h.size
  obtain ⟨Q, h1, h2, h3⟩ := h
  have hsz := hb.size
  refine ⟨Q, ⟨_, fun k hk => ⟨fun e => ?_, h3 k hk, ?_⟩, hy, (h2.take hb).less (fun k hk => hk.symm), fun k hk => by omega⟩, h1.moved (Moved.of_below hb (fun _ => False)) (fun _ _ h => h), h3⟩
  · have := h2.lt k hk; omega
  · have := h2.lt k hk; omega
theorem PrK.join {w0 w : World} {K : Nat → Prop} {x y r p N c : Nat} {S S' : PS} {T T' : Option PS} {G : Lg} {H : Option Lg} (h : PrK w0 w K y r p N c S' T' G H) (hx : XAt w0 w K x N S T) : Pr w0 w x r p N c S T G H := by
  obtain ⟨Q, h0, h1, h2, h3⟩ := h
  exact ⟨K, hx.1, h2.less (fun _ h => .inr h), hx.2⟩

set_option maxHeartbeats 4000000 in
theorem gives_walk (v v2 : Value) (l l2 : Acts) (w : World) (hv : Acs w (fun g => g < w.heap.size) v l) (hv2 : Acs w (fun g => g < w.heap.size) v2 l2) :
    Calls Try.prog 4 #[v, v2] w fun e w' => e = .returned (.bool true) ∧ Below w.heap.size w w' := by
  obtain ⟨ao, cap, rfl, hc1, hc2⟩ := hv.cells
  have hc2' : cap ≤ 9223372036854775807 := hc2
  obtain ⟨bo, bap, rfl, hd1, hd2⟩ := hv2.cells
  have hd2' : bap ≤ 9223372036854775807 := hd2
  obtain ⟨n, hn⟩ : ∃ n, n = l.length := ⟨_, rfl⟩
  obtain ⟨m, hm⟩ : ∃ m, m = l2.length := ⟨_, rfl⟩
  have HV := Lib.hid hv
  have HN := Lib.hid hn
  have HV2 := Lib.hid hv2
  have HM := Lib.hid hm
  rw [← hn] at hc1 HV ⊢
  rw [← hm] at hd1 HV2 ⊢
  clear hv hn hc2 hv2 hm hd2
  go_enter Try.func4, Try.ntmps4
  go_wp2_with fail
  refine (known4_any w).mono ?_
  rintro e w0 ⟨rfl, h0⟩
  have H0 := Lib.hid h0
  have hfew := few_any (HV.out.below h0)
  have HFEW := Lib.hid hfew
  have hfew2 := few_any (HV2.out.below h0)
  have HFEW2 := Lib.hid hfew2
  clear h0 hfew hfew2
  go_wp2_with fail
  refine HFEW.out.mono ?_
  rintro e w1 ⟨t, rfl, he, hok⟩
  replace he := he.symm
  subst he
  clear HFEW
  cases t with
  | false =>
    clear hok HFEW2
    go_wp2_with fail
    go_ret
    exact ⟨rfl, H0.out⟩
  | true =>
    have HOK := Lib.hid (hok rfl)
    have hn60 : n ≤ 60 := by have := (hok rfl).1; have := HN.out; omega
    clear hok
    go_wp2_with fail
    refine HFEW2.out.mono ?_
    rintro e w1 ⟨t, rfl, he, hok⟩
    replace he := he.symm
    subst he
    clear HFEW2
    cases t with
    | false =>
      clear hok
      go_wp2_with fail
      go_ret
      exact ⟨rfl, H0.out⟩
    | true =>
      have HOK2 := Lib.hid (hok rfl)
      have hm60 : m ≤ 60 := by have := (hok rfl).1; have := HM.out; omega
      clear hok
      go_wp2_with fail
      refine (nd_new (w0 := w) (X := NoX) 412 412 (by omega) (by omega) (by omega) H0.out (nox_lt _)).mono ?_
      rintro e w1 ⟨r, rfl, h1, -⟩
      rw [show 412 = 401 + 11 by omega] at h1
      have H1 := Lib.hid h1
      clear h1
      go_wp2_with fail
      refine (nd_open (N := 11) H1.out (by omega) (by omega)).mono ?_
      rintro e w2 ⟨p, rfl, h2, -⟩
      have H2 := Lib.hid h2
      clear h2
      go_wp2_with fail
      refine (rmade_any 412 (by omega) (by omega) 412 (by omega) w2).mono ?_
      rintro e w3 ⟨x, rfl, hrp, hb3⟩
      have HPR := Lib.hid (Pr.begun H2.out hrp hb3)
      have hrl0 : Rl 11 PS.new none (Lg.new 11) none := ⟨RelS.new (by omega), trivial⟩
      have HRL0 := Lib.hid hrl0
      clear hrp hb3 hrl0 H0 H1 H2
      go_wp2_with fail
      have k1 := HPR.out.pager (R := fun e => e = .returned (.int .i64 0)) (fun X hX => ps_begin hX)
      have K1 := Lib.hid k1
      clear k1
      refine K1.out.mono ?_
      rintro e w4 ⟨rfl, h4⟩
      have H4 := Lib.hid h4
      clear h4 K1
      go_wp2_with fail
      have k2 := H4.out.refers (C := fun S' T' => Rl 11 S' T' (Lg.new 11) (some (Lg.new 11))) (R := fun e => e = .returned (.int .i64 0)) (fun Q hQ => rbegin_rel hQ HRL0.out)
      have K2 := Lib.hid k2
      clear k2
      refine K2.out.mono ?_
      rintro e w5 ⟨rfl, S5, T5, hr5, h5⟩
      have HA := Lib.hid h5
      have HAR := Lib.hid hr5
      clear h5 hr5 K2 H4
      go_wp2_with fail
      go_loopw [9, 10] (fun i _ wr => ∃ (k : Nat) (S : PS) (T : Option PS) (G : Lg) (H : Option Lg), k ≤ n ∧ i = .int .i64 k ∧ Rl 11 S T G H ∧ H.isSome = true ∧ Pr w wr x r p 11 k S T G H) (fun i _ _ => n - (intOf i).toNat)
      case atStart => exact ⟨0, _, _, _, _, Nat.zero_le _, rfl, HAR.out, rfl, HA.out⟩
      case round =>
        obtain ⟨k, S, T, G, H, hk, rfl, hrl, hsm, hpr⟩ := hrel
        have HSM := Lib.hid hsm
        have HRL := Lib.hid hrl
        have HP := Lib.hid hpr
        clear hrl hpr hsm
        by_cases hlt : k < n
        · have hkl : k < l.length := by rw [← HN.out]; exact hlt
          obtain ⟨ao', cap', hsl, -, -, hE⟩ := HV.out.below HP.out.below
          rw [← HN.out] at hsl
          simp only [Value.slice.injEq, true_and] at hsl
          obtain ⟨rfl, rfl⟩ := hsl
          obtain ⟨b, off, rfl, -, c0, c1, hwf, u, c2, hu, hub⟩ := hE k hkl
          have hbl := HOK.out.2 k hkl
          obtain ⟨kd, hkd⟩ : ∃ y, y = l[k].1 := ⟨_, rfl⟩
          obtain ⟨z, hz⟩ : ∃ y, y = l[k].2.1 := ⟨_, rfl⟩
          obtain ⟨bs, hbs⟩ : ∃ y, y = l[k].2.2 := ⟨_, rfl⟩
          rw [← hkd] at c0
          rw [← hz] at c1 hwf
          rw [← hbs] at hu hub hbl
          obtain ⟨bo', bc', rfl, -⟩ := id hu
          have hwr := within_range kd 14 (by decide)
          have hw := within4_any kd 14 (by decide) (by decide)
          obtain ⟨q, hq⟩ : ∃ q, q = withinOf kd 14 := ⟨_, rfl⟩
          have HQ := Lib.hid hq
          rw [← hq] at hw hwr
          have HW := Lib.hid hw
          have hlt' : (k : Int) < n := by omega
          have HU := Lib.hid hu
          have HUB := Lib.hid hub
          have HBL := Lib.hid hbl
          have HWF := Lib.hid hwf
          obtain ⟨nb, hnb⟩ : ∃ nb, nb = bs.length := ⟨_, rfl⟩
          have HNB := Lib.hid hnb
          rw [← hnb] at c2
          clear hE hkd hz hbs hub hu hq hw hwf hbl hnb
          go_wp2_with fail
          refine (HW.out wr).mono ?_
          rintro e w4 ⟨rfl, he⟩
          replace he := he.symm
          subst he
          clear HW
          by_cases hq1 : 1 ≤ q
          · by_cases hq9 : q ≤ 9
            · go_wp2_with fail
              have hdo := do_any HP.out HRL.out (by omega) (by omega) (by omega) kd z _ bs HU.out HUB.out HWF.out (by have := HBL.out; omega)
              rw [← HNB.out] at hdo
              refine hdo.mono ?_
              rintro e w5 ⟨rfl, S', T', G', H', hr6, h6, hkp⟩
              have H6 := Lib.hid h6
              have HR6 := Lib.hid hr6
              have HKP := Lib.hid (hkp (by rw [← HQ.out]; exact hq1) (by rw [← HQ.out]; exact hq9) HSM.out)
              clear h6 hr6 hkp hdo
              go_wp2_with fail
              go_roundw
              case rel => exact ⟨k + 1, _, _, _, _, by omega, by go_num, HR6.out, HKP.out, H6.out⟩
              case measure => simp [intOf]; omega
            · go_wp2_with fail
              go_roundw
              case rel => exact ⟨k + 1, _, _, _, _, by omega, by go_num, HRL.out, HSM.out, HP.out.more _ (by omega)⟩
              case measure => simp [intOf]; omega
          · go_wp2_with fail
            go_roundw
            case rel => exact ⟨k + 1, _, _, _, _, by omega, by go_num, HRL.out, HSM.out, HP.out.more _ (by omega)⟩
            case measure => simp [intOf]; omega
        · obtain rfl : n = k := by omega
          go_wp2_with fail
          have k1 := HP.out.pager (R := fun e => e = .returned (.int .i64 (lgCommit G H).1)) (fun X hX => ps_commit hX (by omega))
          obtain ⟨f0, hf0⟩ : ∃ f : Int, f = (lgCommit G H).1 := ⟨_, rfl⟩
          have HF0 := Lib.hid hf0
          rw [← hf0] at k1
          have K1 := Lib.hid k1
          clear k1 hf0
          refine K1.out.mono ?_
          rintro e w4 ⟨rfl, h4⟩
          have H4 := Lib.hid h4
          clear h4 K1
          go_wp2_with fail
          have k2 := H4.out.refers (C := fun S' T' => Rl 11 S' T' (lgCommit G H).2 none) (R := fun e => e = .returned (.int .i64 f0)) (fun Q hQ => by have q := rcommit_rel hQ HRL.out; rw [← HF0.out] at q; exact q)
          have K2 := Lib.hid k2
          clear k2
          refine K2.out.mono ?_
          rintro e w5 ⟨rfl, S5, T5, hr5, h5⟩
          obtain ⟨G1, hG1⟩ : ∃ G1, G1 = (lgCommit G H).2 := ⟨_, rfl⟩
          rw [← hG1] at hr5 h5
          have HB := Lib.hid h5
          have HBR := Lib.hid hr5
          clear h5 hr5 K2 H4 hG1 HP HRL HSM HF0
          go_wp2_with fail
          have k1 := HB.out.pager (R := fun e => e = .returned (.int .i64 0)) (fun X hX => ps_begin hX)
          refine k1.mono ?_
          rintro e w6 ⟨rfl, h6⟩
          obtain ⟨S1, hS1⟩ : ∃ y, y = S5 := ⟨_, rfl⟩
          obtain ⟨T1, hT1⟩ : ∃ y, y = T5 := ⟨_, rfl⟩
          rw [← hS1, ← hT1] at h6 HBR
          have HC := Lib.hid h6
          have HCR := Lib.hid HBR.out
          clear h6 k1 hS1 hT1 HB HBR
          go_wp2_with fail
          go_loopw [11, 12, 13] (fun i _ _ wr => ∃ (k : Nat) (H : Option Lg), k ≤ m ∧ i = .int .i64 k ∧ Pr w wr x r p 11 (n + 2 + k) S1 T1 G1 H) (fun i _ _ _ => m - (intOf i).toNat)
          case atStart => exact ⟨0, _, Nat.zero_le _, rfl, HC.out.more _ (by omega)⟩
          case round =>
            obtain ⟨k, H, hk, rfl, hpr⟩ := hrel
            have HP := Lib.hid hpr
            clear hpr
            by_cases hlt : k < m
            · have hkl : k < l2.length := by rw [← HM.out]; exact hlt
              have hlt' : (k : Int) < m := by omega
              go_wp2_with fail
              refine (rmade_any 412 (by omega) (by omega) 412 (by omega) wr).mono ?_
              rintro e w6 ⟨y, rfl, hry, hb6⟩
              obtain ⟨Qx, hpk, hxa⟩ := HP.out.news hry hb6
              have HPK := Lib.hid hpk
              have HXA := Lib.hid hxa
              clear hry hb6 hpk hxa
              go_wp2_with fail
              have k2 := HPK.out.refers (C := fun S' T' => S' = PS.new ∧ T' = some PS.new) (R := fun e => e = .returned (.int .i64 0)) (fun Q hQ => (rbegin_ok hQ ⟨by decide, by decide, (fun j hj => by cases hj), rfl, (fun j b hb => by cases hb), by decide⟩).mono (fun e w' h => ⟨h.1, _, _, ⟨rfl, rfl⟩, h.2⟩))
              refine k2.mono ?_
              rintro e w7 ⟨rfl, hm7, S7, T7, ⟨rfl, rfl⟩, h7⟩
              obtain ⟨ao', cap', hsl, -, -, hE⟩ := HV2.out.below h7.pr.below
              rw [← HM.out] at hsl
              simp only [Value.slice.injEq, true_and] at hsl
              obtain ⟨rfl, rfl⟩ := hsl
              obtain ⟨b, off, rfl, -, c0, c1, hwf, u, c2, hu, hub⟩ := hE k hkl
              have hbl := HOK2.out.2 k hkl
              obtain ⟨kd, hkd⟩ : ∃ y, y = l2[k].1 := ⟨_, rfl⟩
              obtain ⟨z, hz⟩ : ∃ y, y = l2[k].2.1 := ⟨_, rfl⟩
              obtain ⟨bs, hbs⟩ : ∃ y, y = l2[k].2.2 := ⟨_, rfl⟩
              rw [← hkd] at c0
              rw [← hz] at c1 hwf
              rw [← hbs] at hu hub hbl
              obtain ⟨bo', bc', rfl, -⟩ := id hu
              have hwr := within_range kd 14 (by decide)
              have hw := within4_any kd 14 (by decide) (by decide)
              obtain ⟨q, hq⟩ : ∃ q, q = withinOf kd 14 := ⟨_, rfl⟩
              have HQ := Lib.hid hq
              rw [← hq] at hw hwr
              have HW := Lib.hid hw
              have HU := Lib.hid hu
              have HUB := Lib.hid hub
              have HBL := Lib.hid hbl
              have HWF := Lib.hid hwf
              obtain ⟨nb, hnb⟩ : ∃ nb, nb = bs.length := ⟨_, rfl⟩
              have HNB := Lib.hid hnb
              rw [← hnb] at c2
              have H7 := Lib.hid h7
              have HX7 := Lib.hid (HXA.out.moved hm7)
              clear hE hkd hz hbs hub hu hq hw hwf hbl hnb h7 hm7 k2 HPK HXA
              go_wp2_with fail
              refine (HW.out w7).mono ?_
              rintro e w8 ⟨rfl, he⟩
              replace he := he.symm
              subst he
              clear HW
              by_cases hq1 : 1 ≤ q
              · by_cases hq9 : q ≤ 9
                · go_wp2_with fail
                  have hdo := loose_any H7.out (by omega) (by omega) (by omega) kd z _ bs HU.out HUB.out HWF.out (by have := HBL.out; omega) (by rw [← HQ.out]; exact hq1) (by rw [← HQ.out]; exact hq9)
                  rw [← HNB.out] at hdo
                  refine hdo.mono ?_
                  rintro e w9 ⟨t9, rfl, S9, T9, H9, h9, hm9⟩
                  have H10 := Lib.hid (h9.join (HX7.out.moved hm9))
                  clear h9 hm9 hdo
                  go_wp2_with fail
                  go_roundw
                  case rel => exact ⟨k + 1, _, by omega, by go_num, H10.out⟩
                  case measure => simp [intOf]; omega
                · go_wp2_with fail
                  go_roundw
                  case rel => exact ⟨k + 1, _, by omega, by go_num, (H7.out.join HX7.out).more _ (by omega)⟩
                  case measure => simp [intOf]; omega
              · go_wp2_with fail
                go_roundw
                case rel => exact ⟨k + 1, _, by omega, by go_num, (H7.out.join HX7.out).more _ (by omega)⟩
                case measure => simp [intOf]; omega
            · obtain rfl : m = k := by omega
              go_wp2_with fail
              have k1 := HP.out.pager (R := fun e => e = .returned (.tuple #[])) (fun X hX => ps_abort hX)
              refine k1.mono ?_
              rintro e w7 ⟨rfl, h7⟩
              have hs := same_any h7 HCR.out.both (by omega)
              have H7 := Lib.hid h7
              have HS := Lib.hid hs
              clear h7 hs k1
              go_wp2_with fail
              refine HS.out.mono ?_
              rintro e w8 ⟨rfl, hb8⟩
              have H8 := Lib.hid (H7.out.grow hb8)
              clear hb8 HS H7
              go_wp2_with fail
              have k1 := H8.out.pager (R := fun e => e = .returned (.int .i64 0)) (fun X hX => ps_begin hX)
              have K1 := Lib.hid k1
              clear k1
              refine K1.out.mono ?_
              rintro e w4 ⟨rfl, h4⟩
              have H4 := Lib.hid h4
              clear h4 K1
              go_wp2_with fail
              have k2 := H4.out.refers (C := fun S' T' => Rl 11 S' T' G1 (some G1)) (R := fun e => e = .returned (.int .i64 0)) (fun Q hQ => rbegin_rel hQ HCR.out)
              have K2 := Lib.hid k2
              clear k2
              refine K2.out.mono ?_
              rintro e w5 ⟨rfl, S5, T5, hr5, h5⟩
              have HD := Lib.hid h5
              have HDR := Lib.hid hr5
              clear h5 hr5 K2 H4
              obtain ⟨n9, hn9⟩ : ∃ y, y = (lgNew (some G1)).1 := ⟨_, rfl⟩
              obtain ⟨f9, hf9⟩ : ∃ y, y = (lgNew (some G1)).2.1 := ⟨_, rfl⟩
              have k1 := HD.out.pager (R := fun e => e = .returned (.tuple #[.int .i64 (lgNew (some G1)).1, .int .i64 (lgNew (some G1)).2.1])) (fun X hX => ps_new hX (by omega))
              rw [← hn9, ← hf9] at k1
              have K1 := Lib.hid k1
              have HN9 := Lib.hid hn9
              have HF9 := Lib.hid hf9
              clear k1 hn9 hf9
              go_wp2_with fail
              refine K1.out.mono ?_
              rintro e w4 ⟨rfl, h4⟩
              have k2 := h4.refers (C := fun S' T' => Rl 11 S' T' G1 (lgNew (some G1)).2.2) (R := fun e => e = .returned (.tuple #[.int .i64 n9, .int .i64 f9])) (fun Q hQ => by have q := rnew_rel hQ HDR.out (by omega); rw [← HN9.out, ← HF9.out] at q; exact q)
              have K2 := Lib.hid k2
              clear k2 h4 K1
              go_wp2_with fail
              refine K2.out.mono ?_
              rintro e w5 ⟨rfl, S6, T6, -, h5⟩
              have H5 := Lib.hid h5
              clear h5 K2
              go_wp2_with fail
              go_ret
              exact ⟨rfl, H5.out.below⟩
end Go.Proofs.Ytcnfnpccbnnplaa
