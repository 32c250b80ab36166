/- The walk of the law PagerCrashes. -/
import Derived.Test.YtcnfnpccbnnplaaR4r
import Derived.Test.YtcnfnpccbnnplaaR4t
import Derived.Test.YtcnfnpccbnnplaaR4v
namespace Go.Proofs.Ytcnfnpccbnnplaa
open Go.RowKit Go.Maps
set_option maxRecDepth 100000
set_option linter.unusedVariables false

set_option maxHeartbeats 4000000 in
theorem crashes_walk (v v2 : Value) (l l2 : Acts) (stop : Int) (kv : Value) (keep : List Bool) (w : World) (hv : Acs w (fun g => g < w.heap.size) v l) (hv2 : Acs w (fun g => g < w.heap.size) v2 l2) (hkv : Bl w kv keep) (hkb : 0 < keep.length → ∀ g, kv.ownBlock = some g → g < w.heap.size) :
    Calls Try.prog 3 #[v, v2, .int .i64 stop, kv] w fun e w' => e = .returned (.bool true) ∧ Below w.heap.size w w' := by
  obtain ⟨ko, kc, rfl, -⟩ := id hkv
  have HKV := Lib.hid hkv
  have HKB := Lib.hid hkb
  have hsr := within_range stop 40 (by decide)
  have hsw := within4_any stop 40 (by decide) (by decide)
  obtain ⟨sn, hsn⟩ : ∃ y, y = withinOf stop 40 := ⟨_, rfl⟩
  rw [← hsn] at hsr hsw
  have HSW := Lib.hid hsw
  clear hkv hkb hsw hsn
  obtain ⟨ao, cap, rfl, hc1, hc2⟩ := hv.cells
  have hc2' : cap ≤ 9223372036854775807 := hc2
  obtain ⟨bo, bap, rfl, hd1, hd2⟩ := hv2.cells
  have hd2' : bap ≤ 9223372036854775807 := hd2
  obtain ⟨n, hn⟩ : ∃ n, n = l.length := ⟨_, rfl⟩
  obtain ⟨m, hm⟩ : ∃ m, m = l2.length := ⟨_, rfl⟩
  have HV := Lib.hid hv
  have HN := Lib.hid hn
  have HV2 := Lib.hid hv2
  have HM := Lib.hid hm
  rw [← hn] at hc1 HV ⊢
  rw [← hm] at hd1 HV2 ⊢
  clear hv hn hc2 hv2 hm hd2
  go_enter Try.func3, Try.ntmps3
  go_wp2_with fail
  refine (known4_any w).mono ?_
  rintro e w0 ⟨rfl, h0⟩
  have H0 := Lib.hid h0
  have hfew := few_any (HV.out.below h0)
  have HFEW := Lib.hid hfew
  have hfew2 := few_any (HV2.out.below h0)
  have HFEW2 := Lib.hid hfew2
  clear h0 hfew hfew2
  go_wp2_with fail
  refine HFEW.out.mono ?_
  rintro e w1 ⟨t, rfl, he, hok⟩
  replace he := he.symm
  subst he
  clear HFEW
  cases t with
  | false =>
    clear hok HFEW2
    go_wp2_with fail
    go_ret
    exact ⟨rfl, H0.out⟩
  | true =>
    have HOK := Lib.hid (hok rfl)
    have hn60 : n ≤ 60 := by have := (hok rfl).1; have := HN.out; omega
    clear hok
    go_wp2_with fail
    refine HFEW2.out.mono ?_
    rintro e w1 ⟨t, rfl, he, hok⟩
    replace he := he.symm
    subst he
    clear HFEW2
    cases t with
    | false =>
      clear hok
      go_wp2_with fail
      go_ret
      exact ⟨rfl, H0.out⟩
    | true =>
      have HOK2 := Lib.hid (hok rfl)
      have hm60 : m ≤ 60 := by have := (hok rfl).1; have := HM.out; omega
      clear hok
      go_wp2_with fail
      refine (nd_new (w0 := w) (X := NoX) 412 412 (by omega) (by omega) (by omega) H0.out (nox_lt _)).mono ?_
      rintro e w1 ⟨r, rfl, h1, -⟩
      rw [show 412 = 401 + 11 by omega] at h1
      have H1 := Lib.hid h1
      clear h1
      go_wp2_with fail
      refine (nd_open (N := 11) H1.out (by omega) (by omega)).mono ?_
      rintro e w2 ⟨p, rfl, h2, -⟩
      have H2 := Lib.hid h2
      clear h2
      go_wp2_with fail
      refine (rmade_any 412 (by omega) (by omega) 412 (by omega) w2).mono ?_
      rintro e w3 ⟨x, rfl, hrp, hb3⟩
      have HPR := Lib.hid (Pr.begun H2.out hrp hb3)
      have hrl0 : Rl 11 PS.new none (Lg.new 11) none := ⟨RelS.new (by omega), trivial⟩
      have HRL0 := Lib.hid hrl0
      clear hrp hb3 hrl0 H0 H1 H2
      go_wp2_with fail
      have k1 := HPR.out.pager (R := fun e => e = .returned (.int .i64 0)) (fun X hX => ps_begin hX)
      have K1 := Lib.hid k1
      clear k1
      refine K1.out.mono ?_
      rintro e w4 ⟨rfl, h4⟩
      have H4 := Lib.hid h4
      clear h4 K1
      go_wp2_with fail
      have k2 := H4.out.refers (C := fun S' T' => Rl 11 S' T' (Lg.new 11) (some (Lg.new 11))) (R := fun e => e = .returned (.int .i64 0)) (fun Q hQ => rbegin_rel hQ HRL0.out)
      have K2 := Lib.hid k2
      clear k2
      refine K2.out.mono ?_
      rintro e w5 ⟨rfl, S5, T5, hr5, h5⟩
      have HA := Lib.hid h5
      have HAR := Lib.hid hr5
      clear h5 hr5 K2 H4
      go_wp2_with fail
      go_loopw [13, 14] (fun i _ wr => ∃ (k : Nat) (S : PS) (T : Option PS) (G : Lg) (H : Option Lg), k ≤ n ∧ i = .int .i64 k ∧ Rl 11 S T G H ∧ H.isSome = true ∧ Pr w wr x r p 11 k S T G H) (fun i _ _ => n - (intOf i).toNat)
      case atStart => exact ⟨0, _, _, _, _, Nat.zero_le _, rfl, HAR.out, rfl, HA.out⟩
      case round =>
        obtain ⟨k, S, T, G, H, hk, rfl, hrl, hsm, hpr⟩ := hrel
        have HSM := Lib.hid hsm
        have HRL := Lib.hid hrl
        have HP := Lib.hid hpr
        clear hrl hpr hsm
        by_cases hlt : k < n
        · have hkl : k < l.length := by rw [← HN.out]; exact hlt
          obtain ⟨ao', cap', hsl, -, -, hE⟩ := HV.out.below HP.out.below
          rw [← HN.out] at hsl
          simp only [Value.slice.injEq, true_and] at hsl
          obtain ⟨rfl, rfl⟩ := hsl
          obtain ⟨b, off, rfl, -, c0, c1, hwf, u, c2, hu, hub⟩ := hE k hkl
          have hbl := HOK.out.2 k hkl
          obtain ⟨kd, hkd⟩ : ∃ y, y = l[k].1 := ⟨_, rfl⟩
          obtain ⟨z, hz⟩ : ∃ y, y = l[k].2.1 := ⟨_, rfl⟩
          obtain ⟨bs, hbs⟩ : ∃ y, y = l[k].2.2 := ⟨_, rfl⟩
          rw [← hkd] at c0
          rw [← hz] at c1 hwf
          rw [← hbs] at hu hub hbl
          obtain ⟨bo', bc', rfl, -⟩ := id hu
          have hwr := within_range kd 14 (by decide)
          have hw := within4_any kd 14 (by decide) (by decide)
          obtain ⟨q, hq⟩ : ∃ q, q = withinOf kd 14 := ⟨_, rfl⟩
          have HQ := Lib.hid hq
          rw [← hq] at hw hwr
          have HW := Lib.hid hw
          have hlt' : (k : Int) < n := by omega
          have HU := Lib.hid hu
          have HUB := Lib.hid hub
          have HBL := Lib.hid hbl
          have HWF := Lib.hid hwf
          obtain ⟨nb, hnb⟩ : ∃ nb, nb = bs.length := ⟨_, rfl⟩
          have HNB := Lib.hid hnb
          rw [← hnb] at c2
          clear hE hkd hz hbs hub hu hq hw hwf hbl hnb
          go_wp2_with fail
          refine (HW.out wr).mono ?_
          rintro e w4 ⟨rfl, he⟩
          replace he := he.symm
          subst he
          clear HW
          by_cases hq1 : 1 ≤ q
          · by_cases hq9 : q ≤ 9
            · go_wp2_with fail
              have hdo := do_any HP.out HRL.out (by omega) (by omega) (by omega) kd z _ bs HU.out HUB.out HWF.out (by have := HBL.out; omega)
              rw [← HNB.out] at hdo
              refine hdo.mono ?_
              rintro e w5 ⟨rfl, S', T', G', H', hr6, h6, hkp⟩
              have H6 := Lib.hid h6
              have HR6 := Lib.hid hr6
              have HKP := Lib.hid (hkp (by rw [← HQ.out]; exact hq1) (by rw [← HQ.out]; exact hq9) HSM.out)
              clear h6 hr6 hkp hdo
              go_wp2_with fail
              go_roundw
              case rel => exact ⟨k + 1, _, _, _, _, by omega, by go_num, HR6.out, HKP.out, H6.out⟩
              case measure => simp [intOf]; omega
            · go_wp2_with fail
              go_roundw
              case rel => exact ⟨k + 1, _, _, _, _, by omega, by go_num, HRL.out, HSM.out, HP.out.more _ (by omega)⟩
              case measure => simp [intOf]; omega
          · go_wp2_with fail
            go_roundw
            case rel => exact ⟨k + 1, _, _, _, _, by omega, by go_num, HRL.out, HSM.out, HP.out.more _ (by omega)⟩
            case measure => simp [intOf]; omega
        · obtain rfl : n = k := by omega
          go_wp2_with fail
          have k1 := HP.out.pager (R := fun e => e = .returned (.int .i64 (lgCommit G H).1)) (fun X hX => ps_commit hX (by omega))
          obtain ⟨f0, hf0⟩ : ∃ f : Int, f = (lgCommit G H).1 := ⟨_, rfl⟩
          have HF0 := Lib.hid hf0
          rw [← hf0] at k1
          have K1 := Lib.hid k1
          clear k1 hf0
          refine K1.out.mono ?_
          rintro e w4 ⟨rfl, h4⟩
          have H4 := Lib.hid h4
          clear h4 K1
          go_wp2_with fail
          have k2 := H4.out.refers (C := fun S' T' => Rl 11 S' T' (lgCommit G H).2 none) (R := fun e => e = .returned (.int .i64 f0)) (fun Q hQ => by have q := rcommit_rel hQ HRL.out; rw [← HF0.out] at q; exact q)
          have K2 := Lib.hid k2
          clear k2
          refine K2.out.mono ?_
          rintro e w5 ⟨rfl, S5, T5, hr5, h5⟩
          obtain ⟨G1, hG1⟩ : ∃ G1, G1 = (lgCommit G H).2 := ⟨_, rfl⟩
          rw [← hG1] at hr5 h5
          have HB := Lib.hid h5
          have HBR := Lib.hid hr5
          clear h5 hr5 K2 H4 hG1 HP HRL HSM HF0
          go_wp2_with fail
          have k1 := HB.out.pager (R := fun e => e = .returned (.int .i64 0)) (fun X hX => ps_begin hX)
          have K1 := Lib.hid k1
          clear k1
          refine K1.out.mono ?_
          rintro e w4 ⟨rfl, h4⟩
          have H4 := Lib.hid h4
          clear h4 K1
          go_wp2_with fail
          have k2 := H4.out.refers (C := fun S' T' => Rl 11 S' T' G1 (some G1)) (R := fun e => e = .returned (.int .i64 0)) (fun Q hQ => rbegin_rel hQ HBR.out)
          have K2 := Lib.hid k2
          clear k2
          refine K2.out.mono ?_
          rintro e w5 ⟨rfl, S5, T5, hr5, h5⟩
          have HC := Lib.hid h5
          have HCR := Lib.hid hr5
          clear h5 hr5 K2 H4
          go_wp2_with fail
          go_loopw [15, 16] (fun i _ wr => ∃ (k : Nat) (S : PS) (T : Option PS) (G : Lg) (H : Option Lg), k ≤ m ∧ i = .int .i64 k ∧ Rl 11 S T G H ∧ H.isSome = true ∧ Pr w wr x r p 11 ((n + 1) + k) S T G H) (fun i _ _ => m - (intOf i).toNat)
          case atStart => exact ⟨0, _, _, _, _, Nat.zero_le _, rfl, HCR.out, rfl, HC.out.more _ (by omega)⟩
          case round =>
            obtain ⟨k, S, T, G, H, hk, rfl, hrl, hsm, hpr⟩ := hrel
            have HSM := Lib.hid hsm
            have HRL := Lib.hid hrl
            have HP := Lib.hid hpr
            clear hrl hpr hsm
            by_cases hlt : k < m
            · have hkl : k < l2.length := by rw [← HM.out]; exact hlt
              obtain ⟨ao', cap', hsl, -, -, hE⟩ := HV2.out.below HP.out.below
              rw [← HM.out] at hsl
              simp only [Value.slice.injEq, true_and] at hsl
              obtain ⟨rfl, rfl⟩ := hsl
              obtain ⟨b, off, rfl, -, c0, c1, hwf, u, c2, hu, hub⟩ := hE k hkl
              have hbl := HOK2.out.2 k hkl
              obtain ⟨kd, hkd⟩ : ∃ y, y = l2[k].1 := ⟨_, rfl⟩
              obtain ⟨z, hz⟩ : ∃ y, y = l2[k].2.1 := ⟨_, rfl⟩
              obtain ⟨bs, hbs⟩ : ∃ y, y = l2[k].2.2 := ⟨_, rfl⟩
              rw [← hkd] at c0
              rw [← hz] at c1 hwf
              rw [← hbs] at hu hub hbl
              obtain ⟨bo', bc', rfl, -⟩ := id hu
              have hwr := within_range kd 14 (by decide)
              have hw := within4_any kd 14 (by decide) (by decide)
              obtain ⟨q, hq⟩ : ∃ q, q = withinOf kd 14 := ⟨_, rfl⟩
              have HQ := Lib.hid hq
              rw [← hq] at hw hwr
              have HW := Lib.hid hw
              have hlt' : (k : Int) < m := by omega
              have HU := Lib.hid hu
              have HUB := Lib.hid hub
              have HBL := Lib.hid hbl
              have HWF := Lib.hid hwf
              obtain ⟨nb, hnb⟩ : ∃ nb, nb = bs.length := ⟨_, rfl⟩
              have HNB := Lib.hid hnb
              rw [← hnb] at c2
              clear hE hkd hz hbs hub hu hq hw hwf hbl hnb
              go_wp2_with fail
              refine (HW.out wr).mono ?_
              rintro e w4 ⟨rfl, he⟩
              replace he := he.symm
              subst he
              clear HW
              by_cases hq1 : 1 ≤ q
              · by_cases hq9 : q ≤ 9
                · go_wp2_with fail
                  have hdo := do_any HP.out HRL.out (by omega) (by omega) (by omega) kd z _ bs HU.out HUB.out HWF.out (by have := HBL.out; omega)
                  rw [← HNB.out] at hdo
                  refine hdo.mono ?_
                  rintro e w5 ⟨rfl, S', T', G', H', hr6, h6, hkp⟩
                  have H6 := Lib.hid h6
                  have HR6 := Lib.hid hr6
                  have HKP := Lib.hid (hkp (by rw [← HQ.out]; exact hq1) (by rw [← HQ.out]; exact hq9) HSM.out)
                  clear h6 hr6 hkp hdo
                  go_wp2_with fail
                  go_roundw
                  case rel => exact ⟨k + 1, _, _, _, _, by omega, by go_num, HR6.out, HKP.out, H6.out⟩
                  case measure => simp [intOf]; omega
                · go_wp2_with fail
                  go_roundw
                  case rel => exact ⟨k + 1, _, _, _, _, by omega, by go_num, HRL.out, HSM.out, HP.out.more _ (by omega)⟩
                  case measure => simp [intOf]; omega
              · go_wp2_with fail
                go_roundw
                case rel => exact ⟨k + 1, _, _, _, _, by omega, by go_num, HRL.out, HSM.out, HP.out.more _ (by omega)⟩
                case measure => simp [intOf]; omega
            · obtain rfl : m = k := by omega
              rcases HRL.out.cases with ⟨rfl, rfl⟩ | ⟨T0, H0, rfl, rfl, hr2⟩
              · cases HSM.out
              have hr1 := HRL.out.1
              obtain ⟨Q, hrp, ⟨A, K, T', hlx, k1, k2, k3, k4, t, rfl, t2, t3⟩, hq0⟩ := HP.out
              have hle := left_ends k1 k2 t2 (by omega) k4 (by omega) (1 + sn) (by omega) keep
              have hsm : Small (A.stopAt (1 + sn)) 100000 := ⟨by show A.ops ≤ _; omega, by show A.since.length ≤ _; rw [k1.since]; exact Nat.zero_le _, by show (1 + sn).toNat ≤ _; omega⟩
              have HR1 := Lib.hid hr1
              have HR2 := Lib.hid hr2
              have HRP := Lib.hid hrp
              have HQ0 := Lib.hid hq0
              have HLX := Lib.hid hlx
              have HLE := Lib.hid hle
              have HSM' := Lib.hid hsm
              have K2 := Lib.hid k2
              have T2 := Lib.hid t2
              clear hr1 hr2 hrp hq0 hlx hle hsm k1 k2 k3 k4 t2 t3 HP HRL HSM
              go_wp2_with fail
              refine (HSW.out wr).mono ?_
              rintro e w4 ⟨rfl, he⟩
              replace he := he.symm
              subst he
              clear HSW
              go_wp2_with fail
              refine (lx_stop (1 + sn) HLX.out).mono ?_
              rintro e w5 ⟨rfl, h5, hm5⟩
              have HRP5 := Lib.hid (HRP.out.moved hm5 (fun k hk e => e.2 hk))
              have H5 := Lib.hid h5
              clear h5 hm5 HRP HLX
              go_wp2_with fail
              have hcm := lx_commit (H := H0) H5.out K2.out T2.out HSM'.out
              have hle := HLE.out
              obtain ⟨R, hR⟩ : ∃ R, R = (A.stopAt (1 + sn)).pcommit (chgTo (A.stopAt (1 + sn)) (H0.stt 11) t 11) := ⟨_, rfl⟩
              rw [← hR] at hcm hle
              obtain ⟨e1, B⟩ := R
              dsimp only at hcm hle
              have HLE2 := Lib.hid hle
              have HCM := Lib.hid hcm
              clear hcm hle hR HLE HSM'
              refine HCM.out.mono ?_
              rintro e w6 ⟨rfl, h6, hm6⟩
              have HRP6 := Lib.hid (HRP5.out.moved hm6 (fun k hk e => e.2 hk))
              have H6 := Lib.hid h6
              have HK6 := Lib.hid (HKV.out.moved (Moved.of_below h6.below (fun _ => False)) (fun _ _ _ h => h))
              clear h6 hm6 HRP5 H5 HCM
              go_wp2_with fail
              refine (lx_crash _ keep H6.out HK6.out (fun h0 q hq => .inl (HKB.out h0 q hq)) HLE2.out.2.1).mono ?_
              rintro e w7 ⟨rfl, h7, hm7⟩
              have HRP7 := Lib.hid (HRP6.out.moved hm7 (fun k hk e => e.2 hk))
              obtain ⟨g1, gX, P, Q', g3, g4, g5, g6⟩ := h7
              obtain ⟨hgood, ⟨K', hS, hK⟩, hsmall, hlen, hst, hops⟩ := HLE2.out.2.2
              obtain ⟨G2, hK2, hG2⟩ : ∃ G2, Holds K' 11 G2 ∧ (G2 = H0 ∨ e1 ≠ 0 ∧ G2 = G) := by
                rcases hK with h | ⟨h1, h2⟩
                · exact ⟨_, h, .inl rfl⟩
                · exact ⟨_, h2, .inr ⟨h1, rfl⟩⟩
              have hop := lx_open g1 gX g3 g5 hgood hS hK2 (hsmall.mono (by omega)) (by omega) hlen hst hops
              have HOP := Lib.hid hop
              have HG2 := Lib.hid hG2
              clear g1 gX g3 g4 g5 g6 hS hK hgood hsmall hlen hst hops hK2 hG2 hop H6 hm7 HRP6 HK6 T2 K2
              go_wp2_with fail
              refine HOP.out.mono ?_
              rintro e w8 ⟨q, rfl, h8, hm8⟩
              have hrp8 := HRP7.out.moved hm8 (fun k hk e => e.2 hk)
              have HPS8 := Lib.hid h8
              have HRP8 := Lib.hid hrp8
              clear hrp8
              have hrp8 := HRP8.out
              obtain ⟨mS, gS, mT, gT, nT, rT, QS, QT, hb, hx, hS, hT, pS, pT⟩ := hrp8
              obtain ⟨bS, rfl, -, -, oS, -⟩ := id pS
              obtain ⟨sS, kS, rfl, -⟩ := owns_form oS
              obtain ⟨bT, rfl, -, -, oT, -⟩ := id (pT T0 rfl).1
              obtain ⟨sT, kT, rfl, -⟩ := owns_form oT
              have c0 : w8.cell? ⟨x, 0, none⟩ = some (.int .i64 11) := by rw [hb.cell]; rfl
              have c1 : w8.cell? ⟨x, 1, none⟩ = some (.map (some bS)) := by rw [hb.cell]; rfl
              have c2 : w8.cell? ⟨x, 2, none⟩ = some (.slice sS S.gone.length kS) := by rw [hb.cell]; rfl
              have c3 : w8.cell? ⟨x, 3, none⟩ = some (.int .i64 S.next) := by rw [hb.cell]; rfl
              have c4 : w8.cell? ⟨x, 4, none⟩ = some (.int .i64 S.root) := by rw [hb.cell]; rfl
              have c5 : w8.cell? ⟨x, 5, none⟩ = some (.map (some bT)) := by rw [hb.cell]; rfl
              have c6 : w8.cell? ⟨x, 6, none⟩ = some (.slice sT T0.gone.length kT) := by rw [hb.cell]; rfl
              have c7 : w8.cell? ⟨x, 7, none⟩ = some (.int .i64 nT) := by rw [hb.cell]; rfl
              have c8 : w8.cell? ⟨x, 8, none⟩ = some (.int .i64 rT) := by rw [hb.cell]; rfl
              have c9 : w8.cell? ⟨x, 9, none⟩ = some (.bool true) := by rw [hb.cell]; rfl
              have hal : Below w8.heap.size w8 (w8.alloc (.cells #[.int .i64 11, .map (some bS), .slice sS S.gone.length kS, .int .i64 S.next, .int .i64 S.root, .map (some bT), .slice sT T0.gone.length kT, .int .i64 nT, .int .i64 rT, .bool true] 48)) := (Below.refl _ w8).alloc (Nat.le_refl _) _
              obtain ⟨w9, hw9⟩ : ∃ y, y = w8.alloc (.cells #[.int .i64 11, .map (some bS), .slice sS S.gone.length kS, .int .i64 S.next, .int .i64 S.root, .map (some bT), .slice sT T0.gone.length kT, .int .i64 nT, .int .i64 rT, .bool true] 48) := ⟨_, rfl⟩
              have hlt : ∀ k, Q k → k < w8.heap.size := fun k hk => h8.lt k hk
              have hQY : ∀ k, QS k ∨ QT k → Q k ∧ k ≠ x := fun k hk => hk.elim (hS k) (fun e => ⟨(hT k e).1, (hT k e).2.1⟩)
              have hyb := Blk.new w8 #[.int .i64 11, .map (some bS), .slice sS S.gone.length kS, .int .i64 S.next, .int .i64 S.root, .map (some bT), .slice sT T0.gone.length kT, .int .i64 nT, .int .i64 rT, .bool true] 48
              have hs9 : w9.heap.size = w8.heap.size + 1 := by rw [hw9]; simp
              rw [← hw9] at hal hyb
              have hy9 : Rp w9 (fun k => (QS k ∨ QT k) ∨ k = w8.heap.size) w8.heap.size 11 S (some T0) :=
                ⟨_, _, _, _, nT, rT, QS, QT, hyb, .inr rfl, fun k hk => ⟨.inl (.inl hk), by have := hlt k (hS k hk).1; omega⟩, fun k hk => ⟨.inl (.inr hk), by have := hlt k (hT k hk).1; omega, (hT k hk).2.2⟩,
                  pS.moved (Moved.of_below hal (fun _ => False)) (fun _ _ h => h), fun t e => ⟨(pT t e).1.moved (Moved.of_below hal (fun _ => False)) (fun _ _ h => h), (pT t e).2⟩⟩
              have HX9 := Lib.hid (HRP8.out.moved (Moved.of_below hal (fun _ => False)) (fun _ _ h => h))
              have HPS9 := Lib.hid (HPS8.out.take hal)
              have HY9 := Lib.hid hy9
              have HW9 := Lib.hid hw9
              have HLT := Lib.hid hlt
              have HQY := Lib.hid hQY
              have HXX := Lib.hid hx
              have HSZ := Lib.hid h8.below.size
              have HS9 := Lib.hid hs9
              have he1 := HLE2.out.1
              clear oS oT hm8 h8 hb hx hS hT pS pT hal hlt hQY hyb hs9 hy9 hw9 HOP HRP7 HRP8 HPS8 HLE2
              rcases he1 with rfl | rfl
              · go_wp2_with fail
                rw [← HW9.out]
                refine (rabort_any HY9.out).mono ?_
                rintro e w10 ⟨rfl, hy10, hm10⟩
                have HX10 := Lib.hid (HX9.out.moved hm10 (fun k hk e => by have := HLT.out k hk; omega))
                have HPS10 := Lib.hid (HPS9.out.mv hm10 (fun k e => ⟨.inr (by have := HS9.out; omega), by have := HSZ.out; omega⟩))
                have HY10 := Lib.hid hy10
                clear hy10 hm10 HX9 HPS9 HY9
                go_wp2_with fail
                refine (rcommit4_any HX10.out).mono ?_
                rintro e w11 ⟨rfl, hx11, hm11⟩
                have hps11 := HPS10.out.mv hm11 (fun k e => ⟨.inl (e ▸ HXX.out), HQ0.out k (e ▸ HXX.out)⟩)
                have hxlt := HLT.out x HXX.out
                have HPX := Lib.hid (show Pr w w11 x r q 11 _ T0 none G2 none from ⟨Q, hx11, hps11.less (fun _ h => .inl h), HQ0.out⟩)
                have HPY := Lib.hid (show Pr w w11 w8.heap.size r q 11 _ S none G2 none from ⟨_, HY10.out.moved hm11 (fun k hk e => hk.elim (fun h => (HQY.out k h).2 e) (fun h => by omega)), hps11.less (fun k hk => hk.elim (fun h => .inl (HQY.out k h).1) (fun h => .inr (by have := HS9.out; omega))), fun k hk => hk.elim (fun h => HQ0.out k (HQY.out k h).1) (fun h => by have := HSZ.out; omega)⟩)
                clear hx11 hm11 hps11 hxlt HX10 HPS10 HY10
                obtain rfl : G2 = H0 := by rcases HG2.out with h | h; exact h; exact absurd rfl h.1
                go_wp2_with fail
                refine (same_any HPX.out HR2.out (by omega)).mono ?_
                rintro e w12 ⟨rfl, hb12⟩
                have HB12 := Lib.hid (HPX.out.below.trans (hb12.mono HPX.out.size))
                clear hb12
                go_wp2_with fail
                go_ret
                exact ⟨rfl, HB12.out⟩
              · go_wp2_with fail
                rw [← HW9.out]
                refine (rabort_any HY9.out).mono ?_
                rintro e w10 ⟨rfl, hy10, hm10⟩
                have HX10 := Lib.hid (HX9.out.moved hm10 (fun k hk e => by have := HLT.out k hk; omega))
                have HPS10 := Lib.hid (HPS9.out.mv hm10 (fun k e => ⟨.inr (by have := HS9.out; omega), by have := HSZ.out; omega⟩))
                have HY10 := Lib.hid hy10
                clear hy10 hm10 HX9 HPS9 HY9
                go_wp2_with fail
                refine (rcommit4_any HX10.out).mono ?_
                rintro e w11 ⟨rfl, hx11, hm11⟩
                have hps11 := HPS10.out.mv hm11 (fun k e => ⟨.inl (e ▸ HXX.out), HQ0.out k (e ▸ HXX.out)⟩)
                have hxlt := HLT.out x HXX.out
                have HPX := Lib.hid (show Pr w w11 x r q 11 _ T0 none G2 none from ⟨Q, hx11, hps11.less (fun _ h => .inl h), HQ0.out⟩)
                have HPY := Lib.hid (show Pr w w11 w8.heap.size r q 11 _ S none G2 none from ⟨_, HY10.out.moved hm11 (fun k hk e => hk.elim (fun h => (HQY.out k h).2 e) (fun h => by omega)), hps11.less (fun k hk => hk.elim (fun h => .inl (HQY.out k h).1) (fun h => .inr (by have := HS9.out; omega))), fun k hk => hk.elim (fun h => HQ0.out k (HQY.out k h).1) (fun h => by have := HSZ.out; omega)⟩)
                clear hx11 hm11 hps11 hxlt HX10 HPS10 HY10
                rcases HG2.out with h | h
                · obtain rfl : G2 = H0 := h
                  go_wp2_with fail
                  refine (same_any HPX.out HR2.out (by omega)).mono ?_
                  rintro e w12 ⟨rfl, hb12⟩
                  have HB12 := Lib.hid (HPX.out.below.trans (hb12.mono HPX.out.size))
                  clear hb12
                  go_wp2_with fail
                  go_ret
                  exact ⟨rfl, HB12.out⟩
                · obtain rfl : G2 = G := h.2
                  go_wp2_with fail
                  refine (same_loose HPX.out (by show T0.n ≤ _; have := HR2.out.num; omega) (by omega)).mono ?_
                  rintro e w12 ⟨b, rfl, hb12⟩
                  have HPY12 := Lib.hid (HPY.out.grow hb12)
                  have HB12 := Lib.hid (HPX.out.below.trans (hb12.mono HPX.out.size))
                  clear hb12 HPX HPY
                  cases b with
                  | true =>
                    go_wp2_with fail
                    go_ret
                    exact ⟨rfl, HB12.out⟩
                  | false =>
                    go_wp2_with fail
                    refine (same_any HPY12.out HR1.out (by omega)).mono ?_
                    rintro e w13 ⟨rfl, hb13⟩
                    have HB13 := Lib.hid (HPY12.out.below.trans (hb13.mono HPY12.out.size))
                    clear hb13
                    go_wp2_with fail
                    go_ret
                    exact ⟨rfl, HB13.out⟩
end Go.Proofs.Ytcnfnpccbnnplaa
