/- Same, whatever it answers. -/
import Derived.Test.YtcnfnpccbnnplaaR4i
namespace Go.Proofs.Ytcnfnpccbnnplaa
open Go.RowKit Go.Maps
set_option maxRecDepth 100000

set_option maxHeartbeats 2000000 in
theorem same_loose {w0 w : World} {x r p N c : Nat} {S : PS} {T : Option PS} {G : Lg} {H : Option Lg} (h : Pr w0 w x r p N c S T G H) (hn : (T.getD S).n ≤ 1000000) (hN : N ≤ 400) :
    Calls Try.prog 22 #[.pointer (some ⟨p, 0, none⟩), .pointer (some ⟨x, 0, none⟩)] w fun e w' => ∃ b : Bool, e = .returned (.bool b) ∧ Below w.heap.size w w' := by
  have HP := Lib.hid h
  obtain ⟨X, hps⟩ := h.ps
  obtain ⟨Q, hrp⟩ := h.ref
  have k1 := ps_root hps
  have k2 := rroot_any hrp
  obtain ⟨ra, hra⟩ : ∃ y, y = (H.getD G).root := ⟨_, rfl⟩
  obtain ⟨rb, hrb⟩ : ∃ y, y = (T.getD S).root := ⟨_, rfl⟩
  rw [← hra] at k1
  rw [← hrb] at k2
  have K1 := Lib.hid k1
  have K2 := Lib.hid k2
  have HNN := Lib.hid hn
  clear h hps hrp k1 k2 hra hrb hn
  by_cases hroot : ra = rb
  · subst hroot
    go_enter Try.func22, Try.ntmps22
    go_wp2_with fail
    refine K1.out.mono ?_
    rintro e w1 ⟨rfl, he⟩
    replace he := he.symm
    subst he
    go_wp2_with fail
    refine K2.out.mono ?_
    rintro e w2 ⟨rfl, hb2⟩
    have HP2 := Lib.hid (HP.out.grow hb2)
    have HB2 := Lib.hid hb2
    clear hb2
    obtain ⟨X, hps⟩ := HP2.out.ps
    have k3 := ps_free hps
    obtain ⟨Q, hrp⟩ := HP2.out.ref
    have k4 := rfree_any hrp (by omega) HNN.out
    obtain ⟨fa, hfa⟩ : ∃ y : Int, y = ((H.getD G).free.length : Nat) := ⟨_, rfl⟩
    obtain ⟨fb, hfb⟩ : ∃ y : Int, y = (N : Int) - 1 - (T.getD S).n := ⟨_, rfl⟩
    rw [← hfa] at k3
    rw [← hfb] at k4
    have K3 := Lib.hid k3
    have K4 := Lib.hid k4
    clear hps k3 hrp k4 hfa hfb
    go_wp2_with fail
    refine K3.out.mono ?_
    rintro e w1 ⟨rfl, he⟩
    replace he := he.symm
    subst he
    clear K3
    go_wp2_with fail
    refine K4.out.mono ?_
    rintro e w3 ⟨rfl, hb3⟩
    have HB3 := Lib.hid (HB2.out.trans (hb3.mono HB2.out.size))
    clear hb3 K4
    by_cases hfree : fa = fb
    · subst hfree
      go_wp2_with fail
      go_loopw [5, 6, 7, 8, 9] (fun i _ _ _ _ wr => ∃ j : Nat, j ≤ N + 2 ∧ i = .int .i64 ((j : Int) - 1) ∧ Below w.heap.size w wr) (fun i _ _ _ _ _ => N + 2 - (intOf i + 1).toNat)
      case atStart => exact ⟨0, Nat.zero_le _, rfl, HB3.out⟩
      case round =>
        obtain ⟨j, hj, rfl, hbr⟩ := hrel
        have HBR := Lib.hid hbr
        have hp := HP.out.grow hbr
        have c0 := hp.pages
        have HPR := Lib.hid hp
        clear hbr hp
        by_cases hlt : j < N + 2
        · have hwf : (Lit.int .i64 ((j : Int) - 1)).wf = true := WalkArith.wf_i64 (by omega)
          obtain ⟨X, hps⟩ := HPR.out.ps
          have k1 := ps_get ((j : Int) - 1) hps
          have HWF := Lib.hid hwf
          have hle : (j : Int) - 1 ≤ N := by omega
          obtain ⟨g1, hg1⟩ : ∃ f : Int, f = if lgUsed N (H.getD G) ((j : Int) - 1) then 0 else 1 := ⟨_, rfl⟩
          rw [← hg1] at k1
          have K1' := Lib.hid k1
          clear hps k1 hwf hg1
          go_wp2_with fail
          refine K1'.out.mono ?_
          rintro e w4 ⟨v, rfl, hv, -, hb4⟩
          obtain ⟨Q, hrp⟩ := (HPR.out.grow hb4).ref
          have k2 := rget_any ((j : Int) - 1) HWF.out hrp
          obtain ⟨Y2, hY2⟩ : ∃ Y : ByteArray, Y = (((T.getD S).f ((j : Int) - 1)).getD ByteArray.empty) := ⟨_, rfl⟩
          obtain ⟨g2, hg2⟩ : ∃ f : Int, f = if ((T.getD S).f ((j : Int) - 1)).isSome then 0 else 1 := ⟨_, rfl⟩
          rw [← hY2, ← hg2] at k2
          have HV := Lib.hid hv
          have HB4 := Lib.hid (HBR.out.trans (hb4.mono HBR.out.size))
          obtain ⟨Y1, hY1⟩ : ∃ Y : ByteArray, Y = ⟨(if lgUsed N (H.getD G) ((j : Int) - 1) then (H.getD G).page ((j : Int) - 1).toNat else []).toArray⟩ := ⟨_, rfl⟩
          have HY := Lib.hid hY1
          have K2' := Lib.hid k2
          clear hrp k2 hb4 hv hY1 hY2 hg2 K1'
          go_wp2_with fail
          refine K2'.out.mono ?_
          rintro e w5 ⟨rfl, hb5⟩
          have hcz := run_conv_bytes (HV.out.below hb5)
          rw [← HY.out] at hcz
          have HB5 := Lib.hid (HB4.out.trans (hb5.mono HB4.out.size))
          clear hb5 K2'
          by_cases hYY : Y1.toList = Y2.toList
          · by_cases hgg : g1 = g2
            · subst hgg
              go_wp2_with fail
              go_roundw
              case rel => exact ⟨j + 1, by omega, by go_num, HB5.out⟩
              case measure => simp [intOf]; omega
            · go_wp2_with fail
              go_ret
              exact ⟨_, rfl, HB5.out⟩
          · go_wp2_with fail
            go_ret
            exact ⟨_, rfl, HB5.out⟩
        · obtain rfl : j = N + 2 := by omega
          go_wp2_with fail
          go_ret
          exact ⟨_, rfl, HBR.out⟩
    · go_wp2_with fail
      go_ret
      exact ⟨_, rfl, HB3.out⟩
  · go_enter Try.func22, Try.ntmps22
    go_wp2_with fail
    refine K1.out.mono ?_
    rintro e w1 ⟨rfl, he⟩
    replace he := he.symm
    subst he
    go_wp2_with fail
    refine K2.out.mono ?_
    rintro e w2 ⟨rfl, hb2⟩
    have HB2 := Lib.hid hb2
    clear hb2
    go_wp2_with fail
    go_ret
    exact ⟨_, rfl, HB2.out⟩
end Go.Proofs.Ytcnfnpccbnnplaa
