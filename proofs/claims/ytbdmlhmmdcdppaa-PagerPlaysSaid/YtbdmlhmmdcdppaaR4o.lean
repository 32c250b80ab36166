/- The walk of the law PagerPlays. -/
import Derived.Test.YtbdmlhmmdcdppaaR4n
namespace Go.Proofs.Ytbdmlhmmdcdppaa
open Go.RowKit Go.Maps
set_option maxRecDepth 100000
set_option linter.unusedVariables false

theorem Pr.opens {w0 w : World} {x r p N c : Nat} {S : PS} {T : Option PS} {G : Lg} {H : Option Lg} (h : Pr w0 w x r p N c S T G H) (hN : 2 ≤ N) (hc : c < 100) :
    Calls Try.prog 14 #[.pointer (some ⟨r, 0, none⟩)] w fun e w' => ∃ p', e = .returned (.tuple #[.pointer (some ⟨p', 0, none⟩), .int .i64 0]) ∧ Pr w0 w' x r p' N c S T G none := by
  obtain ⟨Q, h1, h2, h3⟩ := h
  refine (ps_open h2 hN hc).mono ?_
  rintro e w' ⟨p', rfl, g1, g2⟩
  exact ⟨p', rfl, Q, h1.moved g2 (fun k hk e => e.2 hk), g1, h3⟩

theorem Pr.begun {w0 w w' : World} {x r p N c : Nat} {G : Lg} {S : PS} (h : Ps w0 w NoX r p N c G none) (hr : Rp w' (fun k => w.heap.size ≤ k ∧ k < w'.heap.size) x N S none) (hb : Below w.heap.size w w') : Pr w0 w' x r p N c S none G none :=
  ⟨_, hr, h.mvx (Moved.of_below hb (fun _ => False)) (fun _ h => h.elim) (fun _ hk => .inr hk), fun k hk => Nat.le_trans h.below.size hk.1⟩

set_option maxHeartbeats 4000000 in
theorem plays_walk (v : Value) (l : Acts) (size : Int) (w : World) (hv : Acs w (fun g => g < w.heap.size) v l) :
    Calls Try.prog 3 #[.int .i64 size, v] w fun e w' => e = .returned (.bool true) ∧ Below w.heap.size w w' := by
  have hr := within_range size 12 (by decide)
  have hwt := within4_any size 12 (by decide) (by decide)
  obtain ⟨m, hm⟩ : ∃ m : Nat, withinOf size 12 = m := ⟨(withinOf size 12).toNat, by omega⟩
  rw [hm] at hr hwt
  have hm12 : m < 12 := by omega
  obtain ⟨ao, cap, rfl, hc1, hc2⟩ := hv.cells
  have hc2' : cap ≤ 9223372036854775807 := hc2
  obtain ⟨n, hn⟩ : ∃ n, n = l.length := ⟨_, rfl⟩
  have HW := Lib.hid hwt
  have HV := Lib.hid hv
  have HN := Lib.hid hn
  rw [← hn] at hc1 HV ⊢
  clear hwt hr hm hv hn hc2
  go_enter Try.func3, Try.ntmps3
  go_wp2_with fail
  refine (known4_any w).mono ?_
  rintro e w0 ⟨rfl, h0⟩
  have H0 := Lib.hid h0
  have hfew := few_any (HV.out.below h0)
  have HFEW := Lib.hid hfew
  clear h0 hfew
  go_wp2_with fail
  refine HFEW.out.mono ?_
  rintro e w1 ⟨t, rfl, he, hok⟩
  replace he := he.symm
  subst he
  clear HFEW
  cases t with
  | false =>
    clear hok
    go_wp2_with fail
    go_ret
    exact ⟨rfl, H0.out⟩
  | true =>
    have HOK := Lib.hid (hok rfl)
    have hn60 : n ≤ 60 := by have := (hok rfl).1; have := HN.out; omega
    clear hok
    go_wp2_with fail
    refine (HW.out w0).mono ?_
    rintro e w4 ⟨rfl, he⟩
    replace he := he.symm
    subst he
    clear HW
    go_wp2_with fail
    refine (nd_new (w0 := w) (X := NoX) (403 + m) (403 + m) (by omega) (by omega) (by omega) H0.out (nox_lt _)).mono ?_
    rintro e w1 ⟨r, rfl, h1, -⟩
    rw [show 403 + m = 401 + (2 + m) by omega] at h1
    have H1 := Lib.hid h1
    clear h1
    go_wp2_with fail
    refine (nd_open (N := 2 + m) H1.out (by omega) (by omega)).mono ?_
    rintro e w2 ⟨p, rfl, h2, -⟩
    have H2 := Lib.hid h2
    clear h2
    go_wp2_with fail
    refine (rmade_any (403 + m) (by omega) (by omega) (403 + (m : Int)) (by omega) w2).mono ?_
    rintro e w3 ⟨x, rfl, hrp, hb3⟩
    rw [show 403 + m - 401 = 2 + m by omega] at hrp
    have HPR := Lib.hid (Pr.begun H2.out hrp hb3)
    clear hrp hb3
    go_wp2_with fail
    go_loopw [6, 9, 10, 11] (fun p6 i _ _ wr => ∃ (k p : Nat) (S : PS) (T : Option PS) (G : Lg) (H : Option Lg), k ≤ n ∧ i = .int .i64 k ∧ p6 = .pointer (some ⟨p, 0, none⟩) ∧ Rl (2 + m) S T G H ∧ Pr w wr x r p (2 + m) k S T G H) (fun _ i _ _ _ => n - (intOf i).toNat)
    case atStart => exact ⟨0, p, _, _, _, _, Nat.zero_le _, rfl, rfl, ⟨RelS.new (by omega), trivial⟩, HPR.out⟩
    case round =>
      obtain ⟨k, p, S, T, G, H, hk, rfl, rfl, hrl, hpr⟩ := hrel
      have HRL := Lib.hid hrl
      have HP := Lib.hid hpr
      clear hrl hpr
      by_cases hlt : k < n
      · have hkl : k < l.length := by rw [← HN.out]; exact hlt
        obtain ⟨ao', cap', hsl, -, -, hE⟩ := HV.out.below HP.out.below
        rw [← HN.out] at hsl
        simp only [Value.slice.injEq, true_and] at hsl
        obtain ⟨rfl, rfl⟩ := hsl
        obtain ⟨b, off, rfl, -, c0, c1, hwf, u, c2, hu, hub⟩ := hE k hkl
        have hbl := HOK.out.2 k hkl
        obtain ⟨kd, hkd⟩ : ∃ y, y = l[k].1 := ⟨_, rfl⟩
        obtain ⟨z, hz⟩ : ∃ y, y = l[k].2.1 := ⟨_, rfl⟩
        obtain ⟨bs, hbs⟩ : ∃ y, y = l[k].2.2 := ⟨_, rfl⟩
        rw [← hkd] at c0
        rw [← hz] at c1 hwf
        rw [← hbs] at hu hub hbl
        obtain ⟨bo, bc, rfl, -⟩ := id hu
        have hw := within4_any kd 15 (by decide) (by decide)
        obtain ⟨q, hq⟩ : ∃ q, q = withinOf kd 15 := ⟨_, rfl⟩
        rw [← hq] at hw
        have HW := Lib.hid hw
        have hdo := do_any HP.out HRL.out (by omega) (by omega) (by omega) kd z _ bs hu hub hwf (by omega)
        have HDO := Lib.hid hdo
        have hlt' : (k : Int) < n := by omega
        obtain ⟨nb, hnb⟩ : ∃ nb, nb = bs.length := ⟨_, rfl⟩
        rw [← hnb] at c2 HDO
        clear hE hkd hz hbs hub hu hq hw hdo hwf hbl hnb
        by_cases hq : q = 14
        · go_wp2_with fail
          refine (HW.out wr).mono ?_
          rintro e w4 ⟨rfl, he⟩
          replace he := he.symm
          subst he
          clear HW HDO c0 c1 c2
          go_wp2_with fail
          refine (HP.out.opens (by omega) (by omega)).mono ?_
          rintro e w5 ⟨p', rfl, h5⟩
          have H5 := Lib.hid h5
          have k2 := h5.refers (C := fun S' T' => Rl (2 + m) S' T' G none) (fun Q hQ => rabort_rel hQ HRL.out)
          have K2 := Lib.hid k2
          clear h5 k2
          go_wp2_with fail
          refine K2.out.mono ?_
          rintro e w6 ⟨rfl, S', T', hr6, h6⟩
          have H6 := Lib.hid h6
          have HR6 := Lib.hid hr6
          have hs := same_any h6 hr6.both (by omega)
          have HS := Lib.hid hs
          clear h6 hr6 hs K2
          go_wp2_with fail
          refine HS.out.mono ?_
          rintro e w7 ⟨rfl, hb7⟩
          have H7 := Lib.hid ((H6.out.grow hb7).more (k + 1) (by omega))
          clear hb7 HS
          go_wp2_with fail
          go_roundw
          case rel => exact ⟨k + 1, p', _, _, _, _, by omega, by go_num, rfl, HR6.out, H7.out⟩
          case measure => simp [intOf]; omega
        · go_wp2_with fail
          refine (HW.out wr).mono ?_
          rintro e w4 ⟨rfl, he⟩
          replace he := he.symm
          subst he
          clear HW
          go_wp2_with fail
          refine HDO.out.mono ?_
          rintro e w5 ⟨rfl, S', T', G', H', hr6, h6⟩
          have H6 := Lib.hid h6
          have HR6 := Lib.hid hr6
          have hs := same_any h6 hr6.both (by omega)
          have HS := Lib.hid hs
          clear h6 hr6 hs HDO c0 c1 c2
          go_wp2_with fail
          refine HS.out.mono ?_
          rintro e w7 ⟨rfl, hb7⟩
          have H7 := Lib.hid (H6.out.grow hb7)
          clear hb7 HS
          go_wp2_with fail
          go_roundw
          case rel => exact ⟨k + 1, p, _, _, _, _, by omega, by go_num, rfl, HR6.out, H7.out⟩
          case measure => simp [intOf]; omega
      · obtain rfl : k = n := by omega
        go_wp2_with fail
        go_ret
        exact ⟨rfl, HP.out.below⟩
end Go.Proofs.Ytbdmlhmmdcdppaa
