/- triadref4's pager beside the disk and its pager; Same. -/
import Derived.Test.YtbdmlhmmdcdppaaR4g
import Derived.Deep.QuietTactic
import Derived.BigQuiet
namespace Go.Proofs.Ytbdmlhmmdcdppaa
open Go.RowKit Go.Maps
set_option maxRecDepth 100000

/-- Both pagers: triadref4's at x, with S and T; the one on the disk, with G and H. -/
def Pr (w0 w : World) (x r p N c : Nat) (S : PS) (T : Option PS) (G : Lg) (H : Option Lg) : Prop :=
  ∃ Q, Rp w Q x N S T ∧ Ps w0 w Q r p N c G H ∧ ∀ k, Q k → w0.heap.size ≤ k
section
variable {w0 w w' : World} {x r p N c : Nat} {S : PS} {T : Option PS} {G : Lg} {H : Option Lg}

theorem Ps.mvx {X X' P' : Nat → Prop} (h : Ps w0 w X r p N c G H) (hm : Moved P' w w') (hP : ∀ k, P' k → X k ∧ w0.heap.size ≤ k) (hX : ∀ k, X' k → X k ∨ (w.heap.size ≤ k ∧ k < w'.heap.size)) : Ps w0 w' X' r p N c G H := by
  obtain ⟨A, K, T, ⟨h1, h2, P, Q, h3, h4, h5, h6⟩, k⟩ := h
  have hs := hm.size
  refine ⟨A, K, T, ⟨h1.trans (hm.below (fun k hk => (hP k hk).2) h1.size), fun k hk => ?_, P, Q, h3.moved hm (fun k hk e => (h5 k hk).2.2 (hP k e).1), h4.moved hm (fun k hk e => (h6 k hk).2.2.1 (hP k e).1), fun k hk => ?_, fun k hk => ?_⟩, k⟩
  · rcases hX k hk with e | e
    · exact Nat.lt_of_lt_of_le (h2 k e) hs
    · exact e.2
  · have := h5 k hk
    exact ⟨this.1, by omega, fun e => by rcases hX k e with e | e; exact this.2.2 e; omega⟩
  · have := h6 k hk
    exact ⟨this.1, by omega, fun e => by rcases hX k e with e | e; exact this.2.2.1 e; omega, this.2.2.2⟩

theorem Pr.below (h : Pr w0 w x r p N c S T G H) : Below w0.heap.size w0 w := by obtain ⟨Q, -, h, -⟩ := h; exact h.below
theorem Pr.size (h : Pr w0 w x r p N c S T G H) : w0.heap.size ≤ w.heap.size := h.below.size
theorem Pr.more (h : Pr w0 w x r p N c S T G H) (c' : Nat) (hc : c ≤ c') : Pr w0 w x r p N c' S T G H := by
  obtain ⟨Q, h1, h2, h3⟩ := h; exact ⟨Q, h1, h2.more c' hc, h3⟩
theorem Pr.grow (h : Pr w0 w x r p N c S T G H) (hb : Below w.heap.size w w') : Pr w0 w' x r p N c S T G H := by
  obtain ⟨Q, h1, h2, h3⟩ := h
  exact ⟨Q, h1.moved (Moved.of_below hb (fun _ => False)) (fun _ _ h => h), h2.grow hb, h3⟩
theorem Pr.pages (h : Pr w0 w x r p N c S T G H) : w.cell? ⟨x, 0, none⟩ = some (.int .i64 N) := by
  obtain ⟨Q, ⟨mS, gS, mT, gT, nT, rT, QS, QT, hb, -⟩, -, -⟩ := h
  rw [hb.cell]; rfl
/-- A call of the disk's pager. -/
theorem Pr.pager {f : FuncId} {args : Array Value} {R : Ending → Prop} {p' c' : Nat} {G' : Lg} {H' : Option Lg} (h : Pr w0 w x r p N c S T G H)
    (hc : ∀ X, Ps w0 w X r p N c G H → Calls Try.prog f args w fun e w' => R e ∧ Ps w0 w' X r p' N c' G' H' ∧ Mx w0 X w w') :
    Calls Try.prog f args w fun e w' => R e ∧ Pr w0 w' x r p' N c' S T G' H' := by
  obtain ⟨Q, h1, h2, h3⟩ := h
  refine (hc Q h2).mono ?_
  rintro e w' ⟨hR, g1, g2⟩
  exact ⟨hR, Q, h1.moved g2 (fun k hk e => e.2 hk), g1, h3⟩
/-- A call of triadref4's. -/
theorem Pr.refer {f : FuncId} {args : Array Value} {R : Ending → Prop} {S' : PS} {T' : Option PS} (h : Pr w0 w x r p N c S T G H)
    (hc : ∀ Q, Rp w Q x N S T → Calls Try.prog f args w fun e w' => R e ∧ Rp w' (Gr Q w w') x N S' T' ∧ Moved Q w w') :
    Calls Try.prog f args w fun e w' => R e ∧ Pr w0 w' x r p N c S' T' G H := by
  obtain ⟨Q, h1, h2, h3⟩ := h
  refine (hc Q h1).mono ?_
  rintro e w' ⟨hR, g1, g2⟩
  exact ⟨hR, Gr Q w w', g1, h2.mvx g2 (fun k hk => ⟨hk, h3 k hk⟩) (fun k hk => hk), fun k hk => hk.elim (h3 k) (fun e => Nat.le_trans h2.below.size e.1)⟩
theorem Pr.ref (h : Pr w0 w x r p N c S T G H) : ∃ Q, Rp w Q x N S T := by obtain ⟨Q, h, -⟩ := h; exact ⟨Q, h⟩
theorem Pr.ps (h : Pr w0 w x r p N c S T G H) : ∃ Q, Ps w0 w Q r p N c G H := by obtain ⟨Q, -, h, -⟩ := h; exact ⟨Q, h⟩
end

set_option maxHeartbeats 2000000 in
theorem same_any {w0 w : World} {x r p N c : Nat} {S : PS} {T : Option PS} {G : Lg} {H : Option Lg} (h : Pr w0 w x r p N c S T G H) (hr : RelS N (T.getD S) (H.getD G)) (hN : N ≤ 400) :
    Calls Try.prog 18 #[.pointer (some ⟨p, 0, none⟩), .pointer (some ⟨x, 0, none⟩)] w fun e w' => e = .returned (.bool true) ∧ Below w.heap.size w w' := by
  have HP := Lib.hid h
  have HR := Lib.hid hr
  obtain ⟨X, hps⟩ := h.ps
  obtain ⟨Q, hrp⟩ := h.ref
  have k1 := ps_root hps
  have k2 := rroot_any hrp
  rw [hr.root] at k2
  have K1 := Lib.hid k1
  have K2 := Lib.hid k2
  clear h hr hps hrp k1 k2
  go_enter Try.func18, Try.ntmps18
  go_wp2_with fail
  refine K1.out.mono ?_
  rintro e w1 ⟨rfl, he⟩
  replace he := he.symm
  subst he
  go_wp2_with fail
  refine K2.out.mono ?_
  rintro e w2 ⟨rfl, hb2⟩
  have HP2 := Lib.hid (HP.out.grow hb2)
  have HB2 := Lib.hid hb2
  clear hb2
  obtain ⟨X, hps⟩ := HP2.out.ps
  have k3 := ps_free hps
  have K3 := Lib.hid k3
  clear hps k3
  go_wp2_with fail
  refine K3.out.mono ?_
  rintro e w1 ⟨rfl, he⟩
  replace he := he.symm
  subst he
  obtain ⟨Q, hrp⟩ := HP2.out.ref
  have k4 := rfree_any hrp (by omega) (by have := HR.out.num; omega)
  rw [show (N : Int) - 1 - (T.getD S).n = ((H.getD G).free.length : Nat) by have := HR.out.num; omega] at k4
  have K4 := Lib.hid k4
  clear hrp k4 K3
  go_wp2_with fail
  refine K4.out.mono ?_
  rintro e w3 ⟨rfl, hb3⟩
  have HB3 := Lib.hid (HB2.out.trans (hb3.mono HB2.out.size))
  clear hb3 K4
  go_wp2_with fail
  go_loopw [5, 6, 7, 8, 9] (fun i _ _ _ _ wr => ∃ j : Nat, j ≤ N + 2 ∧ i = .int .i64 ((j : Int) - 1) ∧ Below w.heap.size w wr) (fun i _ _ _ _ _ => N + 2 - (intOf i + 1).toNat)
  case atStart => exact ⟨0, Nat.zero_le _, rfl, HB3.out⟩
  case round =>
    obtain ⟨j, hj, rfl, hbr⟩ := hrel
    have HBR := Lib.hid hbr
    have hp := HP.out.grow hbr
    have c0 := hp.pages
    have HPR := Lib.hid hp
    clear hbr hp
    by_cases hlt : j < N + 2
    · have hwf : (Lit.int .i64 ((j : Int) - 1)).wf = true := WalkArith.wf_i64 (by omega)
      obtain ⟨X, hps⟩ := HPR.out.ps
      have k1 := ps_get ((j : Int) - 1) hps
      have K1 := Lib.hid k1
      have HWF := Lib.hid hwf
      have hle : (j : Int) - 1 ≤ N := by omega
      clear hps k1 hwf
      go_wp2_with fail
      refine K1.out.mono ?_
      rintro e w4 ⟨v, rfl, hv, -, hb4⟩
      obtain ⟨Q, hrp⟩ := (HPR.out.grow hb4).ref
      have k2 := rget_any ((j : Int) - 1) HWF.out hrp
      rw [HR.out.page] at k2
      have HV := Lib.hid hv
      have HB4 := Lib.hid (HBR.out.trans (hb4.mono HBR.out.size))
      have H44 := Lib.hid hb4
      obtain ⟨Y, hY⟩ : ∃ Y : ByteArray, Y = ⟨(if lgUsed N (H.getD G) ((j : Int) - 1) then (H.getD G).page ((j : Int) - 1).toNat else []).toArray⟩ := ⟨_, rfl⟩
      have HY := Lib.hid hY
      have e1 : ((if lgUsed N (H.getD G) ((j : Int) - 1) then some (⟨((H.getD G).page ((j : Int) - 1).toNat).toArray⟩ : ByteArray) else none).getD ByteArray.empty) = Y := by
        rw [hY]
        split <;> rfl
      have e2 : (if (if lgUsed N (H.getD G) ((j : Int) - 1) then some (⟨((H.getD G).page ((j : Int) - 1).toNat).toArray⟩ : ByteArray) else none).isSome then (0 : Int) else 1) = if lgUsed N (H.getD G) ((j : Int) - 1) then 0 else 1 := by
        split <;> rfl
      rw [e1, e2] at k2
      obtain ⟨f, hf⟩ : ∃ f : Int, f = if lgUsed N (H.getD G) ((j : Int) - 1) then 0 else 1 := ⟨_, rfl⟩
      rw [← hf] at k2 ⊢
      have K2 := Lib.hid k2
      clear hrp k2 hb4 hv e1 e2 hf hY K1
      go_wp2_with fail
      refine K2.out.mono ?_
      rintro e w5 ⟨rfl, hb5⟩
      have hcz := run_conv_bytes (HV.out.below hb5)
      rw [← HY.out] at hcz
      have HB5 := Lib.hid (HB4.out.trans (hb5.mono HB4.out.size))
      clear hb5 K2
      go_wp2_with fail
      go_roundw
      case rel => exact ⟨j + 1, by omega, by go_num, HB5.out⟩
      case measure => simp [intOf]; omega
    · obtain rfl : j = N + 2 := by omega
      go_wp2_with fail
      go_ret
      exact ⟨rfl, HBR.out⟩
end Go.Proofs.Ytbdmlhmmdcdppaa
