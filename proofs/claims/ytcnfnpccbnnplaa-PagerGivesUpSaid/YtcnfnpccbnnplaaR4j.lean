/- The acts of triadlaw4, at both pagers. -/
import Derived.Test.YtcnfnpccbnnplaaR4i
namespace Go.Proofs.Ytcnfnpccbnnplaa
open Go.RowKit Go.Maps
set_option maxRecDepth 100000
set_option linter.unusedVariables false

/-- An act came to its end: both answered alike, and lie beside each other. -/
def DoneTo (H : Option Lg) (k : Int) (w0 : World) (x r p N c : Nat) (e : Ending) (w' : World) : Prop :=
  e = .returned (.bool true) ∧ ∃ S' T' G' H', Rl N S' T' G' H' ∧ Pr w0 w' x r p N c S' T' G' H' ∧ (1 ≤ k → k ≤ 9 → H.isSome = true → H'.isSome = true)
theorem lgNew_keeps {H : Option Lg} (h : H.isSome = true) : (lgNew H).2.2.isSome = true := by
  cases H with
  | none => cases h
  | some H =>
    unfold lgNew
    dsimp only
    split <;> rfl
theorem lgPut_keeps {H : Option Lg} (N : Nat) (i : Int) (l : List UInt8) (h : H.isSome = true) : (lgPut N i l H).2.isSome = true := by
  cases H with
  | none => cases h
  | some H => rw [lgPut_some]; split <;> (try split) <;> rfl
theorem lgDrop_keeps {H : Option Lg} (N : Nat) (i : Int) (h : H.isSome = true) : (lgDrop N i H).2.isSome = true := by
  cases H with
  | none => cases h
  | some H => rw [lgDrop_some]; split <;> rfl
theorem lgRoot_keeps {H : Option Lg} (i : Int) (h : H.isSome = true) : (if 0 ≤ i then H.map (fun h => { h with root := i }) else H).isSome = true := by
  split
  · rw [Option.isSome_map]; exact h
  · exact h

theorem ps_begins {w0 w : World} {X : Nat → Prop} {r p N c : Nat} {G : Lg} {H : Option Lg} (h : Ps w0 w X r p N c G H) :
    Calls Try.prog 13 #[.pointer (some ⟨p, 0, none⟩)] w fun e w' => e = .returned (.int .i64 (if H.isSome then 12 else 0)) ∧ Ps w0 w' X r p N c G (some (H.getD G)) ∧ Mx w0 X w w' := by
  cases H with
  | none => exact ps_begin h
  | some H' =>
    refine (ps_busy h).mono ?_
    rintro e w' ⟨rfl, he⟩
    subst he
    exact ⟨rfl, h, Mx.refl _ _ _⟩

set_option maxHeartbeats 4000000 in
theorem do_begin0 {w0 w : World} {x r p N c : Nat} {S : PS} {T : Option PS} {G : Lg} {H : Option Lg} (h : Pr w0 w x r p N c S T G H) (hr : Rl N S T G H) (hN : N ≤ 400) (hN2 : 2 ≤ N) (hc : c < 123) (kind z : Int) (v : Value) (b : List UInt8) (hv : Bs w v b) (hk : withinOf kind 14 = 0) :
    Calls Try.prog 16 #[.agg #[.int .i64 kind, .int .i64 z, v], .pointer (some ⟨p, 0, none⟩), .pointer (some ⟨x, 0, none⟩)] w fun e w' => DoneTo H (withinOf kind 14) w0 x r p N (c + 1) e w' := by
  obtain ⟨ao, cap, rfl, hc1, hc2, -⟩ := id hv
  have hal : Below w.heap.size w (w.alloc (.cells #[.int .i64 kind, .int .i64 z, .slice ao b.length cap] 39)) := (Below.refl _ w).alloc (Nat.le_refl _) _
  have hb := Blk.new w #[.int .i64 kind, .int .i64 z, .slice ao b.length cap] 39
  have hp1 := h.grow hal
  have hv1 := hv.below hal
  obtain ⟨w1, hw1⟩ : ∃ w1, w1 = w.alloc (.cells #[.int .i64 kind, .int .i64 z, .slice ao b.length cap] 39) := ⟨_, rfl⟩
  rw [← hw1] at hb hp1 hv1
  have hrg := within_range z ((N : Int) + 2) (by omega)
  have hw := within4_any z ((N : Int) + 2) (by omega) (by omega)
  obtain ⟨at', hat⟩ : ∃ y, y = withinOf z ((N : Int) + 2) := ⟨_, rfl⟩
  rw [← hat] at hrg hw
  have hw2 := within4_any kind 14 (by decide) (by decide)
  rw [hk] at hw2
  have HKD := Lib.hid hk
  obtain ⟨nb, hnb⟩ : ∃ nb, nb = b.length := ⟨_, rfl⟩
  rw [← hnb] at hb hw1
  have cN : w1.cell? ⟨x, 0, none⟩ = some (.int .i64 N) := hp1.pages
  have cz : w1.cell? ⟨w.heap.size, 1, none⟩ = some (.int .i64 z) := by rw [hb.cell]; rfl
  have HW1 := Lib.hid hw1
  have HB := Lib.hid hb
  have HP := Lib.hid hp1
  have HV := Lib.hid hv1
  have HW := Lib.hid hw
  have HW2 := Lib.hid hw2
  have HR := Lib.hid hr
  have HNB := Lib.hid hnb
  have hr1 := hrg.1
  have hr2 := hrg.2
  have hwN : IntKind.i64.wrap ((N : Int) + 2) = (N : Int) + 2 := IntWalk.i64_in _ (by omega)
  have hwA : IntKind.i64.wrap (at' - 1) = at' - 1 := IntWalk.i64_in _ (by omega)
  rw [← hnb]
  clear h hr hv hal hb hp1 hv1 hw hw2 hk hat hw1 hnb hrg hc2 hc1
  go_enter Try.func16, Try.ntmps16
  go_wp2_with fail
  rw [← HW1.out]
  go_quiet ((go_at_call 15; exact Calls.quiet_of_same (HW.out _)))
  clear hwN hwA
  have hbd : Below w1.heap.size w1 (w1.drewN nq) := grownBy_below (grownBy_drewN _ _ _)
  have HP2 := Lib.hid (HP.out.grow hbd)
  have HV2 := Lib.hid (HV.out.below hbd)
  have hb2 := HB.out.moved (Moved.of_below hbd (fun _ => False)) (fun h => h)
  have HB2 := Lib.hid hb2
  have ck : (w1.drewN nq).cell? ⟨w.heap.size, 0, none⟩ = some (.int .i64 kind) := by rw [hb2.cell]; rfl
  generalize w1.drewN nq = w2 at HP2 HV2 HB2 ck ⊢
  clear hbd hb2 HP HB HV HW cN cz HW1
  go_wp2_with fail
  refine (HW2.out w2).mono ?_
  rintro e w3 ⟨rfl, he⟩
  replace he := he.symm
  subst he
  clear HW2
  obtain ⟨f0, hf0⟩ : ∃ f : Int, f = if H.isSome then 12 else 0 := ⟨_, rfl⟩
  have HF0 := Lib.hid hf0
  clear hf0
  have k1 := HP2.out.pager (R := fun e => e = .returned (.int .i64 f0)) (fun X hX => by rw [HF0.out]; exact ps_begins hX)
  have K1 := Lib.hid k1
  clear k1
  go_wp2_with fail
  refine K1.out.mono ?_
  rintro e w4 ⟨rfl, h4⟩
  have H4 := Lib.hid h4
  have k2 := h4.refers (C := fun S' T' => Rl N S' T' G (some (H.getD G))) (R := fun e => e = .returned (.int .i64 f0)) (fun Q hQ => by have q := rbegin_rel hQ HR.out; rw [← HF0.out] at q; exact q)
  have K2 := Lib.hid k2
  clear h4 k2 K1
  go_wp2_with fail
  refine K2.out.mono ?_
  rintro e w5 ⟨rfl, S', T', hr5, h5⟩
  have H5 := Lib.hid h5
  have HR5 := Lib.hid hr5
  clear h5 hr5 K2
  go_wp2_with fail
  go_ret
  exact ⟨rfl, S', T', _, _, HR5.out, H5.out.more _ (by omega), fun _ _ _ => rfl⟩

set_option maxHeartbeats 4000000 in
theorem do_new1 {w0 w : World} {x r p N c : Nat} {S : PS} {T : Option PS} {G : Lg} {H : Option Lg} (h : Pr w0 w x r p N c S T G H) (hr : Rl N S T G H) (hN : N ≤ 400) (hN2 : 2 ≤ N) (hc : c < 123) (kind z : Int) (v : Value) (b : List UInt8) (hv : Bs w v b) (hk : withinOf kind 14 = 1) :
    Calls Try.prog 16 #[.agg #[.int .i64 kind, .int .i64 z, v], .pointer (some ⟨p, 0, none⟩), .pointer (some ⟨x, 0, none⟩)] w fun e w' => DoneTo H (withinOf kind 14) w0 x r p N (c + 1) e w' := by
  obtain ⟨ao, cap, rfl, hc1, hc2, -⟩ := id hv
  have hal : Below w.heap.size w (w.alloc (.cells #[.int .i64 kind, .int .i64 z, .slice ao b.length cap] 39)) := (Below.refl _ w).alloc (Nat.le_refl _) _
  have hb := Blk.new w #[.int .i64 kind, .int .i64 z, .slice ao b.length cap] 39
  have hp1 := h.grow hal
  have hv1 := hv.below hal
  obtain ⟨w1, hw1⟩ : ∃ w1, w1 = w.alloc (.cells #[.int .i64 kind, .int .i64 z, .slice ao b.length cap] 39) := ⟨_, rfl⟩
  rw [← hw1] at hb hp1 hv1
  have hrg := within_range z ((N : Int) + 2) (by omega)
  have hw := within4_any z ((N : Int) + 2) (by omega) (by omega)
  obtain ⟨at', hat⟩ : ∃ y, y = withinOf z ((N : Int) + 2) := ⟨_, rfl⟩
  rw [← hat] at hrg hw
  have hw2 := within4_any kind 14 (by decide) (by decide)
  rw [hk] at hw2
  have HKD := Lib.hid hk
  obtain ⟨nb, hnb⟩ : ∃ nb, nb = b.length := ⟨_, rfl⟩
  rw [← hnb] at hb hw1
  have cN : w1.cell? ⟨x, 0, none⟩ = some (.int .i64 N) := hp1.pages
  have cz : w1.cell? ⟨w.heap.size, 1, none⟩ = some (.int .i64 z) := by rw [hb.cell]; rfl
  have HW1 := Lib.hid hw1
  have HB := Lib.hid hb
  have HP := Lib.hid hp1
  have HV := Lib.hid hv1
  have HW := Lib.hid hw
  have HW2 := Lib.hid hw2
  have HR := Lib.hid hr
  have HNB := Lib.hid hnb
  have hr1 := hrg.1
  have hr2 := hrg.2
  have hwN : IntKind.i64.wrap ((N : Int) + 2) = (N : Int) + 2 := IntWalk.i64_in _ (by omega)
  have hwA : IntKind.i64.wrap (at' - 1) = at' - 1 := IntWalk.i64_in _ (by omega)
  rw [← hnb]
  clear h hr hv hal hb hp1 hv1 hw hw2 hk hat hw1 hnb hrg hc2 hc1
  go_enter Try.func16, Try.ntmps16
  go_wp2_with fail
  rw [← HW1.out]
  go_quiet ((go_at_call 15; exact Calls.quiet_of_same (HW.out _)))
  clear hwN hwA
  have hbd : Below w1.heap.size w1 (w1.drewN nq) := grownBy_below (grownBy_drewN _ _ _)
  have HP2 := Lib.hid (HP.out.grow hbd)
  have HV2 := Lib.hid (HV.out.below hbd)
  have hb2 := HB.out.moved (Moved.of_below hbd (fun _ => False)) (fun h => h)
  have HB2 := Lib.hid hb2
  have ck : (w1.drewN nq).cell? ⟨w.heap.size, 0, none⟩ = some (.int .i64 kind) := by rw [hb2.cell]; rfl
  generalize w1.drewN nq = w2 at HP2 HV2 HB2 ck ⊢
  clear hbd hb2 HP HB HV HW cN cz HW1
  go_wp2_with fail
  refine (HW2.out w2).mono ?_
  rintro e w3 ⟨rfl, he⟩
  replace he := he.symm
  subst he
  clear HW2
  have k1 := HP2.out.pager (R := fun e => e = .returned (.tuple #[.int .i64 (lgNew H).1, .int .i64 (lgNew H).2.1])) (fun X hX => ps_new hX hc)
  have K1 := Lib.hid k1
  clear k1
  go_wp2_with fail
  refine K1.out.mono ?_
  rintro e w4 ⟨rfl, h4⟩
  have H4 := Lib.hid h4
  have k2 := h4.refers (C := fun S' T' => Rl N S' T' G (lgNew H).2.2) (fun Q hQ => rnew_rel hQ HR.out hN)
  have K2 := Lib.hid k2
  clear h4 k2 K1
  go_wp2_with fail
  refine K2.out.mono ?_
  rintro e w5 ⟨rfl, S', T', hr5, h5⟩
  have H5 := Lib.hid h5
  have HR5 := Lib.hid hr5
  clear h5 hr5 K2
  go_wp2_with fail
  go_ret
  exact ⟨rfl, S', T', _, _, HR5.out, H5.out, fun _ _ h => lgNew_keeps h⟩

set_option maxHeartbeats 4000000 in
theorem do_new2 {w0 w : World} {x r p N c : Nat} {S : PS} {T : Option PS} {G : Lg} {H : Option Lg} (h : Pr w0 w x r p N c S T G H) (hr : Rl N S T G H) (hN : N ≤ 400) (hN2 : 2 ≤ N) (hc : c < 123) (kind z : Int) (v : Value) (b : List UInt8) (hv : Bs w v b) (hk : withinOf kind 14 = 2) :
    Calls Try.prog 16 #[.agg #[.int .i64 kind, .int .i64 z, v], .pointer (some ⟨p, 0, none⟩), .pointer (some ⟨x, 0, none⟩)] w fun e w' => DoneTo H (withinOf kind 14) w0 x r p N (c + 1) e w' := by
  obtain ⟨ao, cap, rfl, hc1, hc2, -⟩ := id hv
  have hal : Below w.heap.size w (w.alloc (.cells #[.int .i64 kind, .int .i64 z, .slice ao b.length cap] 39)) := (Below.refl _ w).alloc (Nat.le_refl _) _
  have hb := Blk.new w #[.int .i64 kind, .int .i64 z, .slice ao b.length cap] 39
  have hp1 := h.grow hal
  have hv1 := hv.below hal
  obtain ⟨w1, hw1⟩ : ∃ w1, w1 = w.alloc (.cells #[.int .i64 kind, .int .i64 z, .slice ao b.length cap] 39) := ⟨_, rfl⟩
  rw [← hw1] at hb hp1 hv1
  have hrg := within_range z ((N : Int) + 2) (by omega)
  have hw := within4_any z ((N : Int) + 2) (by omega) (by omega)
  obtain ⟨at', hat⟩ : ∃ y, y = withinOf z ((N : Int) + 2) := ⟨_, rfl⟩
  rw [← hat] at hrg hw
  have hw2 := within4_any kind 14 (by decide) (by decide)
  rw [hk] at hw2
  have HKD := Lib.hid hk
  obtain ⟨nb, hnb⟩ : ∃ nb, nb = b.length := ⟨_, rfl⟩
  rw [← hnb] at hb hw1
  have cN : w1.cell? ⟨x, 0, none⟩ = some (.int .i64 N) := hp1.pages
  have cz : w1.cell? ⟨w.heap.size, 1, none⟩ = some (.int .i64 z) := by rw [hb.cell]; rfl
  have HW1 := Lib.hid hw1
  have HB := Lib.hid hb
  have HP := Lib.hid hp1
  have HV := Lib.hid hv1
  have HW := Lib.hid hw
  have HW2 := Lib.hid hw2
  have HR := Lib.hid hr
  have HNB := Lib.hid hnb
  have hr1 := hrg.1
  have hr2 := hrg.2
  have hwN : IntKind.i64.wrap ((N : Int) + 2) = (N : Int) + 2 := IntWalk.i64_in _ (by omega)
  have hwA : IntKind.i64.wrap (at' - 1) = at' - 1 := IntWalk.i64_in _ (by omega)
  rw [← hnb]
  clear h hr hv hal hb hp1 hv1 hw hw2 hk hat hw1 hnb hrg hc2 hc1
  go_enter Try.func16, Try.ntmps16
  go_wp2_with fail
  rw [← HW1.out]
  go_quiet ((go_at_call 15; exact Calls.quiet_of_same (HW.out _)))
  clear hwN hwA
  have hbd : Below w1.heap.size w1 (w1.drewN nq) := grownBy_below (grownBy_drewN _ _ _)
  have HP2 := Lib.hid (HP.out.grow hbd)
  have HV2 := Lib.hid (HV.out.below hbd)
  have hb2 := HB.out.moved (Moved.of_below hbd (fun _ => False)) (fun h => h)
  have HB2 := Lib.hid hb2
  have ck : (w1.drewN nq).cell? ⟨w.heap.size, 0, none⟩ = some (.int .i64 kind) := by rw [hb2.cell]; rfl
  generalize w1.drewN nq = w2 at HP2 HV2 HB2 ck ⊢
  clear hbd hb2 HP HB HV HW cN cz HW1
  go_wp2_with fail
  refine (HW2.out w2).mono ?_
  rintro e w3 ⟨rfl, he⟩
  replace he := he.symm
  subst he
  clear HW2
  have k1 := HP2.out.pager (R := fun e => e = .returned (.tuple #[.int .i64 (lgNew H).1, .int .i64 (lgNew H).2.1])) (fun X hX => ps_new hX hc)
  have K1 := Lib.hid k1
  clear k1
  go_wp2_with fail
  refine K1.out.mono ?_
  rintro e w4 ⟨rfl, h4⟩
  have H4 := Lib.hid h4
  have k2 := h4.refers (C := fun S' T' => Rl N S' T' G (lgNew H).2.2) (fun Q hQ => rnew_rel hQ HR.out hN)
  have K2 := Lib.hid k2
  clear h4 k2 K1
  go_wp2_with fail
  refine K2.out.mono ?_
  rintro e w5 ⟨rfl, S', T', hr5, h5⟩
  have H5 := Lib.hid h5
  have HR5 := Lib.hid hr5
  clear h5 hr5 K2
  go_wp2_with fail
  go_ret
  exact ⟨rfl, S', T', _, _, HR5.out, H5.out, fun _ _ h => lgNew_keeps h⟩

set_option maxHeartbeats 4000000 in
theorem do_new3 {w0 w : World} {x r p N c : Nat} {S : PS} {T : Option PS} {G : Lg} {H : Option Lg} (h : Pr w0 w x r p N c S T G H) (hr : Rl N S T G H) (hN : N ≤ 400) (hN2 : 2 ≤ N) (hc : c < 123) (kind z : Int) (v : Value) (b : List UInt8) (hv : Bs w v b) (hk : withinOf kind 14 = 3) :
    Calls Try.prog 16 #[.agg #[.int .i64 kind, .int .i64 z, v], .pointer (some ⟨p, 0, none⟩), .pointer (some ⟨x, 0, none⟩)] w fun e w' => DoneTo H (withinOf kind 14) w0 x r p N (c + 1) e w' := by
  obtain ⟨ao, cap, rfl, hc1, hc2, -⟩ := id hv
  have hal : Below w.heap.size w (w.alloc (.cells #[.int .i64 kind, .int .i64 z, .slice ao b.length cap] 39)) := (Below.refl _ w).alloc (Nat.le_refl _) _
  have hb := Blk.new w #[.int .i64 kind, .int .i64 z, .slice ao b.length cap] 39
  have hp1 := h.grow hal
  have hv1 := hv.below hal
  obtain ⟨w1, hw1⟩ : ∃ w1, w1 = w.alloc (.cells #[.int .i64 kind, .int .i64 z, .slice ao b.length cap] 39) := ⟨_, rfl⟩
  rw [← hw1] at hb hp1 hv1
  have hrg := within_range z ((N : Int) + 2) (by omega)
  have hw := within4_any z ((N : Int) + 2) (by omega) (by omega)
  obtain ⟨at', hat⟩ : ∃ y, y = withinOf z ((N : Int) + 2) := ⟨_, rfl⟩
  rw [← hat] at hrg hw
  have hw2 := within4_any kind 14 (by decide) (by decide)
  rw [hk] at hw2
  have HKD := Lib.hid hk
  obtain ⟨nb, hnb⟩ : ∃ nb, nb = b.length := ⟨_, rfl⟩
  rw [← hnb] at hb hw1
  have cN : w1.cell? ⟨x, 0, none⟩ = some (.int .i64 N) := hp1.pages
  have cz : w1.cell? ⟨w.heap.size, 1, none⟩ = some (.int .i64 z) := by rw [hb.cell]; rfl
  have HW1 := Lib.hid hw1
  have HB := Lib.hid hb
  have HP := Lib.hid hp1
  have HV := Lib.hid hv1
  have HW := Lib.hid hw
  have HW2 := Lib.hid hw2
  have HR := Lib.hid hr
  have HNB := Lib.hid hnb
  have hr1 := hrg.1
  have hr2 := hrg.2
  have hwN : IntKind.i64.wrap ((N : Int) + 2) = (N : Int) + 2 := IntWalk.i64_in _ (by omega)
  have hwA : IntKind.i64.wrap (at' - 1) = at' - 1 := IntWalk.i64_in _ (by omega)
  rw [← hnb]
  clear h hr hv hal hb hp1 hv1 hw hw2 hk hat hw1 hnb hrg hc2 hc1
  go_enter Try.func16, Try.ntmps16
  go_wp2_with fail
  rw [← HW1.out]
  go_quiet ((go_at_call 15; exact Calls.quiet_of_same (HW.out _)))
  clear hwN hwA
  have hbd : Below w1.heap.size w1 (w1.drewN nq) := grownBy_below (grownBy_drewN _ _ _)
  have HP2 := Lib.hid (HP.out.grow hbd)
  have HV2 := Lib.hid (HV.out.below hbd)
  have hb2 := HB.out.moved (Moved.of_below hbd (fun _ => False)) (fun h => h)
  have HB2 := Lib.hid hb2
  have ck : (w1.drewN nq).cell? ⟨w.heap.size, 0, none⟩ = some (.int .i64 kind) := by rw [hb2.cell]; rfl
  generalize w1.drewN nq = w2 at HP2 HV2 HB2 ck ⊢
  clear hbd hb2 HP HB HV HW cN cz HW1
  go_wp2_with fail
  refine (HW2.out w2).mono ?_
  rintro e w3 ⟨rfl, he⟩
  replace he := he.symm
  subst he
  clear HW2
  have k1 := HP2.out.pager (R := fun e => e = .returned (.tuple #[.int .i64 (lgNew H).1, .int .i64 (lgNew H).2.1])) (fun X hX => ps_new hX hc)
  have K1 := Lib.hid k1
  clear k1
  go_wp2_with fail
  refine K1.out.mono ?_
  rintro e w4 ⟨rfl, h4⟩
  have H4 := Lib.hid h4
  have k2 := h4.refers (C := fun S' T' => Rl N S' T' G (lgNew H).2.2) (fun Q hQ => rnew_rel hQ HR.out hN)
  have K2 := Lib.hid k2
  clear h4 k2 K1
  go_wp2_with fail
  refine K2.out.mono ?_
  rintro e w5 ⟨rfl, S', T', hr5, h5⟩
  have H5 := Lib.hid h5
  have HR5 := Lib.hid hr5
  clear h5 hr5 K2
  go_wp2_with fail
  go_ret
  exact ⟨rfl, S', T', _, _, HR5.out, H5.out, fun _ _ h => lgNew_keeps h⟩

set_option maxHeartbeats 4000000 in
theorem do_drop7 {w0 w : World} {x r p N c : Nat} {S : PS} {T : Option PS} {G : Lg} {H : Option Lg} (h : Pr w0 w x r p N c S T G H) (hr : Rl N S T G H) (hN : N ≤ 400) (hN2 : 2 ≤ N) (hc : c < 123) (kind z : Int) (v : Value) (b : List UInt8) (hv : Bs w v b) (hk : withinOf kind 14 = 7) :
    Calls Try.prog 16 #[.agg #[.int .i64 kind, .int .i64 z, v], .pointer (some ⟨p, 0, none⟩), .pointer (some ⟨x, 0, none⟩)] w fun e w' => DoneTo H (withinOf kind 14) w0 x r p N (c + 1) e w' := by
  obtain ⟨ao, cap, rfl, hc1, hc2, -⟩ := id hv
  have hal : Below w.heap.size w (w.alloc (.cells #[.int .i64 kind, .int .i64 z, .slice ao b.length cap] 39)) := (Below.refl _ w).alloc (Nat.le_refl _) _
  have hb := Blk.new w #[.int .i64 kind, .int .i64 z, .slice ao b.length cap] 39
  have hp1 := h.grow hal
  have hv1 := hv.below hal
  obtain ⟨w1, hw1⟩ : ∃ w1, w1 = w.alloc (.cells #[.int .i64 kind, .int .i64 z, .slice ao b.length cap] 39) := ⟨_, rfl⟩
  rw [← hw1] at hb hp1 hv1
  have hrg := within_range z ((N : Int) + 2) (by omega)
  have hw := within4_any z ((N : Int) + 2) (by omega) (by omega)
  obtain ⟨at', hat⟩ : ∃ y, y = withinOf z ((N : Int) + 2) := ⟨_, rfl⟩
  rw [← hat] at hrg hw
  have hw2 := within4_any kind 14 (by decide) (by decide)
  rw [hk] at hw2
  have HKD := Lib.hid hk
  obtain ⟨nb, hnb⟩ : ∃ nb, nb = b.length := ⟨_, rfl⟩
  rw [← hnb] at hb hw1
  have cN : w1.cell? ⟨x, 0, none⟩ = some (.int .i64 N) := hp1.pages
  have cz : w1.cell? ⟨w.heap.size, 1, none⟩ = some (.int .i64 z) := by rw [hb.cell]; rfl
  have HW1 := Lib.hid hw1
  have HB := Lib.hid hb
  have HP := Lib.hid hp1
  have HV := Lib.hid hv1
  have HW := Lib.hid hw
  have HW2 := Lib.hid hw2
  have HR := Lib.hid hr
  have HNB := Lib.hid hnb
  have hr1 := hrg.1
  have hr2 := hrg.2
  have hwN : IntKind.i64.wrap ((N : Int) + 2) = (N : Int) + 2 := IntWalk.i64_in _ (by omega)
  have hwA : IntKind.i64.wrap (at' - 1) = at' - 1 := IntWalk.i64_in _ (by omega)
  rw [← hnb]
  clear h hr hv hal hb hp1 hv1 hw hw2 hk hat hw1 hnb hrg hc2 hc1
  go_enter Try.func16, Try.ntmps16
  go_wp2_with fail
  rw [← HW1.out]
  go_quiet ((go_at_call 15; exact Calls.quiet_of_same (HW.out _)))
  clear hwN hwA
  have hbd : Below w1.heap.size w1 (w1.drewN nq) := grownBy_below (grownBy_drewN _ _ _)
  have HP2 := Lib.hid (HP.out.grow hbd)
  have HV2 := Lib.hid (HV.out.below hbd)
  have hb2 := HB.out.moved (Moved.of_below hbd (fun _ => False)) (fun h => h)
  have HB2 := Lib.hid hb2
  have ck : (w1.drewN nq).cell? ⟨w.heap.size, 0, none⟩ = some (.int .i64 kind) := by rw [hb2.cell]; rfl
  generalize w1.drewN nq = w2 at HP2 HV2 HB2 ck ⊢
  clear hbd hb2 HP HB HV HW cN cz HW1
  go_wp2_with fail
  refine (HW2.out w2).mono ?_
  rintro e w3 ⟨rfl, he⟩
  replace he := he.symm
  subst he
  clear HW2
  have k1 := HP2.out.pager (R := fun e => e = .returned (.int .i64 (lgDrop N (at' - 1) H).1)) (fun X hX => ps_drop (at' - 1) hX)
  have K1 := Lib.hid k1
  clear k1
  go_wp2_with fail
  refine K1.out.mono ?_
  rintro e w4 ⟨rfl, h4⟩
  have H4 := Lib.hid h4
  have k2 := h4.refers (C := fun S' T' => Rl N S' T' G (lgDrop N (at' - 1) H).2) (fun Q hQ => rdrop_rel (at' - 1) (WalkArith.wf_i64 (by omega)) hQ HR.out hN)
  have K2 := Lib.hid k2
  clear h4 k2 K1
  go_wp2_with fail
  refine K2.out.mono ?_
  rintro e w5 ⟨rfl, S', T', hr5, h5⟩
  have H5 := Lib.hid h5
  have HR5 := Lib.hid hr5
  clear h5 hr5 K2
  go_wp2_with fail
  go_ret
  exact ⟨rfl, S', T', _, _, HR5.out, H5.out, fun _ _ h => lgDrop_keeps _ _ h⟩

set_option maxHeartbeats 4000000 in
theorem do_drop8 {w0 w : World} {x r p N c : Nat} {S : PS} {T : Option PS} {G : Lg} {H : Option Lg} (h : Pr w0 w x r p N c S T G H) (hr : Rl N S T G H) (hN : N ≤ 400) (hN2 : 2 ≤ N) (hc : c < 123) (kind z : Int) (v : Value) (b : List UInt8) (hv : Bs w v b) (hk : withinOf kind 14 = 8) :
    Calls Try.prog 16 #[.agg #[.int .i64 kind, .int .i64 z, v], .pointer (some ⟨p, 0, none⟩), .pointer (some ⟨x, 0, none⟩)] w fun e w' => DoneTo H (withinOf kind 14) w0 x r p N (c + 1) e w' := by
  obtain ⟨ao, cap, rfl, hc1, hc2, -⟩ := id hv
  have hal : Below w.heap.size w (w.alloc (.cells #[.int .i64 kind, .int .i64 z, .slice ao b.length cap] 39)) := (Below.refl _ w).alloc (Nat.le_refl _) _
  have hb := Blk.new w #[.int .i64 kind, .int .i64 z, .slice ao b.length cap] 39
  have hp1 := h.grow hal
  have hv1 := hv.below hal
  obtain ⟨w1, hw1⟩ : ∃ w1, w1 = w.alloc (.cells #[.int .i64 kind, .int .i64 z, .slice ao b.length cap] 39) := ⟨_, rfl⟩
  rw [← hw1] at hb hp1 hv1
  have hrg := within_range z ((N : Int) + 2) (by omega)
  have hw := within4_any z ((N : Int) + 2) (by omega) (by omega)
  obtain ⟨at', hat⟩ : ∃ y, y = withinOf z ((N : Int) + 2) := ⟨_, rfl⟩
  rw [← hat] at hrg hw
  have hw2 := within4_any kind 14 (by decide) (by decide)
  rw [hk] at hw2
  have HKD := Lib.hid hk
  obtain ⟨nb, hnb⟩ : ∃ nb, nb = b.length := ⟨_, rfl⟩
  rw [← hnb] at hb hw1
  have cN : w1.cell? ⟨x, 0, none⟩ = some (.int .i64 N) := hp1.pages
  have cz : w1.cell? ⟨w.heap.size, 1, none⟩ = some (.int .i64 z) := by rw [hb.cell]; rfl
  have HW1 := Lib.hid hw1
  have HB := Lib.hid hb
  have HP := Lib.hid hp1
  have HV := Lib.hid hv1
  have HW := Lib.hid hw
  have HW2 := Lib.hid hw2
  have HR := Lib.hid hr
  have HNB := Lib.hid hnb
  have hr1 := hrg.1
  have hr2 := hrg.2
  have hwN : IntKind.i64.wrap ((N : Int) + 2) = (N : Int) + 2 := IntWalk.i64_in _ (by omega)
  have hwA : IntKind.i64.wrap (at' - 1) = at' - 1 := IntWalk.i64_in _ (by omega)
  rw [← hnb]
  clear h hr hv hal hb hp1 hv1 hw hw2 hk hat hw1 hnb hrg hc2 hc1
  go_enter Try.func16, Try.ntmps16
  go_wp2_with fail
  rw [← HW1.out]
  go_quiet ((go_at_call 15; exact Calls.quiet_of_same (HW.out _)))
  clear hwN hwA
  have hbd : Below w1.heap.size w1 (w1.drewN nq) := grownBy_below (grownBy_drewN _ _ _)
  have HP2 := Lib.hid (HP.out.grow hbd)
  have HV2 := Lib.hid (HV.out.below hbd)
  have hb2 := HB.out.moved (Moved.of_below hbd (fun _ => False)) (fun h => h)
  have HB2 := Lib.hid hb2
  have ck : (w1.drewN nq).cell? ⟨w.heap.size, 0, none⟩ = some (.int .i64 kind) := by rw [hb2.cell]; rfl
  generalize w1.drewN nq = w2 at HP2 HV2 HB2 ck ⊢
  clear hbd hb2 HP HB HV HW cN cz HW1
  go_wp2_with fail
  refine (HW2.out w2).mono ?_
  rintro e w3 ⟨rfl, he⟩
  replace he := he.symm
  subst he
  clear HW2
  have k1 := HP2.out.pager (R := fun e => e = .returned (.int .i64 (lgDrop N (at' - 1) H).1)) (fun X hX => ps_drop (at' - 1) hX)
  have K1 := Lib.hid k1
  clear k1
  go_wp2_with fail
  refine K1.out.mono ?_
  rintro e w4 ⟨rfl, h4⟩
  have H4 := Lib.hid h4
  have k2 := h4.refers (C := fun S' T' => Rl N S' T' G (lgDrop N (at' - 1) H).2) (fun Q hQ => rdrop_rel (at' - 1) (WalkArith.wf_i64 (by omega)) hQ HR.out hN)
  have K2 := Lib.hid k2
  clear h4 k2 K1
  go_wp2_with fail
  refine K2.out.mono ?_
  rintro e w5 ⟨rfl, S', T', hr5, h5⟩
  have H5 := Lib.hid h5
  have HR5 := Lib.hid hr5
  clear h5 hr5 K2
  go_wp2_with fail
  go_ret
  exact ⟨rfl, S', T', _, _, HR5.out, H5.out, fun _ _ h => lgDrop_keeps _ _ h⟩

set_option maxHeartbeats 4000000 in
theorem do_commit10 {w0 w : World} {x r p N c : Nat} {S : PS} {T : Option PS} {G : Lg} {H : Option Lg} (h : Pr w0 w x r p N c S T G H) (hr : Rl N S T G H) (hN : N ≤ 400) (hN2 : 2 ≤ N) (hc : c < 123) (kind z : Int) (v : Value) (b : List UInt8) (hv : Bs w v b) (hk : withinOf kind 14 = 10) :
    Calls Try.prog 16 #[.agg #[.int .i64 kind, .int .i64 z, v], .pointer (some ⟨p, 0, none⟩), .pointer (some ⟨x, 0, none⟩)] w fun e w' => DoneTo H (withinOf kind 14) w0 x r p N (c + 1) e w' := by
  obtain ⟨ao, cap, rfl, hc1, hc2, -⟩ := id hv
  have hal : Below w.heap.size w (w.alloc (.cells #[.int .i64 kind, .int .i64 z, .slice ao b.length cap] 39)) := (Below.refl _ w).alloc (Nat.le_refl _) _
  have hb := Blk.new w #[.int .i64 kind, .int .i64 z, .slice ao b.length cap] 39
  have hp1 := h.grow hal
  have hv1 := hv.below hal
  obtain ⟨w1, hw1⟩ : ∃ w1, w1 = w.alloc (.cells #[.int .i64 kind, .int .i64 z, .slice ao b.length cap] 39) := ⟨_, rfl⟩
  rw [← hw1] at hb hp1 hv1
  have hrg := within_range z ((N : Int) + 2) (by omega)
  have hw := within4_any z ((N : Int) + 2) (by omega) (by omega)
  obtain ⟨at', hat⟩ : ∃ y, y = withinOf z ((N : Int) + 2) := ⟨_, rfl⟩
  rw [← hat] at hrg hw
  have hw2 := within4_any kind 14 (by decide) (by decide)
  rw [hk] at hw2
  have HKD := Lib.hid hk
  obtain ⟨nb, hnb⟩ : ∃ nb, nb = b.length := ⟨_, rfl⟩
  rw [← hnb] at hb hw1
  have cN : w1.cell? ⟨x, 0, none⟩ = some (.int .i64 N) := hp1.pages
  have cz : w1.cell? ⟨w.heap.size, 1, none⟩ = some (.int .i64 z) := by rw [hb.cell]; rfl
  have HW1 := Lib.hid hw1
  have HB := Lib.hid hb
  have HP := Lib.hid hp1
  have HV := Lib.hid hv1
  have HW := Lib.hid hw
  have HW2 := Lib.hid hw2
  have HR := Lib.hid hr
  have HNB := Lib.hid hnb
  have hr1 := hrg.1
  have hr2 := hrg.2
  have hwN : IntKind.i64.wrap ((N : Int) + 2) = (N : Int) + 2 := IntWalk.i64_in _ (by omega)
  have hwA : IntKind.i64.wrap (at' - 1) = at' - 1 := IntWalk.i64_in _ (by omega)
  rw [← hnb]
  clear h hr hv hal hb hp1 hv1 hw hw2 hk hat hw1 hnb hrg hc2 hc1
  go_enter Try.func16, Try.ntmps16
  go_wp2_with fail
  rw [← HW1.out]
  go_quiet ((go_at_call 15; exact Calls.quiet_of_same (HW.out _)))
  clear hwN hwA
  have hbd : Below w1.heap.size w1 (w1.drewN nq) := grownBy_below (grownBy_drewN _ _ _)
  have HP2 := Lib.hid (HP.out.grow hbd)
  have HV2 := Lib.hid (HV.out.below hbd)
  have hb2 := HB.out.moved (Moved.of_below hbd (fun _ => False)) (fun h => h)
  have HB2 := Lib.hid hb2
  have ck : (w1.drewN nq).cell? ⟨w.heap.size, 0, none⟩ = some (.int .i64 kind) := by rw [hb2.cell]; rfl
  generalize w1.drewN nq = w2 at HP2 HV2 HB2 ck ⊢
  clear hbd hb2 HP HB HV HW cN cz HW1
  go_wp2_with fail
  refine (HW2.out w2).mono ?_
  rintro e w3 ⟨rfl, he⟩
  replace he := he.symm
  subst he
  clear HW2
  have k1 := HP2.out.pager (R := fun e => e = .returned (.int .i64 (lgCommit G H).1)) (fun X hX => ps_commit hX hc)
  have K1 := Lib.hid k1
  clear k1
  go_wp2_with fail
  refine K1.out.mono ?_
  rintro e w4 ⟨rfl, h4⟩
  have H4 := Lib.hid h4
  have k2 := h4.refers (C := fun S' T' => Rl N S' T' (lgCommit G H).2 none) (fun Q hQ => rcommit_rel hQ HR.out)
  have K2 := Lib.hid k2
  clear h4 k2 K1
  go_wp2_with fail
  refine K2.out.mono ?_
  rintro e w5 ⟨rfl, S', T', hr5, h5⟩
  have H5 := Lib.hid h5
  have HR5 := Lib.hid hr5
  clear h5 hr5 K2
  go_wp2_with fail
  go_ret
  exact ⟨rfl, S', T', _, _, HR5.out, H5.out, fun _ h9 => absurd h9 (by rw [HKD.out]; decide)⟩

set_option maxHeartbeats 4000000 in
theorem do_commit11 {w0 w : World} {x r p N c : Nat} {S : PS} {T : Option PS} {G : Lg} {H : Option Lg} (h : Pr w0 w x r p N c S T G H) (hr : Rl N S T G H) (hN : N ≤ 400) (hN2 : 2 ≤ N) (hc : c < 123) (kind z : Int) (v : Value) (b : List UInt8) (hv : Bs w v b) (hk : withinOf kind 14 = 11) :
    Calls Try.prog 16 #[.agg #[.int .i64 kind, .int .i64 z, v], .pointer (some ⟨p, 0, none⟩), .pointer (some ⟨x, 0, none⟩)] w fun e w' => DoneTo H (withinOf kind 14) w0 x r p N (c + 1) e w' := by
  obtain ⟨ao, cap, rfl, hc1, hc2, -⟩ := id hv
  have hal : Below w.heap.size w (w.alloc (.cells #[.int .i64 kind, .int .i64 z, .slice ao b.length cap] 39)) := (Below.refl _ w).alloc (Nat.le_refl _) _
  have hb := Blk.new w #[.int .i64 kind, .int .i64 z, .slice ao b.length cap] 39
  have hp1 := h.grow hal
  have hv1 := hv.below hal
  obtain ⟨w1, hw1⟩ : ∃ w1, w1 = w.alloc (.cells #[.int .i64 kind, .int .i64 z, .slice ao b.length cap] 39) := ⟨_, rfl⟩
  rw [← hw1] at hb hp1 hv1
  have hrg := within_range z ((N : Int) + 2) (by omega)
  have hw := within4_any z ((N : Int) + 2) (by omega) (by omega)
  obtain ⟨at', hat⟩ : ∃ y, y = withinOf z ((N : Int) + 2) := ⟨_, rfl⟩
  rw [← hat] at hrg hw
  have hw2 := within4_any kind 14 (by decide) (by decide)
  rw [hk] at hw2
  have HKD := Lib.hid hk
  obtain ⟨nb, hnb⟩ : ∃ nb, nb = b.length := ⟨_, rfl⟩
  rw [← hnb] at hb hw1
  have cN : w1.cell? ⟨x, 0, none⟩ = some (.int .i64 N) := hp1.pages
  have cz : w1.cell? ⟨w.heap.size, 1, none⟩ = some (.int .i64 z) := by rw [hb.cell]; rfl
  have HW1 := Lib.hid hw1
  have HB := Lib.hid hb
  have HP := Lib.hid hp1
  have HV := Lib.hid hv1
  have HW := Lib.hid hw
  have HW2 := Lib.hid hw2
  have HR := Lib.hid hr
  have HNB := Lib.hid hnb
  have hr1 := hrg.1
  have hr2 := hrg.2
  have hwN : IntKind.i64.wrap ((N : Int) + 2) = (N : Int) + 2 := IntWalk.i64_in _ (by omega)
  have hwA : IntKind.i64.wrap (at' - 1) = at' - 1 := IntWalk.i64_in _ (by omega)
  rw [← hnb]
  clear h hr hv hal hb hp1 hv1 hw hw2 hk hat hw1 hnb hrg hc2 hc1
  go_enter Try.func16, Try.ntmps16
  go_wp2_with fail
  rw [← HW1.out]
  go_quiet ((go_at_call 15; exact Calls.quiet_of_same (HW.out _)))
  clear hwN hwA
  have hbd : Below w1.heap.size w1 (w1.drewN nq) := grownBy_below (grownBy_drewN _ _ _)
  have HP2 := Lib.hid (HP.out.grow hbd)
  have HV2 := Lib.hid (HV.out.below hbd)
  have hb2 := HB.out.moved (Moved.of_below hbd (fun _ => False)) (fun h => h)
  have HB2 := Lib.hid hb2
  have ck : (w1.drewN nq).cell? ⟨w.heap.size, 0, none⟩ = some (.int .i64 kind) := by rw [hb2.cell]; rfl
  generalize w1.drewN nq = w2 at HP2 HV2 HB2 ck ⊢
  clear hbd hb2 HP HB HV HW cN cz HW1
  go_wp2_with fail
  refine (HW2.out w2).mono ?_
  rintro e w3 ⟨rfl, he⟩
  replace he := he.symm
  subst he
  clear HW2
  have k1 := HP2.out.pager (R := fun e => e = .returned (.int .i64 (lgCommit G H).1)) (fun X hX => ps_commit hX hc)
  have K1 := Lib.hid k1
  clear k1
  go_wp2_with fail
  refine K1.out.mono ?_
  rintro e w4 ⟨rfl, h4⟩
  have H4 := Lib.hid h4
  have k2 := h4.refers (C := fun S' T' => Rl N S' T' (lgCommit G H).2 none) (fun Q hQ => rcommit_rel hQ HR.out)
  have K2 := Lib.hid k2
  clear h4 k2 K1
  go_wp2_with fail
  refine K2.out.mono ?_
  rintro e w5 ⟨rfl, S', T', hr5, h5⟩
  have H5 := Lib.hid h5
  have HR5 := Lib.hid hr5
  clear h5 hr5 K2
  go_wp2_with fail
  go_ret
  exact ⟨rfl, S', T', _, _, HR5.out, H5.out, fun _ h9 => absurd h9 (by rw [HKD.out]; decide)⟩

set_option maxHeartbeats 4000000 in
theorem do_commit12 {w0 w : World} {x r p N c : Nat} {S : PS} {T : Option PS} {G : Lg} {H : Option Lg} (h : Pr w0 w x r p N c S T G H) (hr : Rl N S T G H) (hN : N ≤ 400) (hN2 : 2 ≤ N) (hc : c < 123) (kind z : Int) (v : Value) (b : List UInt8) (hv : Bs w v b) (hk : withinOf kind 14 = 12) :
    Calls Try.prog 16 #[.agg #[.int .i64 kind, .int .i64 z, v], .pointer (some ⟨p, 0, none⟩), .pointer (some ⟨x, 0, none⟩)] w fun e w' => DoneTo H (withinOf kind 14) w0 x r p N (c + 1) e w' := by
  obtain ⟨ao, cap, rfl, hc1, hc2, -⟩ := id hv
  have hal : Below w.heap.size w (w.alloc (.cells #[.int .i64 kind, .int .i64 z, .slice ao b.length cap] 39)) := (Below.refl _ w).alloc (Nat.le_refl _) _
  have hb := Blk.new w #[.int .i64 kind, .int .i64 z, .slice ao b.length cap] 39
  have hp1 := h.grow hal
  have hv1 := hv.below hal
  obtain ⟨w1, hw1⟩ : ∃ w1, w1 = w.alloc (.cells #[.int .i64 kind, .int .i64 z, .slice ao b.length cap] 39) := ⟨_, rfl⟩
  rw [← hw1] at hb hp1 hv1
  have hrg := within_range z ((N : Int) + 2) (by omega)
  have hw := within4_any z ((N : Int) + 2) (by omega) (by omega)
  obtain ⟨at', hat⟩ : ∃ y, y = withinOf z ((N : Int) + 2) := ⟨_, rfl⟩
  rw [← hat] at hrg hw
  have hw2 := within4_any kind 14 (by decide) (by decide)
  rw [hk] at hw2
  have HKD := Lib.hid hk
  obtain ⟨nb, hnb⟩ : ∃ nb, nb = b.length := ⟨_, rfl⟩
  rw [← hnb] at hb hw1
  have cN : w1.cell? ⟨x, 0, none⟩ = some (.int .i64 N) := hp1.pages
  have cz : w1.cell? ⟨w.heap.size, 1, none⟩ = some (.int .i64 z) := by rw [hb.cell]; rfl
  have HW1 := Lib.hid hw1
  have HB := Lib.hid hb
  have HP := Lib.hid hp1
  have HV := Lib.hid hv1
  have HW := Lib.hid hw
  have HW2 := Lib.hid hw2
  have HR := Lib.hid hr
  have HNB := Lib.hid hnb
  have hr1 := hrg.1
  have hr2 := hrg.2
  have hwN : IntKind.i64.wrap ((N : Int) + 2) = (N : Int) + 2 := IntWalk.i64_in _ (by omega)
  have hwA : IntKind.i64.wrap (at' - 1) = at' - 1 := IntWalk.i64_in _ (by omega)
  rw [← hnb]
  clear h hr hv hal hb hp1 hv1 hw hw2 hk hat hw1 hnb hrg hc2 hc1
  go_enter Try.func16, Try.ntmps16
  go_wp2_with fail
  rw [← HW1.out]
  go_quiet ((go_at_call 15; exact Calls.quiet_of_same (HW.out _)))
  clear hwN hwA
  have hbd : Below w1.heap.size w1 (w1.drewN nq) := grownBy_below (grownBy_drewN _ _ _)
  have HP2 := Lib.hid (HP.out.grow hbd)
  have HV2 := Lib.hid (HV.out.below hbd)
  have hb2 := HB.out.moved (Moved.of_below hbd (fun _ => False)) (fun h => h)
  have HB2 := Lib.hid hb2
  have ck : (w1.drewN nq).cell? ⟨w.heap.size, 0, none⟩ = some (.int .i64 kind) := by rw [hb2.cell]; rfl
  generalize w1.drewN nq = w2 at HP2 HV2 HB2 ck ⊢
  clear hbd hb2 HP HB HV HW cN cz HW1
  go_wp2_with fail
  refine (HW2.out w2).mono ?_
  rintro e w3 ⟨rfl, he⟩
  replace he := he.symm
  subst he
  clear HW2
  have k1 := HP2.out.pager (R := fun e => e = .returned (.int .i64 (lgCommit G H).1)) (fun X hX => ps_commit hX hc)
  have K1 := Lib.hid k1
  clear k1
  go_wp2_with fail
  refine K1.out.mono ?_
  rintro e w4 ⟨rfl, h4⟩
  have H4 := Lib.hid h4
  have k2 := h4.refers (C := fun S' T' => Rl N S' T' (lgCommit G H).2 none) (fun Q hQ => rcommit_rel hQ HR.out)
  have K2 := Lib.hid k2
  clear h4 k2 K1
  go_wp2_with fail
  refine K2.out.mono ?_
  rintro e w5 ⟨rfl, S', T', hr5, h5⟩
  have H5 := Lib.hid h5
  have HR5 := Lib.hid hr5
  clear h5 hr5 K2
  go_wp2_with fail
  go_ret
  exact ⟨rfl, S', T', _, _, HR5.out, H5.out, fun _ h9 => absurd h9 (by rw [HKD.out]; decide)⟩

set_option maxHeartbeats 4000000 in
theorem do_abort13 {w0 w : World} {x r p N c : Nat} {S : PS} {T : Option PS} {G : Lg} {H : Option Lg} (h : Pr w0 w x r p N c S T G H) (hr : Rl N S T G H) (hN : N ≤ 400) (hN2 : 2 ≤ N) (hc : c < 123) (kind z : Int) (v : Value) (b : List UInt8) (hv : Bs w v b) (hk : withinOf kind 14 = 13) :
    Calls Try.prog 16 #[.agg #[.int .i64 kind, .int .i64 z, v], .pointer (some ⟨p, 0, none⟩), .pointer (some ⟨x, 0, none⟩)] w fun e w' => DoneTo H (withinOf kind 14) w0 x r p N (c + 1) e w' := by
  obtain ⟨ao, cap, rfl, hc1, hc2, -⟩ := id hv
  have hal : Below w.heap.size w (w.alloc (.cells #[.int .i64 kind, .int .i64 z, .slice ao b.length cap] 39)) := (Below.refl _ w).alloc (Nat.le_refl _) _
  have hb := Blk.new w #[.int .i64 kind, .int .i64 z, .slice ao b.length cap] 39
  have hp1 := h.grow hal
  have hv1 := hv.below hal
  obtain ⟨w1, hw1⟩ : ∃ w1, w1 = w.alloc (.cells #[.int .i64 kind, .int .i64 z, .slice ao b.length cap] 39) := ⟨_, rfl⟩
  rw [← hw1] at hb hp1 hv1
  have hrg := within_range z ((N : Int) + 2) (by omega)
  have hw := within4_any z ((N : Int) + 2) (by omega) (by omega)
  obtain ⟨at', hat⟩ : ∃ y, y = withinOf z ((N : Int) + 2) := ⟨_, rfl⟩
  rw [← hat] at hrg hw
  have hw2 := within4_any kind 14 (by decide) (by decide)
  rw [hk] at hw2
  have HKD := Lib.hid hk
  obtain ⟨nb, hnb⟩ : ∃ nb, nb = b.length := ⟨_, rfl⟩
  rw [← hnb] at hb hw1
  have cN : w1.cell? ⟨x, 0, none⟩ = some (.int .i64 N) := hp1.pages
  have cz : w1.cell? ⟨w.heap.size, 1, none⟩ = some (.int .i64 z) := by rw [hb.cell]; rfl
  have HW1 := Lib.hid hw1
  have HB := Lib.hid hb
  have HP := Lib.hid hp1
  have HV := Lib.hid hv1
  have HW := Lib.hid hw
  have HW2 := Lib.hid hw2
  have HR := Lib.hid hr
  have HNB := Lib.hid hnb
  have hr1 := hrg.1
  have hr2 := hrg.2
  have hwN : IntKind.i64.wrap ((N : Int) + 2) = (N : Int) + 2 := IntWalk.i64_in _ (by omega)
  have hwA : IntKind.i64.wrap (at' - 1) = at' - 1 := IntWalk.i64_in _ (by omega)
  rw [← hnb]
  clear h hr hv hal hb hp1 hv1 hw hw2 hk hat hw1 hnb hrg hc2 hc1
  go_enter Try.func16, Try.ntmps16
  go_wp2_with fail
  rw [← HW1.out]
  go_quiet ((go_at_call 15; exact Calls.quiet_of_same (HW.out _)))
  clear hwN hwA
  have hbd : Below w1.heap.size w1 (w1.drewN nq) := grownBy_below (grownBy_drewN _ _ _)
  have HP2 := Lib.hid (HP.out.grow hbd)
  have HV2 := Lib.hid (HV.out.below hbd)
  have hb2 := HB.out.moved (Moved.of_below hbd (fun _ => False)) (fun h => h)
  have HB2 := Lib.hid hb2
  have ck : (w1.drewN nq).cell? ⟨w.heap.size, 0, none⟩ = some (.int .i64 kind) := by rw [hb2.cell]; rfl
  generalize w1.drewN nq = w2 at HP2 HV2 HB2 ck ⊢
  clear hbd hb2 HP HB HV HW cN cz HW1
  go_wp2_with fail
  refine (HW2.out w2).mono ?_
  rintro e w3 ⟨rfl, he⟩
  replace he := he.symm
  subst he
  clear HW2
  have k1 := HP2.out.pager (R := fun e => e = .returned (.tuple #[])) (fun X hX => ps_abort hX)
  have K1 := Lib.hid k1
  clear k1
  go_wp2_with fail
  refine K1.out.mono ?_
  rintro e w4 ⟨rfl, h4⟩
  have H4 := Lib.hid h4
  have k2 := h4.refers (C := fun S' T' => Rl N S' T' G none) (fun Q hQ => rabort_rel hQ HR.out)
  have K2 := Lib.hid k2
  clear h4 k2 K1
  go_wp2_with fail
  refine K2.out.mono ?_
  rintro e w5 ⟨rfl, S', T', hr5, h5⟩
  have H5 := Lib.hid h5
  have HR5 := Lib.hid hr5
  clear h5 hr5 K2
  go_wp2_with fail
  go_ret
  exact ⟨rfl, S', T', _, _, HR5.out, H5.out.more _ (by omega), fun _ h9 => absurd h9 (by rw [HKD.out]; decide)⟩

end Go.Proofs.Ytcnfnpccbnnplaa
