/- Acts at the pager and at a new reference. An act of kinds 1 to 9 at the pager and at a new reference, whatever it is. -/
import Derived.Test.YtcnfnpccbnnplaaR4o
namespace Go.Proofs.Ytcnfnpccbnnplaa
open Go.RowKit Go.Maps
set_option maxRecDepth 100000
set_option linter.unusedVariables false

/-- An act came to its end, whatever it answered; the blocks K0 are as they were. -/
def LooseTo (w0 w : World) (K0 : Nat → Prop) (x r p N c : Nat) (G : Lg) (e : Ending) (w' : World) : Prop :=
  ∃ t : Bool, e = .returned (.bool t) ∧ ∃ S' T' H', PrK w0 w' K0 x r p N c S' T' G H' ∧ Mx w0 K0 w w'

section
variable {w0 w w' : World} {K : Nat → Prop} {x r p N c : Nat} {S : PS} {T : Option PS} {G : Lg} {H : Option Lg} {Q : Nat → Prop}
theorem PrK.took (h : PrK w0 w K x r p N c S T G H) (hb : Below w.heap.size w w') : PrK w0 w' (fun k => K k ∨ (w.heap.size ≤ k ∧ k < w'.heap.size)) x r p N c S T G H := by
  have hs := h.pr.size
  obtain ⟨Q, h0, h1, h2, h3⟩ := h
  have hsz := hb.size
  refine ⟨Q, fun k hk => ?_, h1.moved (Moved.of_below hb (fun _ => False)) (fun _ _ h => h), (h2.take hb).less (fun k hk => ?_), h3⟩
  · rcases hk with hk | hk
    · exact ⟨(h0 k hk).1, (h0 k hk).2.1, by have := (h0 k hk).2.2; omega⟩
    · exact ⟨fun e => by have := h2.lt k (.inl e); omega, by omega, hk.2⟩
  · rcases hk with e | e | e
    · exact .inl (.inl e)
    · exact .inl (.inr e)
    · exact .inr e
theorem PrK.less {K' : Nat → Prop} (h : PrK w0 w K x r p N c S T G H) (hK : ∀ k, K' k → K k) : PrK w0 w K' x r p N c S T G H := by
  obtain ⟨Q, h0, h1, h2, h3⟩ := h
  exact ⟨Q, fun k hk => h0 k (hK k hk), h1, h2.less (fun k hk => hk.elim .inl (fun e => .inr (hK k e))), h3⟩
theorem PrK.more (h : PrK w0 w K x r p N c S T G H) (c' : Nat) (hc : c ≤ c') : PrK w0 w K x r p N c' S T G H := by
  obtain ⟨Q, h0, h1, h2, h3⟩ := h; exact ⟨Q, h0, h1, h2.more c' hc, h3⟩

theorem new_loose (h : Rp w Q x N PS.new (some PS.new)) (hN : N ≤ 400) (hN2 : 2 ≤ N) :
    Calls Try.prog 25 #[.pointer (some ⟨x, 0, none⟩)] w fun e w' => (∃ f g : Int, e = .returned (.tuple #[.int .i64 f, .int .i64 g])) ∧ ∃ S' T', True ∧ Rp w' (Gr Q w w') x N S' T' ∧ Moved Q w w' := by
  refine (rnew_fresh h rfl (by show 1 < N; omega) (by omega) (by decide)).mono ?_
  rintro e w' ⟨rfl, g1, g2⟩
  exact ⟨⟨_, _, rfl⟩, _, _, trivial, g1.mono (fun _ h => .inl h), g2⟩
theorem put_loose (i : Int) (hi : (Lit.int .i64 i).wf = true) (v : Value) (h : Rp w Q x N PS.new (some PS.new)) :
    Calls Try.prog 47 #[.pointer (some ⟨x, 0, none⟩), .int .i64 i, v] w fun e w' => (∃ f : Int, e = .returned (.int .i64 f)) ∧ ∃ S' T', True ∧ Rp w' (Gr Q w w') x N S' T' ∧ Moved Q w w' := by
  refine (rput_arg i hi v h rfl).mono ?_
  rintro e w' ⟨rfl, he⟩
  subst he
  exact ⟨⟨_, rfl⟩, _, _, trivial, h.gr _, Moved.refl _ _⟩
theorem drop_loose (i : Int) (hi : (Lit.int .i64 i).wf = true) (h : Rp w Q x N PS.new (some PS.new)) :
    Calls Try.prog 49 #[.pointer (some ⟨x, 0, none⟩), .int .i64 i] w fun e w' => (∃ f : Int, e = .returned (.int .i64 f)) ∧ ∃ S' T', True ∧ Rp w' (Gr Q w w') x N S' T' ∧ Moved Q w w' := by
  refine (rdrop_arg i hi h rfl).mono ?_
  rintro e w' ⟨rfl, he⟩
  subst he
  exact ⟨⟨_, rfl⟩, _, _, trivial, h.gr _, Moved.refl _ _⟩
theorem root_loose (i : Int) (h : Rp w Q x N PS.new (some PS.new)) :
    Calls Try.prog 51 #[.pointer (some ⟨x, 0, none⟩), .int .i64 i] w fun e w' => (∃ f : Int, e = .returned (.int .i64 f)) ∧ ∃ S' T', True ∧ Rp w' (Gr Q w w') x N S' T' ∧ Moved Q w w' := by
  have hx : Q x := by obtain ⟨mS, gS, mT, gT, nT, rT, QS, QT, hb, hx, -⟩ := h; exact hx
  by_cases hi : 0 ≤ i
  · refine (rsetroot_any i h hi).mono ?_
    rintro e w' ⟨rfl, g1, g2⟩
    exact ⟨⟨_, rfl⟩, _, _, trivial, g1.mono (fun _ h => .inl h), g2.mono (fun _ e => e ▸ hx)⟩
  · refine (rsetroot_arg i h (by omega)).mono ?_
    rintro e w' ⟨rfl, he⟩
    subst he
    exact ⟨⟨_, rfl⟩, _, _, trivial, h.gr _, Moved.refl _ _⟩
end

set_option maxHeartbeats 4000000 in
theorem loose_new1 {w0 w : World} {K0 : Nat → Prop} {x r p N c : Nat} {G : Lg} {H : Option Lg} (h : PrK w0 w K0 x r p N c PS.new (some PS.new) G H) (hN : N ≤ 400) (hN2 : 2 ≤ N) (hc : c < 123) (kind z : Int) (v : Value) (b : List UInt8) (hv : Bs w v b) (hvo : 0 < b.length → ∀ g, v.ownBlock = some g → g < w0.heap.size) (hzw : (Lit.int .i64 z).wf = true) (hbl : b.length ≤ 100000) (hk : withinOf kind 14 = 1) :
    Calls Try.prog 16 #[.agg #[.int .i64 kind, .int .i64 z, v], .pointer (some ⟨p, 0, none⟩), .pointer (some ⟨x, 0, none⟩)] w fun e w' => LooseTo w0 w K0 x r p N (c + 1) G e w' := by
  obtain ⟨ao, cap, rfl, hc1, hc2, -⟩ := id hv
  have hal : Below w.heap.size w (w.alloc (.cells #[.int .i64 kind, .int .i64 z, .slice ao b.length cap] 39)) := (Below.refl _ w).alloc (Nat.le_refl _) _
  have hb := Blk.new w #[.int .i64 kind, .int .i64 z, .slice ao b.length cap] 39
  have hp1 := h.took hal
  have hv1 := hv.below hal
  obtain ⟨w1, hw1⟩ : ∃ w1, w1 = w.alloc (.cells #[.int .i64 kind, .int .i64 z, .slice ao b.length cap] 39) := ⟨_, rfl⟩
  rw [← hw1] at hb hp1 hv1
  have hrg := within_range z ((N : Int) + 2) (by omega)
  have hw := within4_any z ((N : Int) + 2) (by omega) (by omega)
  obtain ⟨at', hat⟩ : ∃ y, y = withinOf z ((N : Int) + 2) := ⟨_, rfl⟩
  rw [← hat] at hrg hw
  have hw2 := within4_any kind 14 (by decide) (by decide)
  rw [hk] at hw2
  have HKD := Lib.hid hk
  obtain ⟨nb, hnb⟩ : ∃ nb, nb = b.length := ⟨_, rfl⟩
  rw [← hnb] at hb hw1
  have cN : w1.cell? ⟨x, 0, none⟩ = some (.int .i64 N) := hp1.pr.pages
  have cz : w1.cell? ⟨w.heap.size, 1, none⟩ = some (.int .i64 z) := by rw [hb.cell]; rfl
  have HW1 := Lib.hid hw1
  have HB := Lib.hid hb
  have HP := Lib.hid hp1
  have HV := Lib.hid hv1
  have HW := Lib.hid hw
  have HW2 := Lib.hid hw2
  have HMA : Hid (Mx w0 K0 w w1) := Lib.hid (by rw [hw1, hnb]; exact Mx.of hal)
  have HNB := Lib.hid hnb
  have HVO := Lib.hid hvo
  have hlt1 := hb.lt
  have HLT := Lib.hid hlt1
  have hr1 := hrg.1
  have hr2 := hrg.2
  have hwN : IntKind.i64.wrap ((N : Int) + 2) = (N : Int) + 2 := IntWalk.i64_in _ (by omega)
  have hwA : IntKind.i64.wrap (at' - 1) = at' - 1 := IntWalk.i64_in _ (by omega)
  rw [← hnb]
  clear hlt1 hvo h hv hal hb hp1 hv1 hw hw2 hk hat hw1 hnb hrg hc2 hc1
  go_enter Try.func16, Try.ntmps16
  go_wp2_with fail
  rw [← HW1.out]
  go_quiet ((go_at_call 15; exact Calls.quiet_of_same (HW.out _)))
  clear hwN hwA
  have hbd : Below w1.heap.size w1 (w1.drewN nq) := grownBy_below (grownBy_drewN _ _ _)
  have HP2 := Lib.hid (HP.out.grow hbd)
  have HV2 := Lib.hid (HV.out.below hbd)
  have hb2 := HB.out.moved (Moved.of_below hbd (fun _ => False)) (fun h => h)
  have HB2 := Lib.hid hb2
  have ck : (w1.drewN nq).cell? ⟨w.heap.size, 0, none⟩ = some (.int .i64 kind) := by rw [hb2.cell]; rfl
  have hs2 := hbd.size
  have HMB : Hid (Mx w0 K0 w1 (w1.drewN nq)) := Lib.hid (Mx.of hbd)
  generalize w1.drewN nq = w2 at hs2 HMB HP2 HV2 HB2 ck ⊢
  have HS2 : Hid (w1.heap.size ≤ w2.heap.size) := Lib.hid hs2
  clear hs2 hbd hb2 HP HB HV HW cN cz HW1
  go_wp2_with fail
  refine (HW2.out w2).mono ?_
  rintro e w3 ⟨rfl, he⟩
  replace he := he.symm
  subst he
  clear HW2
  have k1 := HP2.out.pager (R := fun e => e = .returned (.tuple #[.int .i64 (lgNew H).1, .int .i64 (lgNew H).2.1])) (fun X hX => ps_new hX hc)
  have K1 := Lib.hid k1
  clear k1
  go_wp2_with fail
  refine K1.out.mono ?_
  rintro e w4 ⟨rfl, h4, hm4⟩
  have HM4 := Lib.hid hm4
  have k2 := h4.refers (C := fun _ _ => True) (R := fun e => ∃ f g : Int, e = .returned (.tuple #[.int .i64 f, .int .i64 g])) (fun Q hQ => new_loose hQ hN hN2)
  have K2 := Lib.hid k2
  clear h4 k2 K1 hm4
  go_wp2_with fail
  refine K2.out.mono ?_
  rintro e w5 ⟨⟨f, g, rfl⟩, hm5, S', T', -, h5⟩
  have H5 := Lib.hid h5
  have HM5 := Lib.hid hm5
  clear h5 hm5 K2
  go_wp2_with fail
  all_goals
    go_ret
    exact ⟨_, rfl, S', T', _, (H5.out.less (fun _ h => .inl h)).more _ (by omega), (HMA.out.trans HMB.out).trans ((HM4.out.mono (fun k hk => ⟨hk.1, fun e => hk.2 (.inl e)⟩)).trans (HM5.out.mono (fun k hk => ⟨hk.1, fun e => hk.2 (.inl e)⟩)) (fun _ h => .inl h))⟩

set_option maxHeartbeats 4000000 in
theorem loose_new2 {w0 w : World} {K0 : Nat → Prop} {x r p N c : Nat} {G : Lg} {H : Option Lg} (h : PrK w0 w K0 x r p N c PS.new (some PS.new) G H) (hN : N ≤ 400) (hN2 : 2 ≤ N) (hc : c < 123) (kind z : Int) (v : Value) (b : List UInt8) (hv : Bs w v b) (hvo : 0 < b.length → ∀ g, v.ownBlock = some g → g < w0.heap.size) (hzw : (Lit.int .i64 z).wf = true) (hbl : b.length ≤ 100000) (hk : withinOf kind 14 = 2) :
    Calls Try.prog 16 #[.agg #[.int .i64 kind, .int .i64 z, v], .pointer (some ⟨p, 0, none⟩), .pointer (some ⟨x, 0, none⟩)] w fun e w' => LooseTo w0 w K0 x r p N (c + 1) G e w' := by
  obtain ⟨ao, cap, rfl, hc1, hc2, -⟩ := id hv
  have hal : Below w.heap.size w (w.alloc (.cells #[.int .i64 kind, .int .i64 z, .slice ao b.length cap] 39)) := (Below.refl _ w).alloc (Nat.le_refl _) _
  have hb := Blk.new w #[.int .i64 kind, .int .i64 z, .slice ao b.length cap] 39
  have hp1 := h.took hal
  have hv1 := hv.below hal
  obtain ⟨w1, hw1⟩ : ∃ w1, w1 = w.alloc (.cells #[.int .i64 kind, .int .i64 z, .slice ao b.length cap] 39) := ⟨_, rfl⟩
  rw [← hw1] at hb hp1 hv1
  have hrg := within_range z ((N : Int) + 2) (by omega)
  have hw := within4_any z ((N : Int) + 2) (by omega) (by omega)
  obtain ⟨at', hat⟩ : ∃ y, y = withinOf z ((N : Int) + 2) := ⟨_, rfl⟩
  rw [← hat] at hrg hw
  have hw2 := within4_any kind 14 (by decide) (by decide)
  rw [hk] at hw2
  have HKD := Lib.hid hk
  obtain ⟨nb, hnb⟩ : ∃ nb, nb = b.length := ⟨_, rfl⟩
  rw [← hnb] at hb hw1
  have cN : w1.cell? ⟨x, 0, none⟩ = some (.int .i64 N) := hp1.pr.pages
  have cz : w1.cell? ⟨w.heap.size, 1, none⟩ = some (.int .i64 z) := by rw [hb.cell]; rfl
  have HW1 := Lib.hid hw1
  have HB := Lib.hid hb
  have HP := Lib.hid hp1
  have HV := Lib.hid hv1
  have HW := Lib.hid hw
  have HW2 := Lib.hid hw2
  have HMA : Hid (Mx w0 K0 w w1) := Lib.hid (by rw [hw1, hnb]; exact Mx.of hal)
  have HNB := Lib.hid hnb
  have HVO := Lib.hid hvo
  have hlt1 := hb.lt
  have HLT := Lib.hid hlt1
  have hr1 := hrg.1
  have hr2 := hrg.2
  have hwN : IntKind.i64.wrap ((N : Int) + 2) = (N : Int) + 2 := IntWalk.i64_in _ (by omega)
  have hwA : IntKind.i64.wrap (at' - 1) = at' - 1 := IntWalk.i64_in _ (by omega)
  rw [← hnb]
  clear hlt1 hvo h hv hal hb hp1 hv1 hw hw2 hk hat hw1 hnb hrg hc2 hc1
  go_enter Try.func16, Try.ntmps16
  go_wp2_with fail
  rw [← HW1.out]
  go_quiet ((go_at_call 15; exact Calls.quiet_of_same (HW.out _)))
  clear hwN hwA
  have hbd : Below w1.heap.size w1 (w1.drewN nq) := grownBy_below (grownBy_drewN _ _ _)
  have HP2 := Lib.hid (HP.out.grow hbd)
  have HV2 := Lib.hid (HV.out.below hbd)
  have hb2 := HB.out.moved (Moved.of_below hbd (fun _ => False)) (fun h => h)
  have HB2 := Lib.hid hb2
  have ck : (w1.drewN nq).cell? ⟨w.heap.size, 0, none⟩ = some (.int .i64 kind) := by rw [hb2.cell]; rfl
  have hs2 := hbd.size
  have HMB : Hid (Mx w0 K0 w1 (w1.drewN nq)) := Lib.hid (Mx.of hbd)
  generalize w1.drewN nq = w2 at hs2 HMB HP2 HV2 HB2 ck ⊢
  have HS2 : Hid (w1.heap.size ≤ w2.heap.size) := Lib.hid hs2
  clear hs2 hbd hb2 HP HB HV HW cN cz HW1
  go_wp2_with fail
  refine (HW2.out w2).mono ?_
  rintro e w3 ⟨rfl, he⟩
  replace he := he.symm
  subst he
  clear HW2
  have k1 := HP2.out.pager (R := fun e => e = .returned (.tuple #[.int .i64 (lgNew H).1, .int .i64 (lgNew H).2.1])) (fun X hX => ps_new hX hc)
  have K1 := Lib.hid k1
  clear k1
  go_wp2_with fail
  refine K1.out.mono ?_
  rintro e w4 ⟨rfl, h4, hm4⟩
  have HM4 := Lib.hid hm4
  have k2 := h4.refers (C := fun _ _ => True) (R := fun e => ∃ f g : Int, e = .returned (.tuple #[.int .i64 f, .int .i64 g])) (fun Q hQ => new_loose hQ hN hN2)
  have K2 := Lib.hid k2
  clear h4 k2 K1 hm4
  go_wp2_with fail
  refine K2.out.mono ?_
  rintro e w5 ⟨⟨f, g, rfl⟩, hm5, S', T', -, h5⟩
  have H5 := Lib.hid h5
  have HM5 := Lib.hid hm5
  clear h5 hm5 K2
  go_wp2_with fail
  all_goals
    go_ret
    exact ⟨_, rfl, S', T', _, (H5.out.less (fun _ h => .inl h)).more _ (by omega), (HMA.out.trans HMB.out).trans ((HM4.out.mono (fun k hk => ⟨hk.1, fun e => hk.2 (.inl e)⟩)).trans (HM5.out.mono (fun k hk => ⟨hk.1, fun e => hk.2 (.inl e)⟩)) (fun _ h => .inl h))⟩

set_option maxHeartbeats 4000000 in
theorem loose_new3 {w0 w : World} {K0 : Nat → Prop} {x r p N c : Nat} {G : Lg} {H : Option Lg} (h : PrK w0 w K0 x r p N c PS.new (some PS.new) G H) (hN : N ≤ 400) (hN2 : 2 ≤ N) (hc : c < 123) (kind z : Int) (v : Value) (b : List UInt8) (hv : Bs w v b) (hvo : 0 < b.length → ∀ g, v.ownBlock = some g → g < w0.heap.size) (hzw : (Lit.int .i64 z).wf = true) (hbl : b.length ≤ 100000) (hk : withinOf kind 14 = 3) :
    Calls Try.prog 16 #[.agg #[.int .i64 kind, .int .i64 z, v], .pointer (some ⟨p, 0, none⟩), .pointer (some ⟨x, 0, none⟩)] w fun e w' => LooseTo w0 w K0 x r p N (c + 1) G e w' := by
  obtain ⟨ao, cap, rfl, hc1, hc2, -⟩ := id hv
  have hal : Below w.heap.size w (w.alloc (.cells #[.int .i64 kind, .int .i64 z, .slice ao b.length cap] 39)) := (Below.refl _ w).alloc (Nat.le_refl _) _
  have hb := Blk.new w #[.int .i64 kind, .int .i64 z, .slice ao b.length cap] 39
  have hp1 := h.took hal
  have hv1 := hv.below hal
  obtain ⟨w1, hw1⟩ : ∃ w1, w1 = w.alloc (.cells #[.int .i64 kind, .int .i64 z, .slice ao b.length cap] 39) := ⟨_, rfl⟩
  rw [← hw1] at hb hp1 hv1
  have hrg := within_range z ((N : Int) + 2) (by omega)
  have hw := within4_any z ((N : Int) + 2) (by omega) (by omega)
  obtain ⟨at', hat⟩ : ∃ y, y = withinOf z ((N : Int) + 2) := ⟨_, rfl⟩
  rw [← hat] at hrg hw
  have hw2 := within4_any kind 14 (by decide) (by decide)
  rw [hk] at hw2
  have HKD := Lib.hid hk
  obtain ⟨nb, hnb⟩ : ∃ nb, nb = b.length := ⟨_, rfl⟩
  rw [← hnb] at hb hw1
  have cN : w1.cell? ⟨x, 0, none⟩ = some (.int .i64 N) := hp1.pr.pages
  have cz : w1.cell? ⟨w.heap.size, 1, none⟩ = some (.int .i64 z) := by rw [hb.cell]; rfl
  have HW1 := Lib.hid hw1
  have HB := Lib.hid hb
  have HP := Lib.hid hp1
  have HV := Lib.hid hv1
  have HW := Lib.hid hw
  have HW2 := Lib.hid hw2
  have HMA : Hid (Mx w0 K0 w w1) := Lib.hid (by rw [hw1, hnb]; exact Mx.of hal)
  have HNB := Lib.hid hnb
  have HVO := Lib.hid hvo
  have hlt1 := hb.lt
  have HLT := Lib.hid hlt1
  have hr1 := hrg.1
  have hr2 := hrg.2
  have hwN : IntKind.i64.wrap ((N : Int) + 2) = (N : Int) + 2 := IntWalk.i64_in _ (by omega)
  have hwA : IntKind.i64.wrap (at' - 1) = at' - 1 := IntWalk.i64_in _ (by omega)
  rw [← hnb]
  clear hlt1 hvo h hv hal hb hp1 hv1 hw hw2 hk hat hw1 hnb hrg hc2 hc1
  go_enter Try.func16, Try.ntmps16
  go_wp2_with fail
  rw [← HW1.out]
  go_quiet ((go_at_call 15; exact Calls.quiet_of_same (HW.out _)))
  clear hwN hwA
  have hbd : Below w1.heap.size w1 (w1.drewN nq) := grownBy_below (grownBy_drewN _ _ _)
  have HP2 := Lib.hid (HP.out.grow hbd)
  have HV2 := Lib.hid (HV.out.below hbd)
  have hb2 := HB.out.moved (Moved.of_below hbd (fun _ => False)) (fun h => h)
  have HB2 := Lib.hid hb2
  have ck : (w1.drewN nq).cell? ⟨w.heap.size, 0, none⟩ = some (.int .i64 kind) := by rw [hb2.cell]; rfl
  have hs2 := hbd.size
  have HMB : Hid (Mx w0 K0 w1 (w1.drewN nq)) := Lib.hid (Mx.of hbd)
  generalize w1.drewN nq = w2 at hs2 HMB HP2 HV2 HB2 ck ⊢
  have HS2 : Hid (w1.heap.size ≤ w2.heap.size) := Lib.hid hs2
  clear hs2 hbd hb2 HP HB HV HW cN cz HW1
  go_wp2_with fail
  refine (HW2.out w2).mono ?_
  rintro e w3 ⟨rfl, he⟩
  replace he := he.symm
  subst he
  clear HW2
  have k1 := HP2.out.pager (R := fun e => e = .returned (.tuple #[.int .i64 (lgNew H).1, .int .i64 (lgNew H).2.1])) (fun X hX => ps_new hX hc)
  have K1 := Lib.hid k1
  clear k1
  go_wp2_with fail
  refine K1.out.mono ?_
  rintro e w4 ⟨rfl, h4, hm4⟩
  have HM4 := Lib.hid hm4
  have k2 := h4.refers (C := fun _ _ => True) (R := fun e => ∃ f g : Int, e = .returned (.tuple #[.int .i64 f, .int .i64 g])) (fun Q hQ => new_loose hQ hN hN2)
  have K2 := Lib.hid k2
  clear h4 k2 K1 hm4
  go_wp2_with fail
  refine K2.out.mono ?_
  rintro e w5 ⟨⟨f, g, rfl⟩, hm5, S', T', -, h5⟩
  have H5 := Lib.hid h5
  have HM5 := Lib.hid hm5
  clear h5 hm5 K2
  go_wp2_with fail
  all_goals
    go_ret
    exact ⟨_, rfl, S', T', _, (H5.out.less (fun _ h => .inl h)).more _ (by omega), (HMA.out.trans HMB.out).trans ((HM4.out.mono (fun k hk => ⟨hk.1, fun e => hk.2 (.inl e)⟩)).trans (HM5.out.mono (fun k hk => ⟨hk.1, fun e => hk.2 (.inl e)⟩)) (fun _ h => .inl h))⟩

set_option maxHeartbeats 4000000 in
theorem loose_drop7 {w0 w : World} {K0 : Nat → Prop} {x r p N c : Nat} {G : Lg} {H : Option Lg} (h : PrK w0 w K0 x r p N c PS.new (some PS.new) G H) (hN : N ≤ 400) (hN2 : 2 ≤ N) (hc : c < 123) (kind z : Int) (v : Value) (b : List UInt8) (hv : Bs w v b) (hvo : 0 < b.length → ∀ g, v.ownBlock = some g → g < w0.heap.size) (hzw : (Lit.int .i64 z).wf = true) (hbl : b.length ≤ 100000) (hk : withinOf kind 14 = 7) :
    Calls Try.prog 16 #[.agg #[.int .i64 kind, .int .i64 z, v], .pointer (some ⟨p, 0, none⟩), .pointer (some ⟨x, 0, none⟩)] w fun e w' => LooseTo w0 w K0 x r p N (c + 1) G e w' := by
  obtain ⟨ao, cap, rfl, hc1, hc2, -⟩ := id hv
  have hal : Below w.heap.size w (w.alloc (.cells #[.int .i64 kind, .int .i64 z, .slice ao b.length cap] 39)) := (Below.refl _ w).alloc (Nat.le_refl _) _
  have hb := Blk.new w #[.int .i64 kind, .int .i64 z, .slice ao b.length cap] 39
  have hp1 := h.took hal
  have hv1 := hv.below hal
  obtain ⟨w1, hw1⟩ : ∃ w1, w1 = w.alloc (.cells #[.int .i64 kind, .int .i64 z, .slice ao b.length cap] 39) := ⟨_, rfl⟩
  rw [← hw1] at hb hp1 hv1
  have hrg := within_range z ((N : Int) + 2) (by omega)
  have hw := within4_any z ((N : Int) + 2) (by omega) (by omega)
  obtain ⟨at', hat⟩ : ∃ y, y = withinOf z ((N : Int) + 2) := ⟨_, rfl⟩
  rw [← hat] at hrg hw
  have hw2 := within4_any kind 14 (by decide) (by decide)
  rw [hk] at hw2
  have HKD := Lib.hid hk
  obtain ⟨nb, hnb⟩ : ∃ nb, nb = b.length := ⟨_, rfl⟩
  rw [← hnb] at hb hw1
  have cN : w1.cell? ⟨x, 0, none⟩ = some (.int .i64 N) := hp1.pr.pages
  have cz : w1.cell? ⟨w.heap.size, 1, none⟩ = some (.int .i64 z) := by rw [hb.cell]; rfl
  have HW1 := Lib.hid hw1
  have HB := Lib.hid hb
  have HP := Lib.hid hp1
  have HV := Lib.hid hv1
  have HW := Lib.hid hw
  have HW2 := Lib.hid hw2
  have HMA : Hid (Mx w0 K0 w w1) := Lib.hid (by rw [hw1, hnb]; exact Mx.of hal)
  have HNB := Lib.hid hnb
  have HVO := Lib.hid hvo
  have hlt1 := hb.lt
  have HLT := Lib.hid hlt1
  have hr1 := hrg.1
  have hr2 := hrg.2
  have hwN : IntKind.i64.wrap ((N : Int) + 2) = (N : Int) + 2 := IntWalk.i64_in _ (by omega)
  have hwA : IntKind.i64.wrap (at' - 1) = at' - 1 := IntWalk.i64_in _ (by omega)
  rw [← hnb]
  clear hlt1 hvo h hv hal hb hp1 hv1 hw hw2 hk hat hw1 hnb hrg hc2 hc1
  go_enter Try.func16, Try.ntmps16
  go_wp2_with fail
  rw [← HW1.out]
  go_quiet ((go_at_call 15; exact Calls.quiet_of_same (HW.out _)))
  clear hwN hwA
  have hbd : Below w1.heap.size w1 (w1.drewN nq) := grownBy_below (grownBy_drewN _ _ _)
  have HP2 := Lib.hid (HP.out.grow hbd)
  have HV2 := Lib.hid (HV.out.below hbd)
  have hb2 := HB.out.moved (Moved.of_below hbd (fun _ => False)) (fun h => h)
  have HB2 := Lib.hid hb2
  have ck : (w1.drewN nq).cell? ⟨w.heap.size, 0, none⟩ = some (.int .i64 kind) := by rw [hb2.cell]; rfl
  have hs2 := hbd.size
  have HMB : Hid (Mx w0 K0 w1 (w1.drewN nq)) := Lib.hid (Mx.of hbd)
  generalize w1.drewN nq = w2 at hs2 HMB HP2 HV2 HB2 ck ⊢
  have HS2 : Hid (w1.heap.size ≤ w2.heap.size) := Lib.hid hs2
  clear hs2 hbd hb2 HP HB HV HW cN cz HW1
  go_wp2_with fail
  refine (HW2.out w2).mono ?_
  rintro e w3 ⟨rfl, he⟩
  replace he := he.symm
  subst he
  clear HW2
  have k1 := HP2.out.pager (R := fun e => e = .returned (.int .i64 (lgDrop N (at' - 1) H).1)) (fun X hX => ps_drop (at' - 1) hX)
  have K1 := Lib.hid k1
  clear k1
  go_wp2_with fail
  refine K1.out.mono ?_
  rintro e w4 ⟨rfl, h4, hm4⟩
  have HM4 := Lib.hid hm4
  have k2 := h4.refers (C := fun _ _ => True) (R := fun e => ∃ f : Int, e = .returned (.int .i64 f)) (fun Q hQ => drop_loose (at' - 1) (WalkArith.wf_i64 (by omega)) hQ)
  have K2 := Lib.hid k2
  clear h4 k2 K1 hm4
  go_wp2_with fail
  refine K2.out.mono ?_
  rintro e w5 ⟨⟨f, rfl⟩, hm5, S', T', -, h5⟩
  have H5 := Lib.hid h5
  have HM5 := Lib.hid hm5
  clear h5 hm5 K2
  go_wp2_with fail
  all_goals
    go_ret
    exact ⟨_, rfl, S', T', _, (H5.out.less (fun _ h => .inl h)).more _ (by omega), (HMA.out.trans HMB.out).trans ((HM4.out.mono (fun k hk => ⟨hk.1, fun e => hk.2 (.inl e)⟩)).trans (HM5.out.mono (fun k hk => ⟨hk.1, fun e => hk.2 (.inl e)⟩)) (fun _ h => .inl h))⟩

set_option maxHeartbeats 4000000 in
theorem loose_drop8 {w0 w : World} {K0 : Nat → Prop} {x r p N c : Nat} {G : Lg} {H : Option Lg} (h : PrK w0 w K0 x r p N c PS.new (some PS.new) G H) (hN : N ≤ 400) (hN2 : 2 ≤ N) (hc : c < 123) (kind z : Int) (v : Value) (b : List UInt8) (hv : Bs w v b) (hvo : 0 < b.length → ∀ g, v.ownBlock = some g → g < w0.heap.size) (hzw : (Lit.int .i64 z).wf = true) (hbl : b.length ≤ 100000) (hk : withinOf kind 14 = 8) :
    Calls Try.prog 16 #[.agg #[.int .i64 kind, .int .i64 z, v], .pointer (some ⟨p, 0, none⟩), .pointer (some ⟨x, 0, none⟩)] w fun e w' => LooseTo w0 w K0 x r p N (c + 1) G e w' := by
  obtain ⟨ao, cap, rfl, hc1, hc2, -⟩ := id hv
  have hal : Below w.heap.size w (w.alloc (.cells #[.int .i64 kind, .int .i64 z, .slice ao b.length cap] 39)) := (Below.refl _ w).alloc (Nat.le_refl _) _
  have hb := Blk.new w #[.int .i64 kind, .int .i64 z, .slice ao b.length cap] 39
  have hp1 := h.took hal
  have hv1 := hv.below hal
  obtain ⟨w1, hw1⟩ : ∃ w1, w1 = w.alloc (.cells #[.int .i64 kind, .int .i64 z, .slice ao b.length cap] 39) := ⟨_, rfl⟩
  rw [← hw1] at hb hp1 hv1
  have hrg := within_range z ((N : Int) + 2) (by omega)
  have hw := within4_any z ((N : Int) + 2) (by omega) (by omega)
  obtain ⟨at', hat⟩ : ∃ y, y = withinOf z ((N : Int) + 2) := ⟨_, rfl⟩
  rw [← hat] at hrg hw
  have hw2 := within4_any kind 14 (by decide) (by decide)
  rw [hk] at hw2
  have HKD := Lib.hid hk
  obtain ⟨nb, hnb⟩ : ∃ nb, nb = b.length := ⟨_, rfl⟩
  rw [← hnb] at hb hw1
  have cN : w1.cell? ⟨x, 0, none⟩ = some (.int .i64 N) := hp1.pr.pages
  have cz : w1.cell? ⟨w.heap.size, 1, none⟩ = some (.int .i64 z) := by rw [hb.cell]; rfl
  have HW1 := Lib.hid hw1
  have HB := Lib.hid hb
  have HP := Lib.hid hp1
  have HV := Lib.hid hv1
  have HW := Lib.hid hw
  have HW2 := Lib.hid hw2
  have HMA : Hid (Mx w0 K0 w w1) := Lib.hid (by rw [hw1, hnb]; exact Mx.of hal)
  have HNB := Lib.hid hnb
  have HVO := Lib.hid hvo
  have hlt1 := hb.lt
  have HLT := Lib.hid hlt1
  have hr1 := hrg.1
  have hr2 := hrg.2
  have hwN : IntKind.i64.wrap ((N : Int) + 2) = (N : Int) + 2 := IntWalk.i64_in _ (by omega)
  have hwA : IntKind.i64.wrap (at' - 1) = at' - 1 := IntWalk.i64_in _ (by omega)
  rw [← hnb]
  clear hlt1 hvo h hv hal hb hp1 hv1 hw hw2 hk hat hw1 hnb hrg hc2 hc1
  go_enter Try.func16, Try.ntmps16
  go_wp2_with fail
  rw [← HW1.out]
  go_quiet ((go_at_call 15; exact Calls.quiet_of_same (HW.out _)))
  clear hwN hwA
  have hbd : Below w1.heap.size w1 (w1.drewN nq) := grownBy_below (grownBy_drewN _ _ _)
  have HP2 := Lib.hid (HP.out.grow hbd)
  have HV2 := Lib.hid (HV.out.below hbd)
  have hb2 := HB.out.moved (Moved.of_below hbd (fun _ => False)) (fun h => h)
  have HB2 := Lib.hid hb2
  have ck : (w1.drewN nq).cell? ⟨w.heap.size, 0, none⟩ = some (.int .i64 kind) := by rw [hb2.cell]; rfl
  have hs2 := hbd.size
  have HMB : Hid (Mx w0 K0 w1 (w1.drewN nq)) := Lib.hid (Mx.of hbd)
  generalize w1.drewN nq = w2 at hs2 HMB HP2 HV2 HB2 ck ⊢
  have HS2 : Hid (w1.heap.size ≤ w2.heap.size) := Lib.hid hs2
  clear hs2 hbd hb2 HP HB HV HW cN cz HW1
  go_wp2_with fail
  refine (HW2.out w2).mono ?_
  rintro e w3 ⟨rfl, he⟩
  replace he := he.symm
  subst he
  clear HW2
  have k1 := HP2.out.pager (R := fun e => e = .returned (.int .i64 (lgDrop N (at' - 1) H).1)) (fun X hX => ps_drop (at' - 1) hX)
  have K1 := Lib.hid k1
  clear k1
  go_wp2_with fail
  refine K1.out.mono ?_
  rintro e w4 ⟨rfl, h4, hm4⟩
  have HM4 := Lib.hid hm4
  have k2 := h4.refers (C := fun _ _ => True) (R := fun e => ∃ f : Int, e = .returned (.int .i64 f)) (fun Q hQ => drop_loose (at' - 1) (WalkArith.wf_i64 (by omega)) hQ)
  have K2 := Lib.hid k2
  clear h4 k2 K1 hm4
  go_wp2_with fail
  refine K2.out.mono ?_
  rintro e w5 ⟨⟨f, rfl⟩, hm5, S', T', -, h5⟩
  have H5 := Lib.hid h5
  have HM5 := Lib.hid hm5
  clear h5 hm5 K2
  go_wp2_with fail
  all_goals
    go_ret
    exact ⟨_, rfl, S', T', _, (H5.out.less (fun _ h => .inl h)).more _ (by omega), (HMA.out.trans HMB.out).trans ((HM4.out.mono (fun k hk => ⟨hk.1, fun e => hk.2 (.inl e)⟩)).trans (HM5.out.mono (fun k hk => ⟨hk.1, fun e => hk.2 (.inl e)⟩)) (fun _ h => .inl h))⟩

set_option maxHeartbeats 4000000 in
theorem loose_root9 {w0 w : World} {K0 : Nat → Prop} {x r p N c : Nat} {G : Lg} {H : Option Lg} (h : PrK w0 w K0 x r p N c PS.new (some PS.new) G H) (hN : N ≤ 400) (hN2 : 2 ≤ N) (hc : c < 123) (kind z : Int) (v : Value) (b : List UInt8) (hv : Bs w v b) (hvo : 0 < b.length → ∀ g, v.ownBlock = some g → g < w0.heap.size) (hzw : (Lit.int .i64 z).wf = true) (hbl : b.length ≤ 100000) (hk : withinOf kind 14 = 9) :
    Calls Try.prog 16 #[.agg #[.int .i64 kind, .int .i64 z, v], .pointer (some ⟨p, 0, none⟩), .pointer (some ⟨x, 0, none⟩)] w fun e w' => LooseTo w0 w K0 x r p N (c + 1) G e w' := by
  obtain ⟨ao, cap, rfl, hc1, hc2, -⟩ := id hv
  have hal : Below w.heap.size w (w.alloc (.cells #[.int .i64 kind, .int .i64 z, .slice ao b.length cap] 39)) := (Below.refl _ w).alloc (Nat.le_refl _) _
  have hb := Blk.new w #[.int .i64 kind, .int .i64 z, .slice ao b.length cap] 39
  have hp1 := h.took hal
  have hv1 := hv.below hal
  obtain ⟨w1, hw1⟩ : ∃ w1, w1 = w.alloc (.cells #[.int .i64 kind, .int .i64 z, .slice ao b.length cap] 39) := ⟨_, rfl⟩
  rw [← hw1] at hb hp1 hv1
  have hrg := within_range z ((N : Int) + 2) (by omega)
  have hw := within4_any z ((N : Int) + 2) (by omega) (by omega)
  obtain ⟨at', hat⟩ : ∃ y, y = withinOf z ((N : Int) + 2) := ⟨_, rfl⟩
  rw [← hat] at hrg hw
  have hw2 := within4_any kind 14 (by decide) (by decide)
  rw [hk] at hw2
  have HKD := Lib.hid hk
  obtain ⟨nb, hnb⟩ : ∃ nb, nb = b.length := ⟨_, rfl⟩
  rw [← hnb] at hb hw1
  have cN : w1.cell? ⟨x, 0, none⟩ = some (.int .i64 N) := hp1.pr.pages
  have cz : w1.cell? ⟨w.heap.size, 1, none⟩ = some (.int .i64 z) := by rw [hb.cell]; rfl
  have HW1 := Lib.hid hw1
  have HB := Lib.hid hb
  have HP := Lib.hid hp1
  have HV := Lib.hid hv1
  have HW := Lib.hid hw
  have HW2 := Lib.hid hw2
  have HMA : Hid (Mx w0 K0 w w1) := Lib.hid (by rw [hw1, hnb]; exact Mx.of hal)
  have HNB := Lib.hid hnb
  have HVO := Lib.hid hvo
  have hlt1 := hb.lt
  have HLT := Lib.hid hlt1
  have hr1 := hrg.1
  have hr2 := hrg.2
  have hwN : IntKind.i64.wrap ((N : Int) + 2) = (N : Int) + 2 := IntWalk.i64_in _ (by omega)
  have hwA : IntKind.i64.wrap (at' - 1) = at' - 1 := IntWalk.i64_in _ (by omega)
  rw [← hnb]
  clear hlt1 hvo h hv hal hb hp1 hv1 hw hw2 hk hat hw1 hnb hrg hc2 hc1
  go_enter Try.func16, Try.ntmps16
  go_wp2_with fail
  rw [← HW1.out]
  go_quiet ((go_at_call 15; exact Calls.quiet_of_same (HW.out _)))
  clear hwN hwA
  have hbd : Below w1.heap.size w1 (w1.drewN nq) := grownBy_below (grownBy_drewN _ _ _)
  have HP2 := Lib.hid (HP.out.grow hbd)
  have HV2 := Lib.hid (HV.out.below hbd)
  have hb2 := HB.out.moved (Moved.of_below hbd (fun _ => False)) (fun h => h)
  have HB2 := Lib.hid hb2
  have ck : (w1.drewN nq).cell? ⟨w.heap.size, 0, none⟩ = some (.int .i64 kind) := by rw [hb2.cell]; rfl
  have hs2 := hbd.size
  have HMB : Hid (Mx w0 K0 w1 (w1.drewN nq)) := Lib.hid (Mx.of hbd)
  generalize w1.drewN nq = w2 at hs2 HMB HP2 HV2 HB2 ck ⊢
  have HS2 : Hid (w1.heap.size ≤ w2.heap.size) := Lib.hid hs2
  clear hs2 hbd hb2 HP HB HV HW cN cz HW1
  go_wp2_with fail
  refine (HW2.out w2).mono ?_
  rintro e w3 ⟨rfl, he⟩
  replace he := he.symm
  subst he
  clear HW2
  have hkk : (fun k => K0 k ∨ (w.heap.size ≤ k ∧ k < w1.heap.size)) w.heap.size := .inr ⟨Nat.le_refl _, HLT.out⟩
  have HKK := Lib.hid hkk
  have cz2 : w2.drew.cell? ⟨w.heap.size, 1, none⟩ = some (.int .i64 z) := by show w2.cell? _ = _; rw [HB2.out.cell]; rfl
  have k1 := (HP2.out.grow (Below.refl w2.heap.size w2).drew).pager (R := fun e => e = .returned (.int .i64 (lgRoot H z))) (fun X hX => ps_setroot z hzw hX)
  have K1 := Lib.hid k1
  have CZ := Lib.hid cz2
  have HL2 : Hid (w.heap.size < w2.heap.size) := Lib.hid HB2.out.lt
  clear k1 hkk cz2
  go_wp2_with fail
  refine wp_region_any (by kernel_rfl) ?_
  change wpAny _ _ _ _ _ _ _ (World.drew _)
  refine wpAny_of_held (S := fun (w' : World) => w'.cell? ⟨w.heap.size, 1, none⟩ = some (.int .i64 z)) _ _ _ _ ?_
  have hS : (fun (w' : World) => w'.cell? ⟨w.heap.size, 1, none⟩ = some (.int .i64 z)) _ := CZ.out
  try simp only [Act.put, List.setIfInBounds_toArray, List.set_cons_zero, List.set_cons_succ]
  refine wpAnyH_take (i := 0) (oi := ⟨some 82, _, _, _, _, _⟩) (v := ?_) rfl (by kernel_rfl) (by kernel_rfl) (by kernel_rfl) (fun _ _ _ h => h) (Or.inl ⟨by rfl, ?_⟩) hS ?_
  rotate_left
  · intro wz hSw
    clear hSw
    go_simp
    first | done | with_reducible rfl
  try simp only [Act.put, List.setIfInBounds_toArray, List.set_cons_zero, List.set_cons_succ]
  refine wpAnyH_take (i := 1) (oi := ⟨some 83, _, _, _, _, _⟩) (v := ?_) rfl (by kernel_rfl) (by kernel_rfl) (by kernel_rfl) (fun _ _ _ h => h) (Or.inl ⟨by rfl, ?_⟩) hS ?_
  rotate_left
  · intro wz hSw
    clear hSw
    go_simp
    first | done | with_reducible rfl
  try simp only [Act.put, List.setIfInBounds_toArray, List.set_cons_zero, List.set_cons_succ]
  refine wpAnyH_take (i := 2) (oi := ⟨some 84, _, _, _, _, _⟩) (v := ?_) rfl (by kernel_rfl) (by kernel_rfl) (by kernel_rfl) (fun _ _ _ h => h) (Or.inl ⟨by rfl, ?_⟩) hS ?_
  rotate_left
  · intro wz hSw
    (try dsimp only at hSw)
    (try go_split_ands)
    go_simp
    first | done | with_reducible rfl
  try simp only [Act.put, List.setIfInBounds_toArray, List.set_cons_zero, List.set_cons_succ]
  refine wpAnyH_take (i := 4) (oi := ⟨some 86, _, _, _, _, _⟩) (v := ?_) rfl (by kernel_rfl) (by kernel_rfl) (by kernel_rfl) (fun _ _ _ h => h) (Or.inl ⟨by rfl, ?_⟩) hS ?_
  rotate_left
  · intro wz hSw
    clear hSw
    go_simp
    first | done | with_reducible rfl
  try simp only [Act.put, List.setIfInBounds_toArray, List.set_cons_zero, List.set_cons_succ]
  refine wpAnyH_take (i := 5) (oi := ⟨some 87, _, _, _, _, _⟩) (v := ?_) rfl (by kernel_rfl) (by kernel_rfl) (by kernel_rfl) (fun _ _ _ h => h) (Or.inl ⟨by rfl, ?_⟩) hS ?_
  rotate_left
  · intro wz hSw
    clear hSw
    go_simp
    first | done | with_reducible rfl
  try simp only [Act.put, List.setIfInBounds_toArray, List.set_cons_zero, List.set_cons_succ]
  refine wpAnyH_take (i := 6) (oi := ⟨some 88, _, _, _, _, _⟩) (v := ?_) rfl (by kernel_rfl) (by kernel_rfl) (by kernel_rfl) (fun _ _ _ h => h) (Or.inl ⟨by rfl, ?_⟩) hS ?_
  rotate_left
  · intro wz hSw
    (try dsimp only at hSw)
    (try go_split_ands)
    go_simp
    first | done | with_reducible rfl
  try simp only [Act.put, List.setIfInBounds_toArray, List.set_cons_zero, List.set_cons_succ]
  refine wpAnyH_ready (rs := [3]) (by kernel_rfl) (by simp) ?_
  refine AllReadyH.cons (o := ⟨some 85, _, _, _, _, _⟩) rfl (fun K hK => ?_) AllReadyH.nil
  go_simp
  refine K1.out.mono ?_
  rintro e w4 ⟨rfl, h4, hm4⟩
  have H4 := Lib.hid h4
  have HM4 := Lib.hid hm4
  have C4 := Lib.hid ((hm4.cell ⟨w.heap.size, 1, none⟩ HL2.out HKK.out).trans CZ.out)
  have HL4 : Hid (w.heap.size < w4.heap.size) := Lib.hid (Nat.lt_of_lt_of_le HL2.out hm4.size)
  clear h4 hm4
  go_simp
  refine hK.out _ _ (C4.out) (fun hS => ?_)
  clear hK K
  try simp only [Act.put, List.setIfInBounds_toArray, List.set_cons_zero, List.set_cons_succ]
  have k2 := H4.out.refers (R := fun e => ∃ f : Int, e = .returned (.int .i64 f)) (C := fun _ _ => True) (fun Q hQ => root_loose z hQ)
  have K2 := Lib.hid k2
  clear k2
  refine wpAnyH_ready (rs := [7]) (by kernel_rfl) (by simp) ?_
  refine AllReadyH.cons (o := ⟨some 89, _, _, _, _, _⟩) rfl (fun K hK => ?_) AllReadyH.nil
  go_simp
  refine K2.out.mono ?_
  rintro e w5 ⟨⟨f, rfl⟩, hm5, S', T', -, h5⟩
  have H5 := Lib.hid h5
  have HM5 := Lib.hid hm5
  have C5 := Lib.hid ((hm5.cell ⟨w.heap.size, 1, none⟩ HL4.out HKK.out).trans C4.out)
  clear h5 hm5
  go_simp
  refine hK.out _ _ (C5.out) (fun hS => ?_)
  clear hK K
  try simp only [Act.put, List.setIfInBounds_toArray, List.set_cons_zero, List.set_cons_succ]
  refine wpAnyH_take (i := 8) (oi := ⟨some 90, _, _, _, _, _⟩) (v := ?_) rfl (by kernel_rfl) (by kernel_rfl) (by kernel_rfl) (fun _ _ _ h => h) (Or.inl ⟨by rfl, ?_⟩) hS ?_
  rotate_left
  · intro wz hSw
    clear hSw
    go_simp
    first | done | with_reducible rfl
  try simp only [Act.put, List.setIfInBounds_toArray, List.set_cons_zero, List.set_cons_succ]
  refine wpAnyH_take (i := 9) (oi := ⟨some 6, _, _, _, _, _⟩) (v := ?_) rfl (by kernel_rfl) (by kernel_rfl) (by kernel_rfl) (fun _ _ _ h => h) (Or.inl ⟨by rfl, ?_⟩) hS ?_
  rotate_left
  · intro wz hSw
    clear hSw
    go_simp
    first | done | with_reducible rfl
  try simp only [Act.put, List.setIfInBounds_toArray, List.set_cons_zero, List.set_cons_succ]
  refine wpAnyH_done (by kernel_rfl) ?_ _
  clear hS
  go_wp2_with fail
  all_goals
    go_ret
    exact ⟨_, rfl, S', T', _, (H5.out.less (fun _ h => .inl h)).more _ (by omega), ((HMA.out.trans HMB.out).trans (Mx.of (Below.refl w2.heap.size w2).drew)).trans ((HM4.out.mono (fun k hk => ⟨hk.1, fun e => hk.2 (.inl e)⟩)).trans (HM5.out.mono (fun k hk => ⟨hk.1, fun e => hk.2 (.inl e)⟩)) (fun _ h => .inl h))⟩

set_option maxHeartbeats 4000000 in
theorem loose_put4 {w0 w : World} {K0 : Nat → Prop} {x r p N c : Nat} {G : Lg} {H : Option Lg} (h : PrK w0 w K0 x r p N c PS.new (some PS.new) G H) (hN : N ≤ 400) (hN2 : 2 ≤ N) (hc : c < 123) (kind z : Int) (v : Value) (b : List UInt8) (hv : Bs w v b) (hvo : 0 < b.length → ∀ g, v.ownBlock = some g → g < w0.heap.size) (hzw : (Lit.int .i64 z).wf = true) (hbl : b.length ≤ 100000) (hk : withinOf kind 14 = 4) :
    Calls Try.prog 16 #[.agg #[.int .i64 kind, .int .i64 z, v], .pointer (some ⟨p, 0, none⟩), .pointer (some ⟨x, 0, none⟩)] w fun e w' => LooseTo w0 w K0 x r p N (c + 1) G e w' := by
  obtain ⟨ao, cap, rfl, hc1, hc2, -⟩ := id hv
  have hal : Below w.heap.size w (w.alloc (.cells #[.int .i64 kind, .int .i64 z, .slice ao b.length cap] 39)) := (Below.refl _ w).alloc (Nat.le_refl _) _
  have hb := Blk.new w #[.int .i64 kind, .int .i64 z, .slice ao b.length cap] 39
  have hp1 := h.took hal
  have hv1 := hv.below hal
  obtain ⟨w1, hw1⟩ : ∃ w1, w1 = w.alloc (.cells #[.int .i64 kind, .int .i64 z, .slice ao b.length cap] 39) := ⟨_, rfl⟩
  rw [← hw1] at hb hp1 hv1
  have hrg := within_range z ((N : Int) + 2) (by omega)
  have hw := within4_any z ((N : Int) + 2) (by omega) (by omega)
  obtain ⟨at', hat⟩ : ∃ y, y = withinOf z ((N : Int) + 2) := ⟨_, rfl⟩
  rw [← hat] at hrg hw
  have hw2 := within4_any kind 14 (by decide) (by decide)
  rw [hk] at hw2
  have HKD := Lib.hid hk
  obtain ⟨nb, hnb⟩ : ∃ nb, nb = b.length := ⟨_, rfl⟩
  rw [← hnb] at hb hw1
  have cN : w1.cell? ⟨x, 0, none⟩ = some (.int .i64 N) := hp1.pr.pages
  have cz : w1.cell? ⟨w.heap.size, 1, none⟩ = some (.int .i64 z) := by rw [hb.cell]; rfl
  have HW1 := Lib.hid hw1
  have HB := Lib.hid hb
  have HP := Lib.hid hp1
  have HV := Lib.hid hv1
  have HW := Lib.hid hw
  have HW2 := Lib.hid hw2
  have HMA : Hid (Mx w0 K0 w w1) := Lib.hid (by rw [hw1, hnb]; exact Mx.of hal)
  have HNB := Lib.hid hnb
  have HVO := Lib.hid hvo
  have HBL := Lib.hid hbl
  have hlt1 := hb.lt
  have HLT := Lib.hid hlt1
  have hr1 := hrg.1
  have hr2 := hrg.2
  have hwN : IntKind.i64.wrap ((N : Int) + 2) = (N : Int) + 2 := IntWalk.i64_in _ (by omega)
  have hwA : IntKind.i64.wrap (at' - 1) = at' - 1 := IntWalk.i64_in _ (by omega)
  rw [← hnb]
  clear hbl hlt1 hvo h hv hal hb hp1 hv1 hw hw2 hk hat hw1 hnb hrg hc2 hc1
  go_enter Try.func16, Try.ntmps16
  go_wp2_with fail
  rw [← HW1.out]
  go_quiet ((go_at_call 15; exact Calls.quiet_of_same (HW.out _)))
  clear hwN hwA
  have hbd : Below w1.heap.size w1 (w1.drewN nq) := grownBy_below (grownBy_drewN _ _ _)
  have HP2 := Lib.hid (HP.out.grow hbd)
  have HV2 := Lib.hid (HV.out.below hbd)
  have hb2 := HB.out.moved (Moved.of_below hbd (fun _ => False)) (fun h => h)
  have HB2 := Lib.hid hb2
  have ck : (w1.drewN nq).cell? ⟨w.heap.size, 0, none⟩ = some (.int .i64 kind) := by rw [hb2.cell]; rfl
  have hs2 := hbd.size
  have HMB : Hid (Mx w0 K0 w1 (w1.drewN nq)) := Lib.hid (Mx.of hbd)
  generalize w1.drewN nq = w2 at hs2 HMB HP2 HV2 HB2 ck ⊢
  have HS2 : Hid (w1.heap.size ≤ w2.heap.size) := Lib.hid hs2
  clear hs2 hbd hb2 HP HB HV HW cN cz HW1
  go_wp2_with fail
  refine (HW2.out w2).mono ?_
  rintro e w3 ⟨rfl, he⟩
  replace he := he.symm
  subst he
  clear HW2
  have hkk : (fun k => K0 k ∨ (w.heap.size ≤ k ∧ k < w1.heap.size)) w.heap.size := .inr ⟨Nat.le_refl _, HLT.out⟩
  have HKK := Lib.hid hkk
  have hwf : (Lit.int .i64 (at' - 1)).wf = true := WalkArith.wf_i64 (by omega)
  have HWF := Lib.hid hwf
  have cz2 : w2.drew.cell? ⟨w.heap.size, 2, none⟩ = some (.slice ao nb cap) := by show w2.cell? _ = _; rw [HB2.out.cell]; rfl
  have ha3 : Below w2.heap.size w2 (w2.alloc (.cells #[] 5)).drew := ((Below.refl _ w2).alloc (Nat.le_refl _) _).drew
  have hg3 : Blk (w2.alloc (.cells #[] 5)).drew w2.heap.size #[] 5 := (Blk.new w2 #[] 5).drew
  have cz3 : (w2.alloc (.cells #[] 5)).drew.cell? ⟨w.heap.size, 2, none⟩ = some (.slice ao nb cap) := by
    rw [(HB2.out.moved (Moved.of_below ha3 (fun _ => False)) (fun h => h)).cell]; rfl
  have hv3 := HV2.out.below ha3
  rw [← HNB.out] at hv3
  have CZ := Lib.hid cz2
  have CZ3 := Lib.hid cz3
  have HA3 := Lib.hid ha3
  have HG3 := Lib.hid hg3
  have HV3 := Lib.hid hv3
  have HL2 : Hid (w.heap.size < w2.heap.size) := Lib.hid HB2.out.lt
  clear hkk cz2 cz3 ha3 hg3 hv3 hwf
  go_wp2_with fail
  refine wp_region_any (by kernel_rfl) ?_
  change wpAny _ _ _ _ _ _ _ (World.drew _)
  refine wpAny_of_held (S := fun (w' : World) => w'.cell? ⟨w.heap.size, 2, none⟩ = some (.slice ao nb cap)) _ _ _ _ ?_
  have hS : (fun (w' : World) => w'.cell? ⟨w.heap.size, 2, none⟩ = some (.slice ao nb cap)) _ := CZ.out
  try simp only [Act.put, List.setIfInBounds_toArray, List.set_cons_zero, List.set_cons_succ]
  refine wpAnyH_take (i := 0) (oi := ⟨some 57, _, _, _, _, _⟩) (v := ?_) rfl (by kernel_rfl) (by kernel_rfl) (by kernel_rfl) (fun _ _ _ h => h) (Or.inl ⟨by rfl, ?_⟩) hS ?_
  rotate_left
  · intro wz hSw
    clear hSw
    go_simp
    first | done | with_reducible rfl
  try simp only [Act.put, List.setIfInBounds_toArray, List.set_cons_zero, List.set_cons_succ]
  refine wpAnyH_take (i := 1) (oi := ⟨some 58, _, _, _, _, _⟩) (v := ?_) rfl (by kernel_rfl) (by kernel_rfl) (by kernel_rfl) (fun _ _ _ h => h) (Or.inl ⟨by rfl, ?_⟩) hS ?_
  rotate_left
  · intro wz hSw
    clear hSw
    go_simp
    first | done | with_reducible rfl
  try simp only [Act.put, List.setIfInBounds_toArray, List.set_cons_zero, List.set_cons_succ]
  refine wpAnyH_take (i := 3) (oi := ⟨some 60, _, _, _, _, _⟩) (v := ?_) rfl (by kernel_rfl) (by kernel_rfl) (by kernel_rfl) (fun _ _ _ h => h) (Or.inl ⟨by rfl, ?_⟩) hS ?_
  rotate_left
  · intro wz hSw
    clear hSw
    go_simp
    first | done | with_reducible rfl
  try simp only [Act.put, List.setIfInBounds_toArray, List.set_cons_zero, List.set_cons_succ]
  refine wpAnyH_take (i := 4) (oi := ⟨some 61, _, _, _, _, _⟩) (v := ?_) rfl (by kernel_rfl) (by kernel_rfl) (by kernel_rfl) (fun _ _ _ h => h) (Or.inl ⟨by rfl, ?_⟩) hS ?_
  rotate_left
  · intro wz hSw
    (try dsimp only at hSw)
    (try go_split_ands)
    go_simp
    first | done | with_reducible rfl
  try simp only [Act.put, List.setIfInBounds_toArray, List.set_cons_zero, List.set_cons_succ]
  refine wpAnyH_take (i := 7) (oi := ⟨some 64, _, _, _, _, _⟩) (v := ?_) rfl (by kernel_rfl) (by kernel_rfl) (by kernel_rfl) (fun _ _ _ h => h) (Or.inl ⟨by rfl, ?_⟩) hS ?_
  rotate_left
  · intro wz hSw
    clear hSw
    go_simp
    first | done | with_reducible rfl
  try simp only [Act.put, List.setIfInBounds_toArray, List.set_cons_zero, List.set_cons_succ]
  refine wpAnyH_take (i := 8) (oi := ⟨some 65, _, _, _, _, _⟩) (v := ?_) rfl (by kernel_rfl) (by kernel_rfl) (by kernel_rfl) (fun _ _ _ h => h) (Or.inl ⟨by rfl, ?_⟩) hS ?_
  rotate_left
  · intro wz hSw
    clear hSw
    go_simp
    first | done | with_reducible rfl
  try simp only [Act.put, List.setIfInBounds_toArray, List.set_cons_zero, List.set_cons_succ]
  refine wpAnyH_take (i := 9) (oi := ⟨some 66, _, _, _, _, _⟩) (v := ?_) rfl (by kernel_rfl) (by kernel_rfl) (by kernel_rfl) (fun _ _ _ h => h) (Or.inl ⟨by rfl, ?_⟩) hS ?_
  rotate_left
  · intro wz hSw
    clear hSw
    go_simp
    first | done | with_reducible rfl
  try simp only [Act.put, List.setIfInBounds_toArray, List.set_cons_zero, List.set_cons_succ]
  refine wpAnyH_take (i := 10) (oi := ⟨some 67, _, _, _, _, _⟩) (v := ?_) rfl (by kernel_rfl) (by kernel_rfl) (by kernel_rfl) (fun _ _ _ h => h) (Or.inl ⟨by rfl, ?_⟩) hS ?_
  rotate_left
  · intro wz hSw
    (try dsimp only at hSw)
    (try go_split_ands)
    go_simp
    first | done | with_reducible rfl
  try simp only [Act.put, List.setIfInBounds_toArray, List.set_cons_zero, List.set_cons_succ]
  refine wpAnyH_ready (rs := [2]) (by kernel_rfl) (by simp) ?_
  refine AllReadyH.cons (o := ⟨some 59, _, _, _, _, _⟩) rfl (fun K hK => ?_) AllReadyH.nil
  go_simp
  refine hK.out _ _ (CZ3.out) (fun hS => ?_)
  clear hK K
  try simp only [Act.put, List.setIfInBounds_toArray, List.set_cons_zero, List.set_cons_succ]
  refine wpAnyH_ready (rs := [5]) (by kernel_rfl) (by simp) ?_
  refine AllReadyH.cons (o := ⟨some 62, _, _, _, _, _⟩) rfl (fun K hK => ?_) AllReadyH.nil
  rw [if_pos (by rfl)]
  refine wp_append_copy _ _ rfl w2.heap.size rfl HG3.out (.slice ao nb cap) b rfl HV3.out HBL.out ?_
  intro v6 w6 hv6 hg6
  have bel6 : Below w2.heap.size w2 w6 := HA3.out.grown hg6 HA3.out.size (fun q hq => by have := Option.some.inj hq; omega)
  have HMC : Hid (Mx w0 K0 w2 w6) := Lib.hid (Mx.of bel6)
  have c6 : w6.cell? ⟨w.heap.size, 2, none⟩ = some (.slice ao nb cap) := (World.cell?_of_block (a := ⟨w.heap.size, 2, none⟩) (bel6.block _ HL2.out)).trans CZ.out
  have hl6 : w.heap.size < w6.heap.size := Nat.lt_of_lt_of_le HL2.out bel6.size
  have hb6 := HV2.out.below bel6
  have k1 := (HP2.out.grow bel6).pager (R := fun e => e = .returned (.int .i64 (lgPut N (at' - 1) b H).1)) (fun X hX => ps_put (at' - 1) HWF.out v6 b hv6 hX hc)
  have K1 := Lib.hid k1
  have C6 := Lib.hid c6
  have HL6 := Lib.hid hl6
  have HB6 := Lib.hid hb6
  clear hv6 hg6 bel6 k1 hl6 hb6
  refine hK.out _ _ c6 (fun hS => ?_)
  clear hK K c6
  try simp only [Act.put, List.setIfInBounds_toArray, List.set_cons_zero, List.set_cons_succ]
  refine wpAnyH_ready (rs := [6]) (by kernel_rfl) (by simp) ?_
  refine AllReadyH.cons (o := ⟨some 63, _, _, _, _, _⟩) rfl (fun K hK => ?_) AllReadyH.nil
  go_simp
  refine K1.out.mono ?_
  rintro e w4 ⟨rfl, h4, hm4⟩
  have H4 := Lib.hid h4
  have HM4 := Lib.hid hm4
  have C4 := Lib.hid ((hm4.cell ⟨w.heap.size, 2, none⟩ HL6.out HKK.out).trans C6.out)
  have HL4 : Hid (w.heap.size < w4.heap.size) := Lib.hid (Nat.lt_of_lt_of_le HL6.out hm4.size)
  have hb4 := HB6.out.moved0 hm4 (fun h0 g hg e => by have := HVO.out h0 g hg; omega)
  rw [← HNB.out] at hb4
  have HB4 := Lib.hid hb4
  clear h4 hm4 hb4
  go_simp
  refine hK.out _ _ (C4.out) (fun hS => ?_)
  clear hK K
  try simp only [Act.put, List.setIfInBounds_toArray, List.set_cons_zero, List.set_cons_succ]
  have k2 := H4.out.refers (R := fun e => ∃ f : Int, e = .returned (.int .i64 f)) (C := fun _ _ => True) (fun Q hQ => put_loose (at' - 1) HWF.out (.slice ao nb cap) hQ)
  have K2 := Lib.hid k2
  clear k2
  refine wpAnyH_ready (rs := [11]) (by kernel_rfl) (by simp) ?_
  refine AllReadyH.cons (o := ⟨some 68, _, _, _, _, _⟩) rfl (fun K hK => ?_) AllReadyH.nil
  go_simp
  refine K2.out.mono ?_
  rintro e w5 ⟨⟨f, rfl⟩, hm5, S', T', -, h5⟩
  have H5 := Lib.hid h5
  have HM5 := Lib.hid hm5
  have C5 := Lib.hid ((hm5.cell ⟨w.heap.size, 2, none⟩ HL4.out HKK.out).trans C4.out)
  clear h5 hm5
  go_simp
  refine hK.out _ _ (C5.out) (fun hS => ?_)
  clear hK K
  try simp only [Act.put, List.setIfInBounds_toArray, List.set_cons_zero, List.set_cons_succ]
  refine wpAnyH_take (i := 12) (oi := ⟨some 69, _, _, _, _, _⟩) (v := ?_) rfl (by kernel_rfl) (by kernel_rfl) (by kernel_rfl) (fun _ _ _ h => h) (Or.inl ⟨by rfl, ?_⟩) hS ?_
  rotate_left
  · intro wz hSw
    clear hSw
    go_simp
    first | done | with_reducible rfl
  try simp only [Act.put, List.setIfInBounds_toArray, List.set_cons_zero, List.set_cons_succ]
  refine wpAnyH_take (i := 13) (oi := ⟨some 6, _, _, _, _, _⟩) (v := ?_) rfl (by kernel_rfl) (by kernel_rfl) (by kernel_rfl) (fun _ _ _ h => h) (Or.inl ⟨by rfl, ?_⟩) hS ?_
  rotate_left
  · intro wz hSw
    clear hSw
    go_simp
    first | done | with_reducible rfl
  try simp only [Act.put, List.setIfInBounds_toArray, List.set_cons_zero, List.set_cons_succ]
  refine wpAnyH_done (by kernel_rfl) ?_ _
  clear hS
  go_wp2_with fail
  all_goals
    go_ret
    exact ⟨_, rfl, S', T', _, (H5.out.less (fun _ h => .inl h)).more _ (by omega), ((HMA.out.trans HMB.out).trans HMC.out).trans ((HM4.out.mono (fun k hk => ⟨hk.1, fun e => hk.2 (.inl e)⟩)).trans (HM5.out.mono (fun k hk => ⟨hk.1, fun e => hk.2 (.inl e)⟩)) (fun _ h => .inl h))⟩

set_option maxHeartbeats 4000000 in
theorem loose_put5 {w0 w : World} {K0 : Nat → Prop} {x r p N c : Nat} {G : Lg} {H : Option Lg} (h : PrK w0 w K0 x r p N c PS.new (some PS.new) G H) (hN : N ≤ 400) (hN2 : 2 ≤ N) (hc : c < 123) (kind z : Int) (v : Value) (b : List UInt8) (hv : Bs w v b) (hvo : 0 < b.length → ∀ g, v.ownBlock = some g → g < w0.heap.size) (hzw : (Lit.int .i64 z).wf = true) (hbl : b.length ≤ 100000) (hk : withinOf kind 14 = 5) :
    Calls Try.prog 16 #[.agg #[.int .i64 kind, .int .i64 z, v], .pointer (some ⟨p, 0, none⟩), .pointer (some ⟨x, 0, none⟩)] w fun e w' => LooseTo w0 w K0 x r p N (c + 1) G e w' := by
  obtain ⟨ao, cap, rfl, hc1, hc2, -⟩ := id hv
  have hal : Below w.heap.size w (w.alloc (.cells #[.int .i64 kind, .int .i64 z, .slice ao b.length cap] 39)) := (Below.refl _ w).alloc (Nat.le_refl _) _
  have hb := Blk.new w #[.int .i64 kind, .int .i64 z, .slice ao b.length cap] 39
  have hp1 := h.took hal
  have hv1 := hv.below hal
  obtain ⟨w1, hw1⟩ : ∃ w1, w1 = w.alloc (.cells #[.int .i64 kind, .int .i64 z, .slice ao b.length cap] 39) := ⟨_, rfl⟩
  rw [← hw1] at hb hp1 hv1
  have hrg := within_range z ((N : Int) + 2) (by omega)
  have hw := within4_any z ((N : Int) + 2) (by omega) (by omega)
  obtain ⟨at', hat⟩ : ∃ y, y = withinOf z ((N : Int) + 2) := ⟨_, rfl⟩
  rw [← hat] at hrg hw
  have hw2 := within4_any kind 14 (by decide) (by decide)
  rw [hk] at hw2
  have HKD := Lib.hid hk
  obtain ⟨nb, hnb⟩ : ∃ nb, nb = b.length := ⟨_, rfl⟩
  rw [← hnb] at hb hw1
  have cN : w1.cell? ⟨x, 0, none⟩ = some (.int .i64 N) := hp1.pr.pages
  have cz : w1.cell? ⟨w.heap.size, 1, none⟩ = some (.int .i64 z) := by rw [hb.cell]; rfl
  have HW1 := Lib.hid hw1
  have HB := Lib.hid hb
  have HP := Lib.hid hp1
  have HV := Lib.hid hv1
  have HW := Lib.hid hw
  have HW2 := Lib.hid hw2
  have HMA : Hid (Mx w0 K0 w w1) := Lib.hid (by rw [hw1, hnb]; exact Mx.of hal)
  have HNB := Lib.hid hnb
  have HVO := Lib.hid hvo
  have HBL := Lib.hid hbl
  have hlt1 := hb.lt
  have HLT := Lib.hid hlt1
  have hr1 := hrg.1
  have hr2 := hrg.2
  have hwN : IntKind.i64.wrap ((N : Int) + 2) = (N : Int) + 2 := IntWalk.i64_in _ (by omega)
  have hwA : IntKind.i64.wrap (at' - 1) = at' - 1 := IntWalk.i64_in _ (by omega)
  rw [← hnb]
  clear hbl hlt1 hvo h hv hal hb hp1 hv1 hw hw2 hk hat hw1 hnb hrg hc2 hc1
  go_enter Try.func16, Try.ntmps16
  go_wp2_with fail
  rw [← HW1.out]
  go_quiet ((go_at_call 15; exact Calls.quiet_of_same (HW.out _)))
  clear hwN hwA
  have hbd : Below w1.heap.size w1 (w1.drewN nq) := grownBy_below (grownBy_drewN _ _ _)
  have HP2 := Lib.hid (HP.out.grow hbd)
  have HV2 := Lib.hid (HV.out.below hbd)
  have hb2 := HB.out.moved (Moved.of_below hbd (fun _ => False)) (fun h => h)
  have HB2 := Lib.hid hb2
  have ck : (w1.drewN nq).cell? ⟨w.heap.size, 0, none⟩ = some (.int .i64 kind) := by rw [hb2.cell]; rfl
  have hs2 := hbd.size
  have HMB : Hid (Mx w0 K0 w1 (w1.drewN nq)) := Lib.hid (Mx.of hbd)
  generalize w1.drewN nq = w2 at hs2 HMB HP2 HV2 HB2 ck ⊢
  have HS2 : Hid (w1.heap.size ≤ w2.heap.size) := Lib.hid hs2
  clear hs2 hbd hb2 HP HB HV HW cN cz HW1
  go_wp2_with fail
  refine (HW2.out w2).mono ?_
  rintro e w3 ⟨rfl, he⟩
  replace he := he.symm
  subst he
  clear HW2
  have hkk : (fun k => K0 k ∨ (w.heap.size ≤ k ∧ k < w1.heap.size)) w.heap.size := .inr ⟨Nat.le_refl _, HLT.out⟩
  have HKK := Lib.hid hkk
  have hwf : (Lit.int .i64 (at' - 1)).wf = true := WalkArith.wf_i64 (by omega)
  have HWF := Lib.hid hwf
  have cz2 : w2.drew.cell? ⟨w.heap.size, 2, none⟩ = some (.slice ao nb cap) := by show w2.cell? _ = _; rw [HB2.out.cell]; rfl
  have ha3 : Below w2.heap.size w2 (w2.alloc (.cells #[] 5)).drew := ((Below.refl _ w2).alloc (Nat.le_refl _) _).drew
  have hg3 : Blk (w2.alloc (.cells #[] 5)).drew w2.heap.size #[] 5 := (Blk.new w2 #[] 5).drew
  have cz3 : (w2.alloc (.cells #[] 5)).drew.cell? ⟨w.heap.size, 2, none⟩ = some (.slice ao nb cap) := by
    rw [(HB2.out.moved (Moved.of_below ha3 (fun _ => False)) (fun h => h)).cell]; rfl
  have hv3 := HV2.out.below ha3
  rw [← HNB.out] at hv3
  have CZ := Lib.hid cz2
  have CZ3 := Lib.hid cz3
  have HA3 := Lib.hid ha3
  have HG3 := Lib.hid hg3
  have HV3 := Lib.hid hv3
  have HL2 : Hid (w.heap.size < w2.heap.size) := Lib.hid HB2.out.lt
  clear hkk cz2 cz3 ha3 hg3 hv3 hwf
  go_wp2_with fail
  refine wp_region_any (by kernel_rfl) ?_
  change wpAny _ _ _ _ _ _ _ (World.drew _)
  refine wpAny_of_held (S := fun (w' : World) => w'.cell? ⟨w.heap.size, 2, none⟩ = some (.slice ao nb cap)) _ _ _ _ ?_
  have hS : (fun (w' : World) => w'.cell? ⟨w.heap.size, 2, none⟩ = some (.slice ao nb cap)) _ := CZ.out
  try simp only [Act.put, List.setIfInBounds_toArray, List.set_cons_zero, List.set_cons_succ]
  refine wpAnyH_take (i := 0) (oi := ⟨some 57, _, _, _, _, _⟩) (v := ?_) rfl (by kernel_rfl) (by kernel_rfl) (by kernel_rfl) (fun _ _ _ h => h) (Or.inl ⟨by rfl, ?_⟩) hS ?_
  rotate_left
  · intro wz hSw
    clear hSw
    go_simp
    first | done | with_reducible rfl
  try simp only [Act.put, List.setIfInBounds_toArray, List.set_cons_zero, List.set_cons_succ]
  refine wpAnyH_take (i := 1) (oi := ⟨some 58, _, _, _, _, _⟩) (v := ?_) rfl (by kernel_rfl) (by kernel_rfl) (by kernel_rfl) (fun _ _ _ h => h) (Or.inl ⟨by rfl, ?_⟩) hS ?_
  rotate_left
  · intro wz hSw
    clear hSw
    go_simp
    first | done | with_reducible rfl
  try simp only [Act.put, List.setIfInBounds_toArray, List.set_cons_zero, List.set_cons_succ]
  refine wpAnyH_take (i := 3) (oi := ⟨some 60, _, _, _, _, _⟩) (v := ?_) rfl (by kernel_rfl) (by kernel_rfl) (by kernel_rfl) (fun _ _ _ h => h) (Or.inl ⟨by rfl, ?_⟩) hS ?_
  rotate_left
  · intro wz hSw
    clear hSw
    go_simp
    first | done | with_reducible rfl
  try simp only [Act.put, List.setIfInBounds_toArray, List.set_cons_zero, List.set_cons_succ]
  refine wpAnyH_take (i := 4) (oi := ⟨some 61, _, _, _, _, _⟩) (v := ?_) rfl (by kernel_rfl) (by kernel_rfl) (by kernel_rfl) (fun _ _ _ h => h) (Or.inl ⟨by rfl, ?_⟩) hS ?_
  rotate_left
  · intro wz hSw
    (try dsimp only at hSw)
    (try go_split_ands)
    go_simp
    first | done | with_reducible rfl
  try simp only [Act.put, List.setIfInBounds_toArray, List.set_cons_zero, List.set_cons_succ]
  refine wpAnyH_take (i := 7) (oi := ⟨some 64, _, _, _, _, _⟩) (v := ?_) rfl (by kernel_rfl) (by kernel_rfl) (by kernel_rfl) (fun _ _ _ h => h) (Or.inl ⟨by rfl, ?_⟩) hS ?_
  rotate_left
  · intro wz hSw
    clear hSw
    go_simp
    first | done | with_reducible rfl
  try simp only [Act.put, List.setIfInBounds_toArray, List.set_cons_zero, List.set_cons_succ]
  refine wpAnyH_take (i := 8) (oi := ⟨some 65, _, _, _, _, _⟩) (v := ?_) rfl (by kernel_rfl) (by kernel_rfl) (by kernel_rfl) (fun _ _ _ h => h) (Or.inl ⟨by rfl, ?_⟩) hS ?_
  rotate_left
  · intro wz hSw
    clear hSw
    go_simp
    first | done | with_reducible rfl
  try simp only [Act.put, List.setIfInBounds_toArray, List.set_cons_zero, List.set_cons_succ]
  refine wpAnyH_take (i := 9) (oi := ⟨some 66, _, _, _, _, _⟩) (v := ?_) rfl (by kernel_rfl) (by kernel_rfl) (by kernel_rfl) (fun _ _ _ h => h) (Or.inl ⟨by rfl, ?_⟩) hS ?_
  rotate_left
  · intro wz hSw
    clear hSw
    go_simp
    first | done | with_reducible rfl
  try simp only [Act.put, List.setIfInBounds_toArray, List.set_cons_zero, List.set_cons_succ]
  refine wpAnyH_take (i := 10) (oi := ⟨some 67, _, _, _, _, _⟩) (v := ?_) rfl (by kernel_rfl) (by kernel_rfl) (by kernel_rfl) (fun _ _ _ h => h) (Or.inl ⟨by rfl, ?_⟩) hS ?_
  rotate_left
  · intro wz hSw
    (try dsimp only at hSw)
    (try go_split_ands)
    go_simp
    first | done | with_reducible rfl
  try simp only [Act.put, List.setIfInBounds_toArray, List.set_cons_zero, List.set_cons_succ]
  refine wpAnyH_ready (rs := [2]) (by kernel_rfl) (by simp) ?_
  refine AllReadyH.cons (o := ⟨some 59, _, _, _, _, _⟩) rfl (fun K hK => ?_) AllReadyH.nil
  go_simp
  refine hK.out _ _ (CZ3.out) (fun hS => ?_)
  clear hK K
  try simp only [Act.put, List.setIfInBounds_toArray, List.set_cons_zero, List.set_cons_succ]
  refine wpAnyH_ready (rs := [5]) (by kernel_rfl) (by simp) ?_
  refine AllReadyH.cons (o := ⟨some 62, _, _, _, _, _⟩) rfl (fun K hK => ?_) AllReadyH.nil
  rw [if_pos (by rfl)]
  refine wp_append_copy _ _ rfl w2.heap.size rfl HG3.out (.slice ao nb cap) b rfl HV3.out HBL.out ?_
  intro v6 w6 hv6 hg6
  have bel6 : Below w2.heap.size w2 w6 := HA3.out.grown hg6 HA3.out.size (fun q hq => by have := Option.some.inj hq; omega)
  have HMC : Hid (Mx w0 K0 w2 w6) := Lib.hid (Mx.of bel6)
  have c6 : w6.cell? ⟨w.heap.size, 2, none⟩ = some (.slice ao nb cap) := (World.cell?_of_block (a := ⟨w.heap.size, 2, none⟩) (bel6.block _ HL2.out)).trans CZ.out
  have hl6 : w.heap.size < w6.heap.size := Nat.lt_of_lt_of_le HL2.out bel6.size
  have hb6 := HV2.out.below bel6
  have k1 := (HP2.out.grow bel6).pager (R := fun e => e = .returned (.int .i64 (lgPut N (at' - 1) b H).1)) (fun X hX => ps_put (at' - 1) HWF.out v6 b hv6 hX hc)
  have K1 := Lib.hid k1
  have C6 := Lib.hid c6
  have HL6 := Lib.hid hl6
  have HB6 := Lib.hid hb6
  clear hv6 hg6 bel6 k1 hl6 hb6
  refine hK.out _ _ c6 (fun hS => ?_)
  clear hK K c6
  try simp only [Act.put, List.setIfInBounds_toArray, List.set_cons_zero, List.set_cons_succ]
  refine wpAnyH_ready (rs := [6]) (by kernel_rfl) (by simp) ?_
  refine AllReadyH.cons (o := ⟨some 63, _, _, _, _, _⟩) rfl (fun K hK => ?_) AllReadyH.nil
  go_simp
  refine K1.out.mono ?_
  rintro e w4 ⟨rfl, h4, hm4⟩
  have H4 := Lib.hid h4
  have HM4 := Lib.hid hm4
  have C4 := Lib.hid ((hm4.cell ⟨w.heap.size, 2, none⟩ HL6.out HKK.out).trans C6.out)
  have HL4 : Hid (w.heap.size < w4.heap.size) := Lib.hid (Nat.lt_of_lt_of_le HL6.out hm4.size)
  have hb4 := HB6.out.moved0 hm4 (fun h0 g hg e => by have := HVO.out h0 g hg; omega)
  rw [← HNB.out] at hb4
  have HB4 := Lib.hid hb4
  clear h4 hm4 hb4
  go_simp
  refine hK.out _ _ (C4.out) (fun hS => ?_)
  clear hK K
  try simp only [Act.put, List.setIfInBounds_toArray, List.set_cons_zero, List.set_cons_succ]
  have k2 := H4.out.refers (R := fun e => ∃ f : Int, e = .returned (.int .i64 f)) (C := fun _ _ => True) (fun Q hQ => put_loose (at' - 1) HWF.out (.slice ao nb cap) hQ)
  have K2 := Lib.hid k2
  clear k2
  refine wpAnyH_ready (rs := [11]) (by kernel_rfl) (by simp) ?_
  refine AllReadyH.cons (o := ⟨some 68, _, _, _, _, _⟩) rfl (fun K hK => ?_) AllReadyH.nil
  go_simp
  refine K2.out.mono ?_
  rintro e w5 ⟨⟨f, rfl⟩, hm5, S', T', -, h5⟩
  have H5 := Lib.hid h5
  have HM5 := Lib.hid hm5
  have C5 := Lib.hid ((hm5.cell ⟨w.heap.size, 2, none⟩ HL4.out HKK.out).trans C4.out)
  clear h5 hm5
  go_simp
  refine hK.out _ _ (C5.out) (fun hS => ?_)
  clear hK K
  try simp only [Act.put, List.setIfInBounds_toArray, List.set_cons_zero, List.set_cons_succ]
  refine wpAnyH_take (i := 12) (oi := ⟨some 69, _, _, _, _, _⟩) (v := ?_) rfl (by kernel_rfl) (by kernel_rfl) (by kernel_rfl) (fun _ _ _ h => h) (Or.inl ⟨by rfl, ?_⟩) hS ?_
  rotate_left
  · intro wz hSw
    clear hSw
    go_simp
    first | done | with_reducible rfl
  try simp only [Act.put, List.setIfInBounds_toArray, List.set_cons_zero, List.set_cons_succ]
  refine wpAnyH_take (i := 13) (oi := ⟨some 6, _, _, _, _, _⟩) (v := ?_) rfl (by kernel_rfl) (by kernel_rfl) (by kernel_rfl) (fun _ _ _ h => h) (Or.inl ⟨by rfl, ?_⟩) hS ?_
  rotate_left
  · intro wz hSw
    clear hSw
    go_simp
    first | done | with_reducible rfl
  try simp only [Act.put, List.setIfInBounds_toArray, List.set_cons_zero, List.set_cons_succ]
  refine wpAnyH_done (by kernel_rfl) ?_ _
  clear hS
  go_wp2_with fail
  all_goals
    go_ret
    exact ⟨_, rfl, S', T', _, (H5.out.less (fun _ h => .inl h)).more _ (by omega), ((HMA.out.trans HMB.out).trans HMC.out).trans ((HM4.out.mono (fun k hk => ⟨hk.1, fun e => hk.2 (.inl e)⟩)).trans (HM5.out.mono (fun k hk => ⟨hk.1, fun e => hk.2 (.inl e)⟩)) (fun _ h => .inl h))⟩

set_option maxHeartbeats 4000000 in
theorem loose_put6 {w0 w : World} {K0 : Nat → Prop} {x r p N c : Nat} {G : Lg} {H : Option Lg} (h : PrK w0 w K0 x r p N c PS.new (some PS.new) G H) (hN : N ≤ 400) (hN2 : 2 ≤ N) (hc : c < 123) (kind z : Int) (v : Value) (b : List UInt8) (hv : Bs w v b) (hvo : 0 < b.length → ∀ g, v.ownBlock = some g → g < w0.heap.size) (hzw : (Lit.int .i64 z).wf = true) (hbl : b.length ≤ 100000) (hk : withinOf kind 14 = 6) :
    Calls Try.prog 16 #[.agg #[.int .i64 kind, .int .i64 z, v], .pointer (some ⟨p, 0, none⟩), .pointer (some ⟨x, 0, none⟩)] w fun e w' => LooseTo w0 w K0 x r p N (c + 1) G e w' := by
  obtain ⟨ao, cap, rfl, hc1, hc2, -⟩ := id hv
  have hal : Below w.heap.size w (w.alloc (.cells #[.int .i64 kind, .int .i64 z, .slice ao b.length cap] 39)) := (Below.refl _ w).alloc (Nat.le_refl _) _
  have hb := Blk.new w #[.int .i64 kind, .int .i64 z, .slice ao b.length cap] 39
  have hp1 := h.took hal
  have hv1 := hv.below hal
  obtain ⟨w1, hw1⟩ : ∃ w1, w1 = w.alloc (.cells #[.int .i64 kind, .int .i64 z, .slice ao b.length cap] 39) := ⟨_, rfl⟩
  rw [← hw1] at hb hp1 hv1
  have hrg := within_range z ((N : Int) + 2) (by omega)
  have hw := within4_any z ((N : Int) + 2) (by omega) (by omega)
  obtain ⟨at', hat⟩ : ∃ y, y = withinOf z ((N : Int) + 2) := ⟨_, rfl⟩
  rw [← hat] at hrg hw
  have hw2 := within4_any kind 14 (by decide) (by decide)
  rw [hk] at hw2
  have HKD := Lib.hid hk
  obtain ⟨nb, hnb⟩ : ∃ nb, nb = b.length := ⟨_, rfl⟩
  rw [← hnb] at hb hw1
  have cN : w1.cell? ⟨x, 0, none⟩ = some (.int .i64 N) := hp1.pr.pages
  have cz : w1.cell? ⟨w.heap.size, 1, none⟩ = some (.int .i64 z) := by rw [hb.cell]; rfl
  have HW1 := Lib.hid hw1
  have HB := Lib.hid hb
  have HP := Lib.hid hp1
  have HV := Lib.hid hv1
  have HW := Lib.hid hw
  have HW2 := Lib.hid hw2
  have HMA : Hid (Mx w0 K0 w w1) := Lib.hid (by rw [hw1, hnb]; exact Mx.of hal)
  have HNB := Lib.hid hnb
  have HVO := Lib.hid hvo
  have HBL := Lib.hid hbl
  have hlt1 := hb.lt
  have HLT := Lib.hid hlt1
  have hr1 := hrg.1
  have hr2 := hrg.2
  have hwN : IntKind.i64.wrap ((N : Int) + 2) = (N : Int) + 2 := IntWalk.i64_in _ (by omega)
  have hwA : IntKind.i64.wrap (at' - 1) = at' - 1 := IntWalk.i64_in _ (by omega)
  rw [← hnb]
  clear hbl hlt1 hvo h hv hal hb hp1 hv1 hw hw2 hk hat hw1 hnb hrg hc2 hc1
  go_enter Try.func16, Try.ntmps16
  go_wp2_with fail
  rw [← HW1.out]
  go_quiet ((go_at_call 15; exact Calls.quiet_of_same (HW.out _)))
  clear hwN hwA
  have hbd : Below w1.heap.size w1 (w1.drewN nq) := grownBy_below (grownBy_drewN _ _ _)
  have HP2 := Lib.hid (HP.out.grow hbd)
  have HV2 := Lib.hid (HV.out.below hbd)
  have hb2 := HB.out.moved (Moved.of_below hbd (fun _ => False)) (fun h => h)
  have HB2 := Lib.hid hb2
  have ck : (w1.drewN nq).cell? ⟨w.heap.size, 0, none⟩ = some (.int .i64 kind) := by rw [hb2.cell]; rfl
  have hs2 := hbd.size
  have HMB : Hid (Mx w0 K0 w1 (w1.drewN nq)) := Lib.hid (Mx.of hbd)
  generalize w1.drewN nq = w2 at hs2 HMB HP2 HV2 HB2 ck ⊢
  have HS2 : Hid (w1.heap.size ≤ w2.heap.size) := Lib.hid hs2
  clear hs2 hbd hb2 HP HB HV HW cN cz HW1
  go_wp2_with fail
  refine (HW2.out w2).mono ?_
  rintro e w3 ⟨rfl, he⟩
  replace he := he.symm
  subst he
  clear HW2
  have hkk : (fun k => K0 k ∨ (w.heap.size ≤ k ∧ k < w1.heap.size)) w.heap.size := .inr ⟨Nat.le_refl _, HLT.out⟩
  have HKK := Lib.hid hkk
  have hwf : (Lit.int .i64 (at' - 1)).wf = true := WalkArith.wf_i64 (by omega)
  have HWF := Lib.hid hwf
  have cz2 : w2.drew.cell? ⟨w.heap.size, 2, none⟩ = some (.slice ao nb cap) := by show w2.cell? _ = _; rw [HB2.out.cell]; rfl
  have ha3 : Below w2.heap.size w2 (w2.alloc (.cells #[] 5)).drew := ((Below.refl _ w2).alloc (Nat.le_refl _) _).drew
  have hg3 : Blk (w2.alloc (.cells #[] 5)).drew w2.heap.size #[] 5 := (Blk.new w2 #[] 5).drew
  have cz3 : (w2.alloc (.cells #[] 5)).drew.cell? ⟨w.heap.size, 2, none⟩ = some (.slice ao nb cap) := by
    rw [(HB2.out.moved (Moved.of_below ha3 (fun _ => False)) (fun h => h)).cell]; rfl
  have hv3 := HV2.out.below ha3
  rw [← HNB.out] at hv3
  have CZ := Lib.hid cz2
  have CZ3 := Lib.hid cz3
  have HA3 := Lib.hid ha3
  have HG3 := Lib.hid hg3
  have HV3 := Lib.hid hv3
  have HL2 : Hid (w.heap.size < w2.heap.size) := Lib.hid HB2.out.lt
  clear hkk cz2 cz3 ha3 hg3 hv3 hwf
  go_wp2_with fail
  refine wp_region_any (by kernel_rfl) ?_
  change wpAny _ _ _ _ _ _ _ (World.drew _)
  refine wpAny_of_held (S := fun (w' : World) => w'.cell? ⟨w.heap.size, 2, none⟩ = some (.slice ao nb cap)) _ _ _ _ ?_
  have hS : (fun (w' : World) => w'.cell? ⟨w.heap.size, 2, none⟩ = some (.slice ao nb cap)) _ := CZ.out
  try simp only [Act.put, List.setIfInBounds_toArray, List.set_cons_zero, List.set_cons_succ]
  refine wpAnyH_take (i := 0) (oi := ⟨some 57, _, _, _, _, _⟩) (v := ?_) rfl (by kernel_rfl) (by kernel_rfl) (by kernel_rfl) (fun _ _ _ h => h) (Or.inl ⟨by rfl, ?_⟩) hS ?_
  rotate_left
  · intro wz hSw
    clear hSw
    go_simp
    first | done | with_reducible rfl
  try simp only [Act.put, List.setIfInBounds_toArray, List.set_cons_zero, List.set_cons_succ]
  refine wpAnyH_take (i := 1) (oi := ⟨some 58, _, _, _, _, _⟩) (v := ?_) rfl (by kernel_rfl) (by kernel_rfl) (by kernel_rfl) (fun _ _ _ h => h) (Or.inl ⟨by rfl, ?_⟩) hS ?_
  rotate_left
  · intro wz hSw
    clear hSw
    go_simp
    first | done | with_reducible rfl
  try simp only [Act.put, List.setIfInBounds_toArray, List.set_cons_zero, List.set_cons_succ]
  refine wpAnyH_take (i := 3) (oi := ⟨some 60, _, _, _, _, _⟩) (v := ?_) rfl (by kernel_rfl) (by kernel_rfl) (by kernel_rfl) (fun _ _ _ h => h) (Or.inl ⟨by rfl, ?_⟩) hS ?_
  rotate_left
  · intro wz hSw
    clear hSw
    go_simp
    first | done | with_reducible rfl
  try simp only [Act.put, List.setIfInBounds_toArray, List.set_cons_zero, List.set_cons_succ]
  refine wpAnyH_take (i := 4) (oi := ⟨some 61, _, _, _, _, _⟩) (v := ?_) rfl (by kernel_rfl) (by kernel_rfl) (by kernel_rfl) (fun _ _ _ h => h) (Or.inl ⟨by rfl, ?_⟩) hS ?_
  rotate_left
  · intro wz hSw
    (try dsimp only at hSw)
    (try go_split_ands)
    go_simp
    first | done | with_reducible rfl
  try simp only [Act.put, List.setIfInBounds_toArray, List.set_cons_zero, List.set_cons_succ]
  refine wpAnyH_take (i := 7) (oi := ⟨some 64, _, _, _, _, _⟩) (v := ?_) rfl (by kernel_rfl) (by kernel_rfl) (by kernel_rfl) (fun _ _ _ h => h) (Or.inl ⟨by rfl, ?_⟩) hS ?_
  rotate_left
  · intro wz hSw
    clear hSw
    go_simp
    first | done | with_reducible rfl
  try simp only [Act.put, List.setIfInBounds_toArray, List.set_cons_zero, List.set_cons_succ]
  refine wpAnyH_take (i := 8) (oi := ⟨some 65, _, _, _, _, _⟩) (v := ?_) rfl (by kernel_rfl) (by kernel_rfl) (by kernel_rfl) (fun _ _ _ h => h) (Or.inl ⟨by rfl, ?_⟩) hS ?_
  rotate_left
  · intro wz hSw
    clear hSw
    go_simp
    first | done | with_reducible rfl
  try simp only [Act.put, List.setIfInBounds_toArray, List.set_cons_zero, List.set_cons_succ]
  refine wpAnyH_take (i := 9) (oi := ⟨some 66, _, _, _, _, _⟩) (v := ?_) rfl (by kernel_rfl) (by kernel_rfl) (by kernel_rfl) (fun _ _ _ h => h) (Or.inl ⟨by rfl, ?_⟩) hS ?_
  rotate_left
  · intro wz hSw
    clear hSw
    go_simp
    first | done | with_reducible rfl
  try simp only [Act.put, List.setIfInBounds_toArray, List.set_cons_zero, List.set_cons_succ]
  refine wpAnyH_take (i := 10) (oi := ⟨some 67, _, _, _, _, _⟩) (v := ?_) rfl (by kernel_rfl) (by kernel_rfl) (by kernel_rfl) (fun _ _ _ h => h) (Or.inl ⟨by rfl, ?_⟩) hS ?_
  rotate_left
  · intro wz hSw
    (try dsimp only at hSw)
    (try go_split_ands)
    go_simp
    first | done | with_reducible rfl
  try simp only [Act.put, List.setIfInBounds_toArray, List.set_cons_zero, List.set_cons_succ]
  refine wpAnyH_ready (rs := [2]) (by kernel_rfl) (by simp) ?_
  refine AllReadyH.cons (o := ⟨some 59, _, _, _, _, _⟩) rfl (fun K hK => ?_) AllReadyH.nil
  go_simp
  refine hK.out _ _ (CZ3.out) (fun hS => ?_)
  clear hK K
  try simp only [Act.put, List.setIfInBounds_toArray, List.set_cons_zero, List.set_cons_succ]
  refine wpAnyH_ready (rs := [5]) (by kernel_rfl) (by simp) ?_
  refine AllReadyH.cons (o := ⟨some 62, _, _, _, _, _⟩) rfl (fun K hK => ?_) AllReadyH.nil
  rw [if_pos (by rfl)]
  refine wp_append_copy _ _ rfl w2.heap.size rfl HG3.out (.slice ao nb cap) b rfl HV3.out HBL.out ?_
  intro v6 w6 hv6 hg6
  have bel6 : Below w2.heap.size w2 w6 := HA3.out.grown hg6 HA3.out.size (fun q hq => by have := Option.some.inj hq; omega)
  have HMC : Hid (Mx w0 K0 w2 w6) := Lib.hid (Mx.of bel6)
  have c6 : w6.cell? ⟨w.heap.size, 2, none⟩ = some (.slice ao nb cap) := (World.cell?_of_block (a := ⟨w.heap.size, 2, none⟩) (bel6.block _ HL2.out)).trans CZ.out
  have hl6 : w.heap.size < w6.heap.size := Nat.lt_of_lt_of_le HL2.out bel6.size
  have hb6 := HV2.out.below bel6
  have k1 := (HP2.out.grow bel6).pager (R := fun e => e = .returned (.int .i64 (lgPut N (at' - 1) b H).1)) (fun X hX => ps_put (at' - 1) HWF.out v6 b hv6 hX hc)
  have K1 := Lib.hid k1
  have C6 := Lib.hid c6
  have HL6 := Lib.hid hl6
  have HB6 := Lib.hid hb6
  clear hv6 hg6 bel6 k1 hl6 hb6
  refine hK.out _ _ c6 (fun hS => ?_)
  clear hK K c6
  try simp only [Act.put, List.setIfInBounds_toArray, List.set_cons_zero, List.set_cons_succ]
  refine wpAnyH_ready (rs := [6]) (by kernel_rfl) (by simp) ?_
  refine AllReadyH.cons (o := ⟨some 63, _, _, _, _, _⟩) rfl (fun K hK => ?_) AllReadyH.nil
  go_simp
  refine K1.out.mono ?_
  rintro e w4 ⟨rfl, h4, hm4⟩
  have H4 := Lib.hid h4
  have HM4 := Lib.hid hm4
  have C4 := Lib.hid ((hm4.cell ⟨w.heap.size, 2, none⟩ HL6.out HKK.out).trans C6.out)
  have HL4 : Hid (w.heap.size < w4.heap.size) := Lib.hid (Nat.lt_of_lt_of_le HL6.out hm4.size)
  have hb4 := HB6.out.moved0 hm4 (fun h0 g hg e => by have := HVO.out h0 g hg; omega)
  rw [← HNB.out] at hb4
  have HB4 := Lib.hid hb4
  clear h4 hm4 hb4
  go_simp
  refine hK.out _ _ (C4.out) (fun hS => ?_)
  clear hK K
  try simp only [Act.put, List.setIfInBounds_toArray, List.set_cons_zero, List.set_cons_succ]
  have k2 := H4.out.refers (R := fun e => ∃ f : Int, e = .returned (.int .i64 f)) (C := fun _ _ => True) (fun Q hQ => put_loose (at' - 1) HWF.out (.slice ao nb cap) hQ)
  have K2 := Lib.hid k2
  clear k2
  refine wpAnyH_ready (rs := [11]) (by kernel_rfl) (by simp) ?_
  refine AllReadyH.cons (o := ⟨some 68, _, _, _, _, _⟩) rfl (fun K hK => ?_) AllReadyH.nil
  go_simp
  refine K2.out.mono ?_
  rintro e w5 ⟨⟨f, rfl⟩, hm5, S', T', -, h5⟩
  have H5 := Lib.hid h5
  have HM5 := Lib.hid hm5
  have C5 := Lib.hid ((hm5.cell ⟨w.heap.size, 2, none⟩ HL4.out HKK.out).trans C4.out)
  clear h5 hm5
  go_simp
  refine hK.out _ _ (C5.out) (fun hS => ?_)
  clear hK K
  try simp only [Act.put, List.setIfInBounds_toArray, List.set_cons_zero, List.set_cons_succ]
  refine wpAnyH_take (i := 12) (oi := ⟨some 69, _, _, _, _, _⟩) (v := ?_) rfl (by kernel_rfl) (by kernel_rfl) (by kernel_rfl) (fun _ _ _ h => h) (Or.inl ⟨by rfl, ?_⟩) hS ?_
  rotate_left
  · intro wz hSw
    clear hSw
    go_simp
    first | done | with_reducible rfl
  try simp only [Act.put, List.setIfInBounds_toArray, List.set_cons_zero, List.set_cons_succ]
  refine wpAnyH_take (i := 13) (oi := ⟨some 6, _, _, _, _, _⟩) (v := ?_) rfl (by kernel_rfl) (by kernel_rfl) (by kernel_rfl) (fun _ _ _ h => h) (Or.inl ⟨by rfl, ?_⟩) hS ?_
  rotate_left
  · intro wz hSw
    clear hSw
    go_simp
    first | done | with_reducible rfl
  try simp only [Act.put, List.setIfInBounds_toArray, List.set_cons_zero, List.set_cons_succ]
  refine wpAnyH_done (by kernel_rfl) ?_ _
  clear hS
  go_wp2_with fail
  all_goals
    go_ret
    exact ⟨_, rfl, S', T', _, (H5.out.less (fun _ h => .inl h)).more _ (by omega), ((HMA.out.trans HMB.out).trans HMC.out).trans ((HM4.out.mono (fun k hk => ⟨hk.1, fun e => hk.2 (.inl e)⟩)).trans (HM5.out.mono (fun k hk => ⟨hk.1, fun e => hk.2 (.inl e)⟩)) (fun _ h => .inl h))⟩

end Go.Proofs.Ytcnfnpccbnnplaa

namespace Go.Proofs.Ytcnfnpccbnnplaa
open Go.RowKit Go.Maps
set_option maxRecDepth 100000

theorem loose_any {w0 w : World} {K0 : Nat → Prop} {x r p N c : Nat} {G : Lg} {H : Option Lg} (h : PrK w0 w K0 x r p N c PS.new (some PS.new) G H) (hN : N ≤ 400) (hN2 : 2 ≤ N) (hc : c < 123) (kind z : Int) (v : Value) (b : List UInt8) (hv : Bs w v b) (hvo : 0 < b.length → ∀ g, v.ownBlock = some g → g < w0.heap.size) (hzw : (Lit.int .i64 z).wf = true) (hbl : b.length ≤ 100000) (h1 : 1 ≤ withinOf kind 14) (h9 : withinOf kind 14 ≤ 9) :
    Calls Try.prog 16 #[.agg #[.int .i64 kind, .int .i64 z, v], .pointer (some ⟨p, 0, none⟩), .pointer (some ⟨x, 0, none⟩)] w fun e w' => LooseTo w0 w K0 x r p N (c + 1) G e w' := by
  have : withinOf kind 14 = 1 ∨ withinOf kind 14 = 2 ∨ withinOf kind 14 = 3 ∨ withinOf kind 14 = 4 ∨ withinOf kind 14 = 5 ∨ withinOf kind 14 = 6 ∨ withinOf kind 14 = 7 ∨ withinOf kind 14 = 8 ∨ withinOf kind 14 = 9 := by omega
  rcases this with e | e | e | e | e | e | e | e | e
  · exact loose_new1 h hN hN2 hc kind z v b hv hvo hzw hbl e
  · exact loose_new2 h hN hN2 hc kind z v b hv hvo hzw hbl e
  · exact loose_new3 h hN hN2 hc kind z v b hv hvo hzw hbl e
  · exact loose_put4 h hN hN2 hc kind z v b hv hvo hzw hbl e
  · exact loose_put5 h hN hN2 hc kind z v b hv hvo hzw hbl e
  · exact loose_put6 h hN hN2 hc kind z v b hv hvo hzw hbl e
  · exact loose_drop7 h hN hN2 hc kind z v b hv hvo hzw hbl e
  · exact loose_drop8 h hN hN2 hc kind z v b hv hvo hzw hbl e
  · exact loose_root9 h hN hN2 hc kind z v b hv hvo hzw hbl e
end Go.Proofs.Ytcnfnpccbnnplaa

