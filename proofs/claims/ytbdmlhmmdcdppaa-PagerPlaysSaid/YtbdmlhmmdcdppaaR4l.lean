/- SetRoot and Put as acts. -/
import Derived.Test.YtbdmlhmmdcdppaaR4k
namespace Go.Proofs.Ytbdmlhmmdcdppaa
open Go.RowKit Go.Maps
set_option maxRecDepth 100000
set_option linter.unusedVariables false

/-- append([]byte{}, y...). -/
theorem wp_append_copy {w : World} {o : Oper} {a : Act} {K : Act → World → Prop} {Q : Exit → Act → World → Prop} (s x : Operand)
    (ho : o.op = .call { callee := .builtin .append, args := #[s, x], argTypes := #[34, 34] }) (g : Nat) (hs : a.eval s = .slice (some ⟨g, 0, none⟩) 0 0) (hg : Blk w g #[] 5) (y : Value) (m : List UInt8) (hx : a.eval x = y) (hbs : Bs w y m) (hl : m.length ≤ 100000)
    (h : ∀ v' w', Bs w' v' m → w.grownBy w' (some g) → K (a.put o.dst v') w') : o.wp Try.prog a w K Q := by
  have hown : Own w g (.slice (some ⟨g, 0, none⟩) 0 0) [] := ⟨rfl, .inr ⟨g, 0, #[], rfl, Nat.le_refl _, hg, Nat.le_refl _, Nat.zero_le _, rfl, rfl⟩⟩
  obtain ⟨i0, hi, hz0, hz1, hz2⟩ := info_parts Try.infoU8
  obtain ⟨ao, cap, rfl, h1, h2, h3, h4⟩ := id hbs
  cases ao with
  | none =>
    have h0 := h3 rfl
    obtain rfl : m = [] := List.eq_nil_of_length_eq_zero (by omega)
    subst h0
    have h' := h _ w hown.bs (World.grownBy.refl _ _)
    have hrun := run_append_owned_none (P := Try.prog) (w := w) g 34 o.type 5 i0 1 Try.underlying34 hi _ _ _ hown
    unfold Oper.wp
    simp [execOp, ho, resolve, invoke, builtin, hs, hx, hrun, Result.andThen]
    exact h'
  | some ad =>
    exact wp_append_own (P := Try.prog) (K := K) (Q := Q) w s x 34 ho g 5 i0 _ 1 1 Try.underlying34 hi hz0 hz1 hz2 rfl (by decide) _ 0 _ hs hown ad m.length cap (vbs m) hx (by simp [vbs]) (h4 ad rfl) (vbs_oneCell m) (by simp [maxLen]; omega) (by omega) (by have := hg.lt; omega) (fun v' w' a1 a2 _ => h v' w' (Own.of a1 (by simp) (by simp [vbs])).bs a2)

set_option maxHeartbeats 4000000 in
theorem do_root9 {w0 w : World} {x r p N c : Nat} {S : PS} {T : Option PS} {G : Lg} {H : Option Lg} (h : Pr w0 w x r p N c S T G H) (hr : Rl N S T G H) (hN : N ≤ 400) (hN2 : 2 ≤ N) (hc : c < 100) (kind z : Int) (v : Value) (b : List UInt8) (hv : Bs w v b) (hvo : 0 < b.length → ∀ g, v.ownBlock = some g → g < w0.heap.size) (hzw : (Lit.int .i64 z).wf = true) (hk : withinOf kind 14 = 9) :
    Calls Try.prog 17 #[.agg #[.int .i64 kind, .int .i64 z, v], .pointer (some ⟨p, 0, none⟩), .pointer (some ⟨x, 0, none⟩)] w fun e w' => DoneTo w0 x r p N (c + 1) e w' := by
  obtain ⟨ao, cap, rfl, hc1, hc2, -⟩ := id hv
  have hal : Below w.heap.size w (w.alloc (.cells #[.int .i64 kind, .int .i64 z, .slice ao b.length cap] 36)) := (Below.refl _ w).alloc (Nat.le_refl _) _
  have hb := Blk.new w #[.int .i64 kind, .int .i64 z, .slice ao b.length cap] 36
  have hp1 := h.took hal
  have hv1 := hv.below hal
  obtain ⟨w1, hw1⟩ : ∃ w1, w1 = w.alloc (.cells #[.int .i64 kind, .int .i64 z, .slice ao b.length cap] 36) := ⟨_, rfl⟩
  rw [← hw1] at hb hp1 hv1
  have hrg := within_range z ((N : Int) + 2) (by omega)
  have hw := within4_any z ((N : Int) + 2) (by omega) (by omega)
  obtain ⟨at', hat⟩ : ∃ y, y = withinOf z ((N : Int) + 2) := ⟨_, rfl⟩
  rw [← hat] at hrg hw
  have hw2 := within4_any kind 14 (by decide) (by decide)
  rw [hk] at hw2
  obtain ⟨nb, hnb⟩ : ∃ nb, nb = b.length := ⟨_, rfl⟩
  rw [← hnb] at hb hw1
  have cN : w1.cell? ⟨x, 0, none⟩ = some (.int .i64 N) := hp1.pr.pages
  have cz : w1.cell? ⟨w.heap.size, 1, none⟩ = some (.int .i64 z) := by rw [hb.cell]; rfl
  have HW1 := Lib.hid hw1
  have HB := Lib.hid hb
  have HP := Lib.hid hp1
  have HV := Lib.hid hv1
  have HW := Lib.hid hw
  have HW2 := Lib.hid hw2
  have HR := Lib.hid hr
  have HNB := Lib.hid hnb
  have HVO := Lib.hid hvo
  have hlt1 := hb.lt
  have HLT := Lib.hid hlt1
  have hr1 := hrg.1
  have hr2 := hrg.2
  have hwN : IntKind.i64.wrap ((N : Int) + 2) = (N : Int) + 2 := IntWalk.i64_in _ (by omega)
  have hwA : IntKind.i64.wrap (at' - 1) = at' - 1 := IntWalk.i64_in _ (by omega)
  rw [← hnb]
  clear hlt1 hvo h hr hv hal hb hp1 hv1 hw hw2 hk hat hw1 hnb hrg hc2 hc1
  go_enter Try.func17, Try.ntmps17
  go_wp2_with fail
  rw [← HW1.out]
  go_quiet ((go_at_call 12; exact Calls.quiet_of_same (HW.out _)))
  clear hwN hwA
  have hbd : Below w1.heap.size w1 (w1.drewN nq) := grownBy_below (grownBy_drewN _ _ _)
  have HP2 := Lib.hid (HP.out.grow hbd)
  have HV2 := Lib.hid (HV.out.below hbd)
  have hb2 := HB.out.moved (Moved.of_below hbd (fun _ => False)) (fun h => h)
  have HB2 := Lib.hid hb2
  have ck : (w1.drewN nq).cell? ⟨w.heap.size, 0, none⟩ = some (.int .i64 kind) := by rw [hb2.cell]; rfl
  have hs2 := hbd.size
  generalize w1.drewN nq = w2 at hs2 HP2 HV2 HB2 ck ⊢
  have HS2 : Hid (w1.heap.size ≤ w2.heap.size) := Lib.hid hs2
  clear hs2 hbd hb2 HP HB HV HW cN cz HW1
  go_wp2_with fail
  refine (HW2.out w2).mono ?_
  rintro e w3 ⟨rfl, he⟩
  replace he := he.symm
  subst he
  clear HW2
  have hkk : (fun k => w.heap.size ≤ k ∧ k < w1.heap.size) w.heap.size := ⟨Nat.le_refl _, HLT.out⟩
  have HKK := Lib.hid hkk
  have cz2 : w2.drew.cell? ⟨w.heap.size, 1, none⟩ = some (.int .i64 z) := by show w2.cell? _ = _; rw [HB2.out.cell]; rfl
  have k1 := (HP2.out.grow (Below.refl w2.heap.size w2).drew).pager (R := fun e => e = .returned (.int .i64 (lgRoot H z))) (fun X hX => ps_setroot z hzw hX)
  have K1 := Lib.hid k1
  have CZ := Lib.hid cz2
  have HL2 : Hid (w.heap.size < w2.heap.size) := Lib.hid HB2.out.lt
  clear k1 hkk cz2
  go_wp2_with fail
  refine wp_region_any (by kernel_rfl) ?_
  change wpAny _ _ _ _ _ _ _ (World.drew _)
  refine wpAny_of_held (S := fun (w' : World) => w'.cell? ⟨w.heap.size, 1, none⟩ = some (.int .i64 z)) _ _ _ _ ?_
  have hS : (fun (w' : World) => w'.cell? ⟨w.heap.size, 1, none⟩ = some (.int .i64 z)) _ := CZ.out
  try simp only [Act.put, List.setIfInBounds_toArray, List.set_cons_zero, List.set_cons_succ]
  refine wpAnyH_take (i := 0) (oi := ⟨some 82, _, _, _, _, _⟩) (v := ?_) rfl (by kernel_rfl) (by kernel_rfl) (by kernel_rfl) (fun _ _ _ h => h) (Or.inl ⟨by rfl, ?_⟩) hS ?_
  rotate_left
  · intro wz hSw
    clear hSw
    go_simp
    first | done | with_reducible rfl
  try simp only [Act.put, List.setIfInBounds_toArray, List.set_cons_zero, List.set_cons_succ]
  refine wpAnyH_take (i := 1) (oi := ⟨some 83, _, _, _, _, _⟩) (v := ?_) rfl (by kernel_rfl) (by kernel_rfl) (by kernel_rfl) (fun _ _ _ h => h) (Or.inl ⟨by rfl, ?_⟩) hS ?_
  rotate_left
  · intro wz hSw
    clear hSw
    go_simp
    first | done | with_reducible rfl
  try simp only [Act.put, List.setIfInBounds_toArray, List.set_cons_zero, List.set_cons_succ]
  refine wpAnyH_take (i := 2) (oi := ⟨some 84, _, _, _, _, _⟩) (v := ?_) rfl (by kernel_rfl) (by kernel_rfl) (by kernel_rfl) (fun _ _ _ h => h) (Or.inl ⟨by rfl, ?_⟩) hS ?_
  rotate_left
  · intro wz hSw
    (try dsimp only at hSw)
    (try go_split_ands)
    go_simp
    first | done | with_reducible rfl
  try simp only [Act.put, List.setIfInBounds_toArray, List.set_cons_zero, List.set_cons_succ]
  refine wpAnyH_take (i := 4) (oi := ⟨some 86, _, _, _, _, _⟩) (v := ?_) rfl (by kernel_rfl) (by kernel_rfl) (by kernel_rfl) (fun _ _ _ h => h) (Or.inl ⟨by rfl, ?_⟩) hS ?_
  rotate_left
  · intro wz hSw
    clear hSw
    go_simp
    first | done | with_reducible rfl
  try simp only [Act.put, List.setIfInBounds_toArray, List.set_cons_zero, List.set_cons_succ]
  refine wpAnyH_take (i := 5) (oi := ⟨some 87, _, _, _, _, _⟩) (v := ?_) rfl (by kernel_rfl) (by kernel_rfl) (by kernel_rfl) (fun _ _ _ h => h) (Or.inl ⟨by rfl, ?_⟩) hS ?_
  rotate_left
  · intro wz hSw
    clear hSw
    go_simp
    first | done | with_reducible rfl
  try simp only [Act.put, List.setIfInBounds_toArray, List.set_cons_zero, List.set_cons_succ]
  refine wpAnyH_take (i := 6) (oi := ⟨some 88, _, _, _, _, _⟩) (v := ?_) rfl (by kernel_rfl) (by kernel_rfl) (by kernel_rfl) (fun _ _ _ h => h) (Or.inl ⟨by rfl, ?_⟩) hS ?_
  rotate_left
  · intro wz hSw
    (try dsimp only at hSw)
    (try go_split_ands)
    go_simp
    first | done | with_reducible rfl
  try simp only [Act.put, List.setIfInBounds_toArray, List.set_cons_zero, List.set_cons_succ]
  refine wpAnyH_ready (rs := [3]) (by kernel_rfl) (by simp) ?_
  refine AllReadyH.cons (o := ⟨some 85, _, _, _, _, _⟩) rfl (fun K hK => ?_) AllReadyH.nil
  go_simp
  refine K1.out.mono ?_
  rintro e w4 ⟨rfl, h4, hm4⟩
  have H4 := Lib.hid h4
  have C4 := Lib.hid ((hm4.cell ⟨w.heap.size, 1, none⟩ HL2.out HKK.out).trans CZ.out)
  have HL4 : Hid (w.heap.size < w4.heap.size) := Lib.hid (Nat.lt_of_lt_of_le HL2.out hm4.size)
  clear h4 hm4
  go_simp
  refine hK.out _ _ (C4.out) (fun hS => ?_)
  clear hK K
  try simp only [Act.put, List.setIfInBounds_toArray, List.set_cons_zero, List.set_cons_succ]
  have k2 := H4.out.refers (R := fun e => e = .returned (.int .i64 (lgRoot H z))) (C := fun S' T' => Rl N S' T' G (if 0 ≤ z then H.map (fun h => { h with root := z }) else H)) (fun Q hQ => rsetroot_rel z hQ HR.out)
  have K2 := Lib.hid k2
  clear k2
  refine wpAnyH_ready (rs := [7]) (by kernel_rfl) (by simp) ?_
  refine AllReadyH.cons (o := ⟨some 89, _, _, _, _, _⟩) rfl (fun K hK => ?_) AllReadyH.nil
  go_simp
  refine K2.out.mono ?_
  rintro e w5 ⟨rfl, hm5, S', T', hr5, h5⟩
  have H5 := Lib.hid h5
  have HR5 := Lib.hid hr5
  have C5 := Lib.hid ((hm5.cell ⟨w.heap.size, 1, none⟩ HL4.out HKK.out).trans C4.out)
  clear h5 hm5 hr5
  go_simp
  refine hK.out _ _ (C5.out) (fun hS => ?_)
  clear hK K
  try simp only [Act.put, List.setIfInBounds_toArray, List.set_cons_zero, List.set_cons_succ]
  refine wpAnyH_take (i := 8) (oi := ⟨some 90, _, _, _, _, _⟩) (v := ?_) rfl (by kernel_rfl) (by kernel_rfl) (by kernel_rfl) (fun _ _ _ h => h) (Or.inl ⟨by rfl, ?_⟩) hS ?_
  rotate_left
  · intro wz hSw
    clear hSw
    go_simp
    first | done | with_reducible rfl
  try simp only [Act.put, List.setIfInBounds_toArray, List.set_cons_zero, List.set_cons_succ]
  refine wpAnyH_take (i := 9) (oi := ⟨some 6, _, _, _, _, _⟩) (v := ?_) rfl (by kernel_rfl) (by kernel_rfl) (by kernel_rfl) (fun _ _ _ h => h) (Or.inl ⟨by rfl, ?_⟩) hS ?_
  rotate_left
  · intro wz hSw
    clear hSw
    go_simp
    first | done | with_reducible rfl
  try simp only [Act.put, List.setIfInBounds_toArray, List.set_cons_zero, List.set_cons_succ]
  refine wpAnyH_done (by kernel_rfl) ?_ _
  clear hS
  go_wp2_with fail
  go_ret
  exact ⟨rfl, S', T', _, _, HR5.out, H5.out.pr.more _ (by omega)⟩

set_option maxHeartbeats 4000000 in
theorem do_put4 {w0 w : World} {x r p N c : Nat} {S : PS} {T : Option PS} {G : Lg} {H : Option Lg} (h : Pr w0 w x r p N c S T G H) (hr : Rl N S T G H) (hN : N ≤ 400) (hN2 : 2 ≤ N) (hc : c < 100) (kind z : Int) (v : Value) (b : List UInt8) (hv : Bs w v b) (hvo : 0 < b.length → ∀ g, v.ownBlock = some g → g < w0.heap.size) (hbl : b.length ≤ 100000) (hk : withinOf kind 14 = 4) :
    Calls Try.prog 17 #[.agg #[.int .i64 kind, .int .i64 z, v], .pointer (some ⟨p, 0, none⟩), .pointer (some ⟨x, 0, none⟩)] w fun e w' => DoneTo w0 x r p N (c + 1) e w' := by
  obtain ⟨ao, cap, rfl, hc1, hc2, -⟩ := id hv
  have hal : Below w.heap.size w (w.alloc (.cells #[.int .i64 kind, .int .i64 z, .slice ao b.length cap] 36)) := (Below.refl _ w).alloc (Nat.le_refl _) _
  have hb := Blk.new w #[.int .i64 kind, .int .i64 z, .slice ao b.length cap] 36
  have hp1 := h.took hal
  have hv1 := hv.below hal
  obtain ⟨w1, hw1⟩ : ∃ w1, w1 = w.alloc (.cells #[.int .i64 kind, .int .i64 z, .slice ao b.length cap] 36) := ⟨_, rfl⟩
  rw [← hw1] at hb hp1 hv1
  have hrg := within_range z ((N : Int) + 2) (by omega)
  have hw := within4_any z ((N : Int) + 2) (by omega) (by omega)
  obtain ⟨at', hat⟩ : ∃ y, y = withinOf z ((N : Int) + 2) := ⟨_, rfl⟩
  rw [← hat] at hrg hw
  have hw2 := within4_any kind 14 (by decide) (by decide)
  rw [hk] at hw2
  obtain ⟨nb, hnb⟩ : ∃ nb, nb = b.length := ⟨_, rfl⟩
  rw [← hnb] at hb hw1
  have cN : w1.cell? ⟨x, 0, none⟩ = some (.int .i64 N) := hp1.pr.pages
  have cz : w1.cell? ⟨w.heap.size, 1, none⟩ = some (.int .i64 z) := by rw [hb.cell]; rfl
  have HW1 := Lib.hid hw1
  have HB := Lib.hid hb
  have HP := Lib.hid hp1
  have HV := Lib.hid hv1
  have HW := Lib.hid hw
  have HW2 := Lib.hid hw2
  have HR := Lib.hid hr
  have HNB := Lib.hid hnb
  have HVO := Lib.hid hvo
  have HBL := Lib.hid hbl
  have hlt1 := hb.lt
  have HLT := Lib.hid hlt1
  have hr1 := hrg.1
  have hr2 := hrg.2
  have hwN : IntKind.i64.wrap ((N : Int) + 2) = (N : Int) + 2 := IntWalk.i64_in _ (by omega)
  have hwA : IntKind.i64.wrap (at' - 1) = at' - 1 := IntWalk.i64_in _ (by omega)
  rw [← hnb]
  clear hbl hlt1 hvo h hr hv hal hb hp1 hv1 hw hw2 hk hat hw1 hnb hrg hc2 hc1
  go_enter Try.func17, Try.ntmps17
  go_wp2_with fail
  rw [← HW1.out]
  go_quiet ((go_at_call 12; exact Calls.quiet_of_same (HW.out _)))
  clear hwN hwA
  have hbd : Below w1.heap.size w1 (w1.drewN nq) := grownBy_below (grownBy_drewN _ _ _)
  have HP2 := Lib.hid (HP.out.grow hbd)
  have HV2 := Lib.hid (HV.out.below hbd)
  have hb2 := HB.out.moved (Moved.of_below hbd (fun _ => False)) (fun h => h)
  have HB2 := Lib.hid hb2
  have ck : (w1.drewN nq).cell? ⟨w.heap.size, 0, none⟩ = some (.int .i64 kind) := by rw [hb2.cell]; rfl
  have hs2 := hbd.size
  generalize w1.drewN nq = w2 at hs2 HP2 HV2 HB2 ck ⊢
  have HS2 : Hid (w1.heap.size ≤ w2.heap.size) := Lib.hid hs2
  clear hs2 hbd hb2 HP HB HV HW cN cz HW1
  go_wp2_with fail
  refine (HW2.out w2).mono ?_
  rintro e w3 ⟨rfl, he⟩
  replace he := he.symm
  subst he
  clear HW2
  have hkk : (fun k => w.heap.size ≤ k ∧ k < w1.heap.size) w.heap.size := ⟨Nat.le_refl _, HLT.out⟩
  have HKK := Lib.hid hkk
  have hwf : (Lit.int .i64 (at' - 1)).wf = true := WalkArith.wf_i64 (by omega)
  have HWF := Lib.hid hwf
  have cz2 : w2.drew.cell? ⟨w.heap.size, 2, none⟩ = some (.slice ao nb cap) := by show w2.cell? _ = _; rw [HB2.out.cell]; rfl
  have ha3 : Below w2.heap.size w2 (w2.alloc (.cells #[] 5)).drew := ((Below.refl _ w2).alloc (Nat.le_refl _) _).drew
  have hg3 : Blk (w2.alloc (.cells #[] 5)).drew w2.heap.size #[] 5 := (Blk.new w2 #[] 5).drew
  have cz3 : (w2.alloc (.cells #[] 5)).drew.cell? ⟨w.heap.size, 2, none⟩ = some (.slice ao nb cap) := by
    rw [(HB2.out.moved (Moved.of_below ha3 (fun _ => False)) (fun h => h)).cell]; rfl
  have hv3 := HV2.out.below ha3
  rw [← HNB.out] at hv3
  have CZ := Lib.hid cz2
  have CZ3 := Lib.hid cz3
  have HA3 := Lib.hid ha3
  have HG3 := Lib.hid hg3
  have HV3 := Lib.hid hv3
  have HL2 : Hid (w.heap.size < w2.heap.size) := Lib.hid HB2.out.lt
  clear hkk cz2 cz3 ha3 hg3 hv3 hwf
  go_wp2_with fail
  refine wp_region_any (by kernel_rfl) ?_
  change wpAny _ _ _ _ _ _ _ (World.drew _)
  refine wpAny_of_held (S := fun (w' : World) => w'.cell? ⟨w.heap.size, 2, none⟩ = some (.slice ao nb cap)) _ _ _ _ ?_
  have hS : (fun (w' : World) => w'.cell? ⟨w.heap.size, 2, none⟩ = some (.slice ao nb cap)) _ := CZ.out
  try simp only [Act.put, List.setIfInBounds_toArray, List.set_cons_zero, List.set_cons_succ]
  refine wpAnyH_take (i := 0) (oi := ⟨some 57, _, _, _, _, _⟩) (v := ?_) rfl (by kernel_rfl) (by kernel_rfl) (by kernel_rfl) (fun _ _ _ h => h) (Or.inl ⟨by rfl, ?_⟩) hS ?_
  rotate_left
  · intro wz hSw
    clear hSw
    go_simp
    first | done | with_reducible rfl
  try simp only [Act.put, List.setIfInBounds_toArray, List.set_cons_zero, List.set_cons_succ]
  refine wpAnyH_take (i := 1) (oi := ⟨some 58, _, _, _, _, _⟩) (v := ?_) rfl (by kernel_rfl) (by kernel_rfl) (by kernel_rfl) (fun _ _ _ h => h) (Or.inl ⟨by rfl, ?_⟩) hS ?_
  rotate_left
  · intro wz hSw
    clear hSw
    go_simp
    first | done | with_reducible rfl
  try simp only [Act.put, List.setIfInBounds_toArray, List.set_cons_zero, List.set_cons_succ]
  refine wpAnyH_take (i := 3) (oi := ⟨some 60, _, _, _, _, _⟩) (v := ?_) rfl (by kernel_rfl) (by kernel_rfl) (by kernel_rfl) (fun _ _ _ h => h) (Or.inl ⟨by rfl, ?_⟩) hS ?_
  rotate_left
  · intro wz hSw
    clear hSw
    go_simp
    first | done | with_reducible rfl
  try simp only [Act.put, List.setIfInBounds_toArray, List.set_cons_zero, List.set_cons_succ]
  refine wpAnyH_take (i := 4) (oi := ⟨some 61, _, _, _, _, _⟩) (v := ?_) rfl (by kernel_rfl) (by kernel_rfl) (by kernel_rfl) (fun _ _ _ h => h) (Or.inl ⟨by rfl, ?_⟩) hS ?_
  rotate_left
  · intro wz hSw
    (try dsimp only at hSw)
    (try go_split_ands)
    go_simp
    first | done | with_reducible rfl
  try simp only [Act.put, List.setIfInBounds_toArray, List.set_cons_zero, List.set_cons_succ]
  refine wpAnyH_take (i := 7) (oi := ⟨some 64, _, _, _, _, _⟩) (v := ?_) rfl (by kernel_rfl) (by kernel_rfl) (by kernel_rfl) (fun _ _ _ h => h) (Or.inl ⟨by rfl, ?_⟩) hS ?_
  rotate_left
  · intro wz hSw
    clear hSw
    go_simp
    first | done | with_reducible rfl
  try simp only [Act.put, List.setIfInBounds_toArray, List.set_cons_zero, List.set_cons_succ]
  refine wpAnyH_take (i := 8) (oi := ⟨some 65, _, _, _, _, _⟩) (v := ?_) rfl (by kernel_rfl) (by kernel_rfl) (by kernel_rfl) (fun _ _ _ h => h) (Or.inl ⟨by rfl, ?_⟩) hS ?_
  rotate_left
  · intro wz hSw
    clear hSw
    go_simp
    first | done | with_reducible rfl
  try simp only [Act.put, List.setIfInBounds_toArray, List.set_cons_zero, List.set_cons_succ]
  refine wpAnyH_take (i := 9) (oi := ⟨some 66, _, _, _, _, _⟩) (v := ?_) rfl (by kernel_rfl) (by kernel_rfl) (by kernel_rfl) (fun _ _ _ h => h) (Or.inl ⟨by rfl, ?_⟩) hS ?_
  rotate_left
  · intro wz hSw
    clear hSw
    go_simp
    first | done | with_reducible rfl
  try simp only [Act.put, List.setIfInBounds_toArray, List.set_cons_zero, List.set_cons_succ]
  refine wpAnyH_take (i := 10) (oi := ⟨some 67, _, _, _, _, _⟩) (v := ?_) rfl (by kernel_rfl) (by kernel_rfl) (by kernel_rfl) (fun _ _ _ h => h) (Or.inl ⟨by rfl, ?_⟩) hS ?_
  rotate_left
  · intro wz hSw
    (try dsimp only at hSw)
    (try go_split_ands)
    go_simp
    first | done | with_reducible rfl
  try simp only [Act.put, List.setIfInBounds_toArray, List.set_cons_zero, List.set_cons_succ]
  refine wpAnyH_ready (rs := [2]) (by kernel_rfl) (by simp) ?_
  refine AllReadyH.cons (o := ⟨some 59, _, _, _, _, _⟩) rfl (fun K hK => ?_) AllReadyH.nil
  go_simp
  refine hK.out _ _ (CZ3.out) (fun hS => ?_)
  clear hK K
  try simp only [Act.put, List.setIfInBounds_toArray, List.set_cons_zero, List.set_cons_succ]
  refine wpAnyH_ready (rs := [5]) (by kernel_rfl) (by simp) ?_
  refine AllReadyH.cons (o := ⟨some 62, _, _, _, _, _⟩) rfl (fun K hK => ?_) AllReadyH.nil
  rw [if_pos (by rfl)]
  refine wp_append_copy _ _ rfl w2.heap.size rfl HG3.out (.slice ao nb cap) b rfl HV3.out HBL.out ?_
  intro v6 w6 hv6 hg6
  have bel6 : Below w2.heap.size w2 w6 := HA3.out.grown hg6 HA3.out.size (fun q hq => by have := Option.some.inj hq; omega)
  have c6 : w6.cell? ⟨w.heap.size, 2, none⟩ = some (.slice ao nb cap) := (World.cell?_of_block (a := ⟨w.heap.size, 2, none⟩) (bel6.block _ HL2.out)).trans CZ.out
  have hl6 : w.heap.size < w6.heap.size := Nat.lt_of_lt_of_le HL2.out bel6.size
  have hb6 := HV2.out.below bel6
  have k1 := (HP2.out.grow bel6).pager (R := fun e => e = .returned (.int .i64 (lgPut N (at' - 1) b H).1)) (fun X hX => ps_put (at' - 1) HWF.out v6 b hv6 hX hc)
  have K1 := Lib.hid k1
  have C6 := Lib.hid c6
  have HL6 := Lib.hid hl6
  have HB6 := Lib.hid hb6
  clear hv6 hg6 bel6 k1 hl6 hb6
  refine hK.out _ _ c6 (fun hS => ?_)
  clear hK K c6
  try simp only [Act.put, List.setIfInBounds_toArray, List.set_cons_zero, List.set_cons_succ]
  refine wpAnyH_ready (rs := [6]) (by kernel_rfl) (by simp) ?_
  refine AllReadyH.cons (o := ⟨some 63, _, _, _, _, _⟩) rfl (fun K hK => ?_) AllReadyH.nil
  go_simp
  refine K1.out.mono ?_
  rintro e w4 ⟨rfl, h4, hm4⟩
  have H4 := Lib.hid h4
  have C4 := Lib.hid ((hm4.cell ⟨w.heap.size, 2, none⟩ HL6.out HKK.out).trans C6.out)
  have HL4 : Hid (w.heap.size < w4.heap.size) := Lib.hid (Nat.lt_of_lt_of_le HL6.out hm4.size)
  have hb4 := HB6.out.moved0 hm4 (fun h0 g hg e => by have := HVO.out h0 g hg; omega)
  rw [← HNB.out] at hb4
  have HB4 := Lib.hid hb4
  clear h4 hm4 hb4
  go_simp
  refine hK.out _ _ (C4.out) (fun hS => ?_)
  clear hK K
  try simp only [Act.put, List.setIfInBounds_toArray, List.set_cons_zero, List.set_cons_succ]
  have k2 := H4.out.refers (R := fun e => e = .returned (.int .i64 (lgPut N (at' - 1) b H).1)) (C := fun S' T' => Rl N S' T' G (lgPut N (at' - 1) b H).2) (fun Q hQ => rput_rel (at' - 1) HWF.out _ b HB4.out hQ HR.out hN)
  have K2 := Lib.hid k2
  clear k2
  refine wpAnyH_ready (rs := [11]) (by kernel_rfl) (by simp) ?_
  refine AllReadyH.cons (o := ⟨some 68, _, _, _, _, _⟩) rfl (fun K hK => ?_) AllReadyH.nil
  go_simp
  refine K2.out.mono ?_
  rintro e w5 ⟨rfl, hm5, S', T', hr5, h5⟩
  have H5 := Lib.hid h5
  have HR5 := Lib.hid hr5
  have C5 := Lib.hid ((hm5.cell ⟨w.heap.size, 2, none⟩ HL4.out HKK.out).trans C4.out)
  clear h5 hm5 hr5
  go_simp
  refine hK.out _ _ (C5.out) (fun hS => ?_)
  clear hK K
  try simp only [Act.put, List.setIfInBounds_toArray, List.set_cons_zero, List.set_cons_succ]
  refine wpAnyH_take (i := 12) (oi := ⟨some 69, _, _, _, _, _⟩) (v := ?_) rfl (by kernel_rfl) (by kernel_rfl) (by kernel_rfl) (fun _ _ _ h => h) (Or.inl ⟨by rfl, ?_⟩) hS ?_
  rotate_left
  · intro wz hSw
    clear hSw
    go_simp
    first | done | with_reducible rfl
  try simp only [Act.put, List.setIfInBounds_toArray, List.set_cons_zero, List.set_cons_succ]
  refine wpAnyH_take (i := 13) (oi := ⟨some 6, _, _, _, _, _⟩) (v := ?_) rfl (by kernel_rfl) (by kernel_rfl) (by kernel_rfl) (fun _ _ _ h => h) (Or.inl ⟨by rfl, ?_⟩) hS ?_
  rotate_left
  · intro wz hSw
    clear hSw
    go_simp
    first | done | with_reducible rfl
  try simp only [Act.put, List.setIfInBounds_toArray, List.set_cons_zero, List.set_cons_succ]
  refine wpAnyH_done (by kernel_rfl) ?_ _
  clear hS
  go_wp2_with fail
  go_ret
  exact ⟨rfl, S', T', _, _, HR5.out, H5.out.pr⟩

set_option maxHeartbeats 4000000 in
theorem do_put5 {w0 w : World} {x r p N c : Nat} {S : PS} {T : Option PS} {G : Lg} {H : Option Lg} (h : Pr w0 w x r p N c S T G H) (hr : Rl N S T G H) (hN : N ≤ 400) (hN2 : 2 ≤ N) (hc : c < 100) (kind z : Int) (v : Value) (b : List UInt8) (hv : Bs w v b) (hvo : 0 < b.length → ∀ g, v.ownBlock = some g → g < w0.heap.size) (hbl : b.length ≤ 100000) (hk : withinOf kind 14 = 5) :
    Calls Try.prog 17 #[.agg #[.int .i64 kind, .int .i64 z, v], .pointer (some ⟨p, 0, none⟩), .pointer (some ⟨x, 0, none⟩)] w fun e w' => DoneTo w0 x r p N (c + 1) e w' := by
  obtain ⟨ao, cap, rfl, hc1, hc2, -⟩ := id hv
  have hal : Below w.heap.size w (w.alloc (.cells #[.int .i64 kind, .int .i64 z, .slice ao b.length cap] 36)) := (Below.refl _ w).alloc (Nat.le_refl _) _
  have hb := Blk.new w #[.int .i64 kind, .int .i64 z, .slice ao b.length cap] 36
  have hp1 := h.took hal
  have hv1 := hv.below hal
  obtain ⟨w1, hw1⟩ : ∃ w1, w1 = w.alloc (.cells #[.int .i64 kind, .int .i64 z, .slice ao b.length cap] 36) := ⟨_, rfl⟩
  rw [← hw1] at hb hp1 hv1
  have hrg := within_range z ((N : Int) + 2) (by omega)
  have hw := within4_any z ((N : Int) + 2) (by omega) (by omega)
  obtain ⟨at', hat⟩ : ∃ y, y = withinOf z ((N : Int) + 2) := ⟨_, rfl⟩
  rw [← hat] at hrg hw
  have hw2 := within4_any kind 14 (by decide) (by decide)
  rw [hk] at hw2
  obtain ⟨nb, hnb⟩ : ∃ nb, nb = b.length := ⟨_, rfl⟩
  rw [← hnb] at hb hw1
  have cN : w1.cell? ⟨x, 0, none⟩ = some (.int .i64 N) := hp1.pr.pages
  have cz : w1.cell? ⟨w.heap.size, 1, none⟩ = some (.int .i64 z) := by rw [hb.cell]; rfl
  have HW1 := Lib.hid hw1
  have HB := Lib.hid hb
  have HP := Lib.hid hp1
  have HV := Lib.hid hv1
  have HW := Lib.hid hw
  have HW2 := Lib.hid hw2
  have HR := Lib.hid hr
  have HNB := Lib.hid hnb
  have HVO := Lib.hid hvo
  have HBL := Lib.hid hbl
  have hlt1 := hb.lt
  have HLT := Lib.hid hlt1
  have hr1 := hrg.1
  have hr2 := hrg.2
  have hwN : IntKind.i64.wrap ((N : Int) + 2) = (N : Int) + 2 := IntWalk.i64_in _ (by omega)
  have hwA : IntKind.i64.wrap (at' - 1) = at' - 1 := IntWalk.i64_in _ (by omega)
  rw [← hnb]
  clear hbl hlt1 hvo h hr hv hal hb hp1 hv1 hw hw2 hk hat hw1 hnb hrg hc2 hc1
  go_enter Try.func17, Try.ntmps17
  go_wp2_with fail
  rw [← HW1.out]
  go_quiet ((go_at_call 12; exact Calls.quiet_of_same (HW.out _)))
  clear hwN hwA
  have hbd : Below w1.heap.size w1 (w1.drewN nq) := grownBy_below (grownBy_drewN _ _ _)
  have HP2 := Lib.hid (HP.out.grow hbd)
  have HV2 := Lib.hid (HV.out.below hbd)
  have hb2 := HB.out.moved (Moved.of_below hbd (fun _ => False)) (fun h => h)
  have HB2 := Lib.hid hb2
  have ck : (w1.drewN nq).cell? ⟨w.heap.size, 0, none⟩ = some (.int .i64 kind) := by rw [hb2.cell]; rfl
  have hs2 := hbd.size
  generalize w1.drewN nq = w2 at hs2 HP2 HV2 HB2 ck ⊢
  have HS2 : Hid (w1.heap.size ≤ w2.heap.size) := Lib.hid hs2
  clear hs2 hbd hb2 HP HB HV HW cN cz HW1
  go_wp2_with fail
  refine (HW2.out w2).mono ?_
  rintro e w3 ⟨rfl, he⟩
  replace he := he.symm
  subst he
  clear HW2
  have hkk : (fun k => w.heap.size ≤ k ∧ k < w1.heap.size) w.heap.size := ⟨Nat.le_refl _, HLT.out⟩
  have HKK := Lib.hid hkk
  have hwf : (Lit.int .i64 (at' - 1)).wf = true := WalkArith.wf_i64 (by omega)
  have HWF := Lib.hid hwf
  have cz2 : w2.drew.cell? ⟨w.heap.size, 2, none⟩ = some (.slice ao nb cap) := by show w2.cell? _ = _; rw [HB2.out.cell]; rfl
  have ha3 : Below w2.heap.size w2 (w2.alloc (.cells #[] 5)).drew := ((Below.refl _ w2).alloc (Nat.le_refl _) _).drew
  have hg3 : Blk (w2.alloc (.cells #[] 5)).drew w2.heap.size #[] 5 := (Blk.new w2 #[] 5).drew
  have cz3 : (w2.alloc (.cells #[] 5)).drew.cell? ⟨w.heap.size, 2, none⟩ = some (.slice ao nb cap) := by
    rw [(HB2.out.moved (Moved.of_below ha3 (fun _ => False)) (fun h => h)).cell]; rfl
  have hv3 := HV2.out.below ha3
  rw [← HNB.out] at hv3
  have CZ := Lib.hid cz2
  have CZ3 := Lib.hid cz3
  have HA3 := Lib.hid ha3
  have HG3 := Lib.hid hg3
  have HV3 := Lib.hid hv3
  have HL2 : Hid (w.heap.size < w2.heap.size) := Lib.hid HB2.out.lt
  clear hkk cz2 cz3 ha3 hg3 hv3 hwf
  go_wp2_with fail
  refine wp_region_any (by kernel_rfl) ?_
  change wpAny _ _ _ _ _ _ _ (World.drew _)
  refine wpAny_of_held (S := fun (w' : World) => w'.cell? ⟨w.heap.size, 2, none⟩ = some (.slice ao nb cap)) _ _ _ _ ?_
  have hS : (fun (w' : World) => w'.cell? ⟨w.heap.size, 2, none⟩ = some (.slice ao nb cap)) _ := CZ.out
  try simp only [Act.put, List.setIfInBounds_toArray, List.set_cons_zero, List.set_cons_succ]
  refine wpAnyH_take (i := 0) (oi := ⟨some 57, _, _, _, _, _⟩) (v := ?_) rfl (by kernel_rfl) (by kernel_rfl) (by kernel_rfl) (fun _ _ _ h => h) (Or.inl ⟨by rfl, ?_⟩) hS ?_
  rotate_left
  · intro wz hSw
    clear hSw
    go_simp
    first | done | with_reducible rfl
  try simp only [Act.put, List.setIfInBounds_toArray, List.set_cons_zero, List.set_cons_succ]
  refine wpAnyH_take (i := 1) (oi := ⟨some 58, _, _, _, _, _⟩) (v := ?_) rfl (by kernel_rfl) (by kernel_rfl) (by kernel_rfl) (fun _ _ _ h => h) (Or.inl ⟨by rfl, ?_⟩) hS ?_
  rotate_left
  · intro wz hSw
    clear hSw
    go_simp
    first | done | with_reducible rfl
  try simp only [Act.put, List.setIfInBounds_toArray, List.set_cons_zero, List.set_cons_succ]
  refine wpAnyH_take (i := 3) (oi := ⟨some 60, _, _, _, _, _⟩) (v := ?_) rfl (by kernel_rfl) (by kernel_rfl) (by kernel_rfl) (fun _ _ _ h => h) (Or.inl ⟨by rfl, ?_⟩) hS ?_
  rotate_left
  · intro wz hSw
    clear hSw
    go_simp
    first | done | with_reducible rfl
  try simp only [Act.put, List.setIfInBounds_toArray, List.set_cons_zero, List.set_cons_succ]
  refine wpAnyH_take (i := 4) (oi := ⟨some 61, _, _, _, _, _⟩) (v := ?_) rfl (by kernel_rfl) (by kernel_rfl) (by kernel_rfl) (fun _ _ _ h => h) (Or.inl ⟨by rfl, ?_⟩) hS ?_
  rotate_left
  · intro wz hSw
    (try dsimp only at hSw)
    (try go_split_ands)
    go_simp
    first | done | with_reducible rfl
  try simp only [Act.put, List.setIfInBounds_toArray, List.set_cons_zero, List.set_cons_succ]
  refine wpAnyH_take (i := 7) (oi := ⟨some 64, _, _, _, _, _⟩) (v := ?_) rfl (by kernel_rfl) (by kernel_rfl) (by kernel_rfl) (fun _ _ _ h => h) (Or.inl ⟨by rfl, ?_⟩) hS ?_
  rotate_left
  · intro wz hSw
    clear hSw
    go_simp
    first | done | with_reducible rfl
  try simp only [Act.put, List.setIfInBounds_toArray, List.set_cons_zero, List.set_cons_succ]
  refine wpAnyH_take (i := 8) (oi := ⟨some 65, _, _, _, _, _⟩) (v := ?_) rfl (by kernel_rfl) (by kernel_rfl) (by kernel_rfl) (fun _ _ _ h => h) (Or.inl ⟨by rfl, ?_⟩) hS ?_
  rotate_left
  · intro wz hSw
    clear hSw
    go_simp
    first | done | with_reducible rfl
  try simp only [Act.put, List.setIfInBounds_toArray, List.set_cons_zero, List.set_cons_succ]
  refine wpAnyH_take (i := 9) (oi := ⟨some 66, _, _, _, _, _⟩) (v := ?_) rfl (by kernel_rfl) (by kernel_rfl) (by kernel_rfl) (fun _ _ _ h => h) (Or.inl ⟨by rfl, ?_⟩) hS ?_
  rotate_left
  · intro wz hSw
    clear hSw
    go_simp
    first | done | with_reducible rfl
  try simp only [Act.put, List.setIfInBounds_toArray, List.set_cons_zero, List.set_cons_succ]
  refine wpAnyH_take (i := 10) (oi := ⟨some 67, _, _, _, _, _⟩) (v := ?_) rfl (by kernel_rfl) (by kernel_rfl) (by kernel_rfl) (fun _ _ _ h => h) (Or.inl ⟨by rfl, ?_⟩) hS ?_
  rotate_left
  · intro wz hSw
    (try dsimp only at hSw)
    (try go_split_ands)
    go_simp
    first | done | with_reducible rfl
  try simp only [Act.put, List.setIfInBounds_toArray, List.set_cons_zero, List.set_cons_succ]
  refine wpAnyH_ready (rs := [2]) (by kernel_rfl) (by simp) ?_
  refine AllReadyH.cons (o := ⟨some 59, _, _, _, _, _⟩) rfl (fun K hK => ?_) AllReadyH.nil
  go_simp
  refine hK.out _ _ (CZ3.out) (fun hS => ?_)
  clear hK K
  try simp only [Act.put, List.setIfInBounds_toArray, List.set_cons_zero, List.set_cons_succ]
  refine wpAnyH_ready (rs := [5]) (by kernel_rfl) (by simp) ?_
  refine AllReadyH.cons (o := ⟨some 62, _, _, _, _, _⟩) rfl (fun K hK => ?_) AllReadyH.nil
  rw [if_pos (by rfl)]
  refine wp_append_copy _ _ rfl w2.heap.size rfl HG3.out (.slice ao nb cap) b rfl HV3.out HBL.out ?_
  intro v6 w6 hv6 hg6
  have bel6 : Below w2.heap.size w2 w6 := HA3.out.grown hg6 HA3.out.size (fun q hq => by have := Option.some.inj hq; omega)
  have c6 : w6.cell? ⟨w.heap.size, 2, none⟩ = some (.slice ao nb cap) := (World.cell?_of_block (a := ⟨w.heap.size, 2, none⟩) (bel6.block _ HL2.out)).trans CZ.out
  have hl6 : w.heap.size < w6.heap.size := Nat.lt_of_lt_of_le HL2.out bel6.size
  have hb6 := HV2.out.below bel6
  have k1 := (HP2.out.grow bel6).pager (R := fun e => e = .returned (.int .i64 (lgPut N (at' - 1) b H).1)) (fun X hX => ps_put (at' - 1) HWF.out v6 b hv6 hX hc)
  have K1 := Lib.hid k1
  have C6 := Lib.hid c6
  have HL6 := Lib.hid hl6
  have HB6 := Lib.hid hb6
  clear hv6 hg6 bel6 k1 hl6 hb6
  refine hK.out _ _ c6 (fun hS => ?_)
  clear hK K c6
  try simp only [Act.put, List.setIfInBounds_toArray, List.set_cons_zero, List.set_cons_succ]
  refine wpAnyH_ready (rs := [6]) (by kernel_rfl) (by simp) ?_
  refine AllReadyH.cons (o := ⟨some 63, _, _, _, _, _⟩) rfl (fun K hK => ?_) AllReadyH.nil
  go_simp
  refine K1.out.mono ?_
  rintro e w4 ⟨rfl, h4, hm4⟩
  have H4 := Lib.hid h4
  have C4 := Lib.hid ((hm4.cell ⟨w.heap.size, 2, none⟩ HL6.out HKK.out).trans C6.out)
  have HL4 : Hid (w.heap.size < w4.heap.size) := Lib.hid (Nat.lt_of_lt_of_le HL6.out hm4.size)
  have hb4 := HB6.out.moved0 hm4 (fun h0 g hg e => by have := HVO.out h0 g hg; omega)
  rw [← HNB.out] at hb4
  have HB4 := Lib.hid hb4
  clear h4 hm4 hb4
  go_simp
  refine hK.out _ _ (C4.out) (fun hS => ?_)
  clear hK K
  try simp only [Act.put, List.setIfInBounds_toArray, List.set_cons_zero, List.set_cons_succ]
  have k2 := H4.out.refers (R := fun e => e = .returned (.int .i64 (lgPut N (at' - 1) b H).1)) (C := fun S' T' => Rl N S' T' G (lgPut N (at' - 1) b H).2) (fun Q hQ => rput_rel (at' - 1) HWF.out _ b HB4.out hQ HR.out hN)
  have K2 := Lib.hid k2
  clear k2
  refine wpAnyH_ready (rs := [11]) (by kernel_rfl) (by simp) ?_
  refine AllReadyH.cons (o := ⟨some 68, _, _, _, _, _⟩) rfl (fun K hK => ?_) AllReadyH.nil
  go_simp
  refine K2.out.mono ?_
  rintro e w5 ⟨rfl, hm5, S', T', hr5, h5⟩
  have H5 := Lib.hid h5
  have HR5 := Lib.hid hr5
  have C5 := Lib.hid ((hm5.cell ⟨w.heap.size, 2, none⟩ HL4.out HKK.out).trans C4.out)
  clear h5 hm5 hr5
  go_simp
  refine hK.out _ _ (C5.out) (fun hS => ?_)
  clear hK K
  try simp only [Act.put, List.setIfInBounds_toArray, List.set_cons_zero, List.set_cons_succ]
  refine wpAnyH_take (i := 12) (oi := ⟨some 69, _, _, _, _, _⟩) (v := ?_) rfl (by kernel_rfl) (by kernel_rfl) (by kernel_rfl) (fun _ _ _ h => h) (Or.inl ⟨by rfl, ?_⟩) hS ?_
  rotate_left
  · intro wz hSw
    clear hSw
    go_simp
    first | done | with_reducible rfl
  try simp only [Act.put, List.setIfInBounds_toArray, List.set_cons_zero, List.set_cons_succ]
  refine wpAnyH_take (i := 13) (oi := ⟨some 6, _, _, _, _, _⟩) (v := ?_) rfl (by kernel_rfl) (by kernel_rfl) (by kernel_rfl) (fun _ _ _ h => h) (Or.inl ⟨by rfl, ?_⟩) hS ?_
  rotate_left
  · intro wz hSw
    clear hSw
    go_simp
    first | done | with_reducible rfl
  try simp only [Act.put, List.setIfInBounds_toArray, List.set_cons_zero, List.set_cons_succ]
  refine wpAnyH_done (by kernel_rfl) ?_ _
  clear hS
  go_wp2_with fail
  go_ret
  exact ⟨rfl, S', T', _, _, HR5.out, H5.out.pr⟩

set_option maxHeartbeats 4000000 in
theorem do_put6 {w0 w : World} {x r p N c : Nat} {S : PS} {T : Option PS} {G : Lg} {H : Option Lg} (h : Pr w0 w x r p N c S T G H) (hr : Rl N S T G H) (hN : N ≤ 400) (hN2 : 2 ≤ N) (hc : c < 100) (kind z : Int) (v : Value) (b : List UInt8) (hv : Bs w v b) (hvo : 0 < b.length → ∀ g, v.ownBlock = some g → g < w0.heap.size) (hbl : b.length ≤ 100000) (hk : withinOf kind 14 = 6) :
    Calls Try.prog 17 #[.agg #[.int .i64 kind, .int .i64 z, v], .pointer (some ⟨p, 0, none⟩), .pointer (some ⟨x, 0, none⟩)] w fun e w' => DoneTo w0 x r p N (c + 1) e w' := by
  obtain ⟨ao, cap, rfl, hc1, hc2, -⟩ := id hv
  have hal : Below w.heap.size w (w.alloc (.cells #[.int .i64 kind, .int .i64 z, .slice ao b.length cap] 36)) := (Below.refl _ w).alloc (Nat.le_refl _) _
  have hb := Blk.new w #[.int .i64 kind, .int .i64 z, .slice ao b.length cap] 36
  have hp1 := h.took hal
  have hv1 := hv.below hal
  obtain ⟨w1, hw1⟩ : ∃ w1, w1 = w.alloc (.cells #[.int .i64 kind, .int .i64 z, .slice ao b.length cap] 36) := ⟨_, rfl⟩
  rw [← hw1] at hb hp1 hv1
  have hrg := within_range z ((N : Int) + 2) (by omega)
  have hw := within4_any z ((N : Int) + 2) (by omega) (by omega)
  obtain ⟨at', hat⟩ : ∃ y, y = withinOf z ((N : Int) + 2) := ⟨_, rfl⟩
  rw [← hat] at hrg hw
  have hw2 := within4_any kind 14 (by decide) (by decide)
  rw [hk] at hw2
  obtain ⟨nb, hnb⟩ : ∃ nb, nb = b.length := ⟨_, rfl⟩
  rw [← hnb] at hb hw1
  have cN : w1.cell? ⟨x, 0, none⟩ = some (.int .i64 N) := hp1.pr.pages
  have cz : w1.cell? ⟨w.heap.size, 1, none⟩ = some (.int .i64 z) := by rw [hb.cell]; rfl
  have HW1 := Lib.hid hw1
  have HB := Lib.hid hb
  have HP := Lib.hid hp1
  have HV := Lib.hid hv1
  have HW := Lib.hid hw
  have HW2 := Lib.hid hw2
  have HR := Lib.hid hr
  have HNB := Lib.hid hnb
  have HVO := Lib.hid hvo
  have HBL := Lib.hid hbl
  have hlt1 := hb.lt
  have HLT := Lib.hid hlt1
  have hr1 := hrg.1
  have hr2 := hrg.2
  have hwN : IntKind.i64.wrap ((N : Int) + 2) = (N : Int) + 2 := IntWalk.i64_in _ (by omega)
  have hwA : IntKind.i64.wrap (at' - 1) = at' - 1 := IntWalk.i64_in _ (by omega)
  rw [← hnb]
  clear hbl hlt1 hvo h hr hv hal hb hp1 hv1 hw hw2 hk hat hw1 hnb hrg hc2 hc1
  go_enter Try.func17, Try.ntmps17
  go_wp2_with fail
  rw [← HW1.out]
  go_quiet ((go_at_call 12; exact Calls.quiet_of_same (HW.out _)))
  clear hwN hwA
  have hbd : Below w1.heap.size w1 (w1.drewN nq) := grownBy_below (grownBy_drewN _ _ _)
  have HP2 := Lib.hid (HP.out.grow hbd)
  have HV2 := Lib.hid (HV.out.below hbd)
  have hb2 := HB.out.moved (Moved.of_below hbd (fun _ => False)) (fun h => h)
  have HB2 := Lib.hid hb2
  have ck : (w1.drewN nq).cell? ⟨w.heap.size, 0, none⟩ = some (.int .i64 kind) := by rw [hb2.cell]; rfl
  have hs2 := hbd.size
  generalize w1.drewN nq = w2 at hs2 HP2 HV2 HB2 ck ⊢
  have HS2 : Hid (w1.heap.size ≤ w2.heap.size) := Lib.hid hs2
  clear hs2 hbd hb2 HP HB HV HW cN cz HW1
  go_wp2_with fail
  refine (HW2.out w2).mono ?_
  rintro e w3 ⟨rfl, he⟩
  replace he := he.symm
  subst he
  clear HW2
  have hkk : (fun k => w.heap.size ≤ k ∧ k < w1.heap.size) w.heap.size := ⟨Nat.le_refl _, HLT.out⟩
  have HKK := Lib.hid hkk
  have hwf : (Lit.int .i64 (at' - 1)).wf = true := WalkArith.wf_i64 (by omega)
  have HWF := Lib.hid hwf
  have cz2 : w2.drew.cell? ⟨w.heap.size, 2, none⟩ = some (.slice ao nb cap) := by show w2.cell? _ = _; rw [HB2.out.cell]; rfl
  have ha3 : Below w2.heap.size w2 (w2.alloc (.cells #[] 5)).drew := ((Below.refl _ w2).alloc (Nat.le_refl _) _).drew
  have hg3 : Blk (w2.alloc (.cells #[] 5)).drew w2.heap.size #[] 5 := (Blk.new w2 #[] 5).drew
  have cz3 : (w2.alloc (.cells #[] 5)).drew.cell? ⟨w.heap.size, 2, none⟩ = some (.slice ao nb cap) := by
    rw [(HB2.out.moved (Moved.of_below ha3 (fun _ => False)) (fun h => h)).cell]; rfl
  have hv3 := HV2.out.below ha3
  rw [← HNB.out] at hv3
  have CZ := Lib.hid cz2
  have CZ3 := Lib.hid cz3
  have HA3 := Lib.hid ha3
  have HG3 := Lib.hid hg3
  have HV3 := Lib.hid hv3
  have HL2 : Hid (w.heap.size < w2.heap.size) := Lib.hid HB2.out.lt
  clear hkk cz2 cz3 ha3 hg3 hv3 hwf
  go_wp2_with fail
  refine wp_region_any (by kernel_rfl) ?_
  change wpAny _ _ _ _ _ _ _ (World.drew _)
  refine wpAny_of_held (S := fun (w' : World) => w'.cell? ⟨w.heap.size, 2, none⟩ = some (.slice ao nb cap)) _ _ _ _ ?_
  have hS : (fun (w' : World) => w'.cell? ⟨w.heap.size, 2, none⟩ = some (.slice ao nb cap)) _ := CZ.out
  try simp only [Act.put, List.setIfInBounds_toArray, List.set_cons_zero, List.set_cons_succ]
  refine wpAnyH_take (i := 0) (oi := ⟨some 57, _, _, _, _, _⟩) (v := ?_) rfl (by kernel_rfl) (by kernel_rfl) (by kernel_rfl) (fun _ _ _ h => h) (Or.inl ⟨by rfl, ?_⟩) hS ?_
  rotate_left
  · intro wz hSw
    clear hSw
    go_simp
    first | done | with_reducible rfl
  try simp only [Act.put, List.setIfInBounds_toArray, List.set_cons_zero, List.set_cons_succ]
  refine wpAnyH_take (i := 1) (oi := ⟨some 58, _, _, _, _, _⟩) (v := ?_) rfl (by kernel_rfl) (by kernel_rfl) (by kernel_rfl) (fun _ _ _ h => h) (Or.inl ⟨by rfl, ?_⟩) hS ?_
  rotate_left
  · intro wz hSw
    clear hSw
    go_simp
    first | done | with_reducible rfl
  try simp only [Act.put, List.setIfInBounds_toArray, List.set_cons_zero, List.set_cons_succ]
  refine wpAnyH_take (i := 3) (oi := ⟨some 60, _, _, _, _, _⟩) (v := ?_) rfl (by kernel_rfl) (by kernel_rfl) (by kernel_rfl) (fun _ _ _ h => h) (Or.inl ⟨by rfl, ?_⟩) hS ?_
  rotate_left
  · intro wz hSw
    clear hSw
    go_simp
    first | done | with_reducible rfl
  try simp only [Act.put, List.setIfInBounds_toArray, List.set_cons_zero, List.set_cons_succ]
  refine wpAnyH_take (i := 4) (oi := ⟨some 61, _, _, _, _, _⟩) (v := ?_) rfl (by kernel_rfl) (by kernel_rfl) (by kernel_rfl) (fun _ _ _ h => h) (Or.inl ⟨by rfl, ?_⟩) hS ?_
  rotate_left
  · intro wz hSw
    (try dsimp only at hSw)
    (try go_split_ands)
    go_simp
    first | done | with_reducible rfl
  try simp only [Act.put, List.setIfInBounds_toArray, List.set_cons_zero, List.set_cons_succ]
  refine wpAnyH_take (i := 7) (oi := ⟨some 64, _, _, _, _, _⟩) (v := ?_) rfl (by kernel_rfl) (by kernel_rfl) (by kernel_rfl) (fun _ _ _ h => h) (Or.inl ⟨by rfl, ?_⟩) hS ?_
  rotate_left
  · intro wz hSw
    clear hSw
    go_simp
    first | done | with_reducible rfl
  try simp only [Act.put, List.setIfInBounds_toArray, List.set_cons_zero, List.set_cons_succ]
  refine wpAnyH_take (i := 8) (oi := ⟨some 65, _, _, _, _, _⟩) (v := ?_) rfl (by kernel_rfl) (by kernel_rfl) (by kernel_rfl) (fun _ _ _ h => h) (Or.inl ⟨by rfl, ?_⟩) hS ?_
  rotate_left
  · intro wz hSw
    clear hSw
    go_simp
    first | done | with_reducible rfl
  try simp only [Act.put, List.setIfInBounds_toArray, List.set_cons_zero, List.set_cons_succ]
  refine wpAnyH_take (i := 9) (oi := ⟨some 66, _, _, _, _, _⟩) (v := ?_) rfl (by kernel_rfl) (by kernel_rfl) (by kernel_rfl) (fun _ _ _ h => h) (Or.inl ⟨by rfl, ?_⟩) hS ?_
  rotate_left
  · intro wz hSw
    clear hSw
    go_simp
    first | done | with_reducible rfl
  try simp only [Act.put, List.setIfInBounds_toArray, List.set_cons_zero, List.set_cons_succ]
  refine wpAnyH_take (i := 10) (oi := ⟨some 67, _, _, _, _, _⟩) (v := ?_) rfl (by kernel_rfl) (by kernel_rfl) (by kernel_rfl) (fun _ _ _ h => h) (Or.inl ⟨by rfl, ?_⟩) hS ?_
  rotate_left
  · intro wz hSw
    (try dsimp only at hSw)
    (try go_split_ands)
    go_simp
    first | done | with_reducible rfl
  try simp only [Act.put, List.setIfInBounds_toArray, List.set_cons_zero, List.set_cons_succ]
  refine wpAnyH_ready (rs := [2]) (by kernel_rfl) (by simp) ?_
  refine AllReadyH.cons (o := ⟨some 59, _, _, _, _, _⟩) rfl (fun K hK => ?_) AllReadyH.nil
  go_simp
  refine hK.out _ _ (CZ3.out) (fun hS => ?_)
  clear hK K
  try simp only [Act.put, List.setIfInBounds_toArray, List.set_cons_zero, List.set_cons_succ]
  refine wpAnyH_ready (rs := [5]) (by kernel_rfl) (by simp) ?_
  refine AllReadyH.cons (o := ⟨some 62, _, _, _, _, _⟩) rfl (fun K hK => ?_) AllReadyH.nil
  rw [if_pos (by rfl)]
  refine wp_append_copy _ _ rfl w2.heap.size rfl HG3.out (.slice ao nb cap) b rfl HV3.out HBL.out ?_
  intro v6 w6 hv6 hg6
  have bel6 : Below w2.heap.size w2 w6 := HA3.out.grown hg6 HA3.out.size (fun q hq => by have := Option.some.inj hq; omega)
  have c6 : w6.cell? ⟨w.heap.size, 2, none⟩ = some (.slice ao nb cap) := (World.cell?_of_block (a := ⟨w.heap.size, 2, none⟩) (bel6.block _ HL2.out)).trans CZ.out
  have hl6 : w.heap.size < w6.heap.size := Nat.lt_of_lt_of_le HL2.out bel6.size
  have hb6 := HV2.out.below bel6
  have k1 := (HP2.out.grow bel6).pager (R := fun e => e = .returned (.int .i64 (lgPut N (at' - 1) b H).1)) (fun X hX => ps_put (at' - 1) HWF.out v6 b hv6 hX hc)
  have K1 := Lib.hid k1
  have C6 := Lib.hid c6
  have HL6 := Lib.hid hl6
  have HB6 := Lib.hid hb6
  clear hv6 hg6 bel6 k1 hl6 hb6
  refine hK.out _ _ c6 (fun hS => ?_)
  clear hK K c6
  try simp only [Act.put, List.setIfInBounds_toArray, List.set_cons_zero, List.set_cons_succ]
  refine wpAnyH_ready (rs := [6]) (by kernel_rfl) (by simp) ?_
  refine AllReadyH.cons (o := ⟨some 63, _, _, _, _, _⟩) rfl (fun K hK => ?_) AllReadyH.nil
  go_simp
  refine K1.out.mono ?_
  rintro e w4 ⟨rfl, h4, hm4⟩
  have H4 := Lib.hid h4
  have C4 := Lib.hid ((hm4.cell ⟨w.heap.size, 2, none⟩ HL6.out HKK.out).trans C6.out)
  have HL4 : Hid (w.heap.size < w4.heap.size) := Lib.hid (Nat.lt_of_lt_of_le HL6.out hm4.size)
  have hb4 := HB6.out.moved0 hm4 (fun h0 g hg e => by have := HVO.out h0 g hg; omega)
  rw [← HNB.out] at hb4
  have HB4 := Lib.hid hb4
  clear h4 hm4 hb4
  go_simp
  refine hK.out _ _ (C4.out) (fun hS => ?_)
  clear hK K
  try simp only [Act.put, List.setIfInBounds_toArray, List.set_cons_zero, List.set_cons_succ]
  have k2 := H4.out.refers (R := fun e => e = .returned (.int .i64 (lgPut N (at' - 1) b H).1)) (C := fun S' T' => Rl N S' T' G (lgPut N (at' - 1) b H).2) (fun Q hQ => rput_rel (at' - 1) HWF.out _ b HB4.out hQ HR.out hN)
  have K2 := Lib.hid k2
  clear k2
  refine wpAnyH_ready (rs := [11]) (by kernel_rfl) (by simp) ?_
  refine AllReadyH.cons (o := ⟨some 68, _, _, _, _, _⟩) rfl (fun K hK => ?_) AllReadyH.nil
  go_simp
  refine K2.out.mono ?_
  rintro e w5 ⟨rfl, hm5, S', T', hr5, h5⟩
  have H5 := Lib.hid h5
  have HR5 := Lib.hid hr5
  have C5 := Lib.hid ((hm5.cell ⟨w.heap.size, 2, none⟩ HL4.out HKK.out).trans C4.out)
  clear h5 hm5 hr5
  go_simp
  refine hK.out _ _ (C5.out) (fun hS => ?_)
  clear hK K
  try simp only [Act.put, List.setIfInBounds_toArray, List.set_cons_zero, List.set_cons_succ]
  refine wpAnyH_take (i := 12) (oi := ⟨some 69, _, _, _, _, _⟩) (v := ?_) rfl (by kernel_rfl) (by kernel_rfl) (by kernel_rfl) (fun _ _ _ h => h) (Or.inl ⟨by rfl, ?_⟩) hS ?_
  rotate_left
  · intro wz hSw
    clear hSw
    go_simp
    first | done | with_reducible rfl
  try simp only [Act.put, List.setIfInBounds_toArray, List.set_cons_zero, List.set_cons_succ]
  refine wpAnyH_take (i := 13) (oi := ⟨some 6, _, _, _, _, _⟩) (v := ?_) rfl (by kernel_rfl) (by kernel_rfl) (by kernel_rfl) (fun _ _ _ h => h) (Or.inl ⟨by rfl, ?_⟩) hS ?_
  rotate_left
  · intro wz hSw
    clear hSw
    go_simp
    first | done | with_reducible rfl
  try simp only [Act.put, List.setIfInBounds_toArray, List.set_cons_zero, List.set_cons_succ]
  refine wpAnyH_done (by kernel_rfl) ?_ _
  clear hS
  go_wp2_with fail
  go_ret
  exact ⟨rfl, S', T', _, _, HR5.out, H5.out.pr⟩

end Go.Proofs.Ytbdmlhmmdcdppaa
