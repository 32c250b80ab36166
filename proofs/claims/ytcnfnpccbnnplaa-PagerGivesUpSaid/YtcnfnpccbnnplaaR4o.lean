/- Both pagers beside blocks of the caller's. SetRoot and Put as acts. An act, whatever it is. Rows of acts; Few. The walk of the law PagerPlays. -/
import Derived.Test.YtcnfnpccbnnplaaR4j
namespace Go.Proofs.Ytcnfnpccbnnplaa
open Go.RowKit Go.Maps
set_option maxRecDepth 100000

/-- As Pr; K: blocks that neither touches. -/
def PrK (w0 w : World) (K : Nat → Prop) (x r p N c : Nat) (S : PS) (T : Option PS) (G : Lg) (H : Option Lg) : Prop :=
  ∃ Q, (∀ k, K k → ¬ Q k ∧ w0.heap.size ≤ k ∧ k < w.heap.size) ∧ Rp w Q x N S T ∧ Ps w0 w (fun k => Q k ∨ K k) r p N c G H ∧ ∀ k, Q k → w0.heap.size ≤ k
section
variable {w0 w w' : World} {K : Nat → Prop} {x r p N c : Nat} {S : PS} {T : Option PS} {G : Lg} {H : Option Lg}

theorem Ps.lt {X : Nat → Prop} (h : Ps w0 w X r p N c G H) (k : Nat) (hk : X k) : k < w.heap.size := by
  obtain ⟨A, K, T, ⟨-, h2, -⟩, -⟩ := h; exact h2 k hk
theorem Pr.took (h : Pr w0 w x r p N c S T G H) (hb : Below w.heap.size w w') : PrK w0 w' (fun k => w.heap.size ≤ k ∧ k < w'.heap.size) x r p N c S T G H := by
  have hs := h.size
  obtain ⟨Q, h1, h2, h3⟩ := h
  exact ⟨Q, fun k hk => ⟨fun e => by have := h2.lt k e; omega, by omega, hk.2⟩, h1.moved (Moved.of_below hb (fun _ => False)) (fun _ _ h => h), h2.take hb, h3⟩
theorem PrK.pr (h : PrK w0 w K x r p N c S T G H) : Pr w0 w x r p N c S T G H := by
  obtain ⟨Q, -, h1, h2, h3⟩ := h; exact ⟨Q, h1, h2.less (fun _ h => .inl h), h3⟩
theorem PrK.grow (h : PrK w0 w K x r p N c S T G H) (hb : Below w.heap.size w w') : PrK w0 w' K x r p N c S T G H := by
  obtain ⟨Q, h0, h1, h2, h3⟩ := h
  have hs := hb.size
  exact ⟨Q, fun k hk => ⟨(h0 k hk).1, (h0 k hk).2.1, Nat.lt_of_lt_of_le (h0 k hk).2.2 hs⟩, h1.moved (Moved.of_below hb (fun _ => False)) (fun _ _ h => h), h2.grow hb, h3⟩
theorem PrK.pager {f : FuncId} {args : Array Value} {R : Ending → Prop} {p' c' : Nat} {G' : Lg} {H' : Option Lg} (h : PrK w0 w K x r p N c S T G H)
    (hc : ∀ X, Ps w0 w X r p N c G H → Calls Try.prog f args w fun e w' => R e ∧ Ps w0 w' X r p' N c' G' H' ∧ Mx w0 X w w') :
    Calls Try.prog f args w fun e w' => R e ∧ PrK w0 w' K x r p' N c' S T G' H' ∧ Mx w0 K w w' := by
  obtain ⟨Q, h0, h1, h2, h3⟩ := h
  refine (hc _ h2).mono ?_
  rintro e w' ⟨hR, g1, g2⟩
  exact ⟨hR, ⟨Q, fun k hk => ⟨(h0 k hk).1, (h0 k hk).2.1, g1.lt k (.inr hk)⟩, h1.moved g2 (fun k hk e => e.2 (.inl hk)), g1, h3⟩, g2.mono (fun k hk => ⟨hk.1, fun e => hk.2 (.inr e)⟩)⟩
theorem PrK.refers {f : FuncId} {args : Array Value} {R : Ending → Prop} {C : PS → Option PS → Prop} (h : PrK w0 w K x r p N c S T G H)
    (hc : ∀ Q, Rp w Q x N S T → Calls Try.prog f args w fun e w' => R e ∧ ∃ S' T', C S' T' ∧ Rp w' (Gr Q w w') x N S' T' ∧ Moved Q w w') :
    Calls Try.prog f args w fun e w' => R e ∧ Mx w0 K w w' ∧ ∃ S' T', C S' T' ∧ PrK w0 w' K x r p N c S' T' G H := by
  obtain ⟨Q, h0, h1, h2, h3⟩ := h
  refine (hc Q h1).mono ?_
  rintro e w' ⟨hR, S', T', hC, g1, g2⟩
  have hs := g2.size
  refine ⟨hR, g2.mono (fun k hk => ⟨h3 k hk, fun e => (h0 k e).1 hk⟩), S', T', hC, Gr Q w w', fun k hk => ⟨fun e => e.elim (h0 k hk).1 (fun e => by have := (h0 k hk).2.2; omega), (h0 k hk).2.1, by have := (h0 k hk).2.2; omega⟩, g1, h2.mvx g2 (fun k hk => ⟨.inl hk, h3 k hk⟩) (fun k hk => ?_), fun k hk => hk.elim (h3 k) (fun e => Nat.le_trans h2.below.size e.1)⟩
  rcases hk with (e | e) | e
  · exact .inl (.inl e)
  · exact .inr e
  · exact .inl (.inr e)
theorem Mx.cell (h : Mx w0 K w w') (a : Addr) (ha : a.block < w.heap.size) (hK : K a.block) : w'.cell? a = w.cell? a := World.cell?_of_block (h.block a.block ha (fun e => e.2 hK))
end
end Go.Proofs.Ytcnfnpccbnnplaa

namespace Go.Proofs.Ytcnfnpccbnnplaa
open Go.RowKit Go.Maps
set_option maxRecDepth 100000
set_option linter.unusedVariables false

/-- append([]byte{}, y...). -/
theorem wp_append_copy {w : World} {o : Oper} {a : Act} {K : Act → World → Prop} {Q : Exit → Act → World → Prop} (s x : Operand)
    (ho : o.op = .call { callee := .builtin .append, args := #[s, x], argTypes := #[37, 37] }) (g : Nat) (hs : a.eval s = .slice (some ⟨g, 0, none⟩) 0 0) (hg : Blk w g #[] 5) (y : Value) (m : List UInt8) (hx : a.eval x = y) (hbs : Bs w y m) (hl : m.length ≤ 100000)
    (h : ∀ v' w', Bs w' v' m → w.grownBy w' (some g) → K (a.put o.dst v') w') : o.wp Try.prog a w K Q := by
  have hown : Own w g (.slice (some ⟨g, 0, none⟩) 0 0) [] := ⟨rfl, .inr ⟨g, 0, #[], rfl, Nat.le_refl _, hg, Nat.le_refl _, Nat.zero_le _, rfl, rfl⟩⟩
  obtain ⟨i0, hi, hz0, hz1, hz2⟩ := info_parts Try.infoU8
  obtain ⟨ao, cap, rfl, h1, h2, h3, h4⟩ := id hbs
  cases ao with
  | none =>
    have h0 := h3 rfl
    obtain rfl : m = [] := List.eq_nil_of_length_eq_zero (by omega)
    subst h0
    have h' := h _ w hown.bs (World.grownBy.refl _ _)
    have hrun := run_append_owned_none (P := Try.prog) (w := w) g 37 o.type 5 i0 1 Try.underlying37 hi _ _ _ hown
    unfold Oper.wp
    simp [execOp, ho, resolve, invoke, builtin, hs, hx, hrun, Result.andThen]
    exact h'
  | some ad =>
    exact wp_append_own (P := Try.prog) (K := K) (Q := Q) w s x 37 ho g 5 i0 _ 1 1 Try.underlying37 hi hz0 hz1 hz2 rfl (by decide) _ 0 _ hs hown ad m.length cap (vbs m) hx (by simp [vbs]) (h4 ad rfl) (vbs_oneCell m) (by simp [maxLen]; omega) (by omega) (by have := hg.lt; omega) (fun v' w' a1 a2 _ => h v' w' (Own.of a1 (by simp) (by simp [vbs])).bs a2)

set_option maxHeartbeats 4000000 in
theorem do_root9 {w0 w : World} {x r p N c : Nat} {S : PS} {T : Option PS} {G : Lg} {H : Option Lg} (h : Pr w0 w x r p N c S T G H) (hr : Rl N S T G H) (hN : N ≤ 400) (hN2 : 2 ≤ N) (hc : c < 123) (kind z : Int) (v : Value) (b : List UInt8) (hv : Bs w v b) (hvo : 0 < b.length → ∀ g, v.ownBlock = some g → g < w0.heap.size) (hzw : (Lit.int .i64 z).wf = true) (hk : withinOf kind 14 = 9) :
    Calls Try.prog 16 #[.agg #[.int .i64 kind, .int .i64 z, v], .pointer (some ⟨p, 0, none⟩), .pointer (some ⟨x, 0, none⟩)] w fun e w' => DoneTo H (withinOf kind 14) w0 x r p N (c + 1) e w' := by
  obtain ⟨ao, cap, rfl, hc1, hc2, -⟩ := id hv
  have hal : Below w.heap.size w (w.alloc (.cells #[.int .i64 kind, .int .i64 z, .slice ao b.length cap] 39)) := (Below.refl _ w).alloc (Nat.le_refl _) _
  have hb := Blk.new w #[.int .i64 kind, .int .i64 z, .slice ao b.length cap] 39
  have hp1 := h.took hal
  have hv1 := hv.below hal
  obtain ⟨w1, hw1⟩ : ∃ w1, w1 = w.alloc (.cells #[.int .i64 kind, .int .i64 z, .slice ao b.length cap] 39) := ⟨_, rfl⟩
  rw [← hw1] at hb hp1 hv1
  have hrg := within_range z ((N : Int) + 2) (by omega)
  have hw := within4_any z ((N : Int) + 2) (by omega) (by omega)
  obtain ⟨at', hat⟩ : ∃ y, y = withinOf z ((N : Int) + 2) := ⟨_, rfl⟩
  rw [← hat] at hrg hw
  have hw2 := within4_any kind 14 (by decide) (by decide)
  rw [hk] at hw2
  have HKD := Lib.hid hk
  obtain ⟨nb, hnb⟩ : ∃ nb, nb = b.length := ⟨_, rfl⟩
  rw [← hnb] at hb hw1
  have cN : w1.cell? ⟨x, 0, none⟩ = some (.int .i64 N) := hp1.pr.pages
  have cz : w1.cell? ⟨w.heap.size, 1, none⟩ = some (.int .i64 z) := by rw [hb.cell]; rfl
  have HW1 := Lib.hid hw1
  have HB := Lib.hid hb
  have HP := Lib.hid hp1
  have HV := Lib.hid hv1
  have HW := Lib.hid hw
  have HW2 := Lib.hid hw2
  have HR := Lib.hid hr
  have HNB := Lib.hid hnb
  have HVO := Lib.hid hvo
  have hlt1 := hb.lt
  have HLT := Lib.hid hlt1
  have hr1 := hrg.1
  have hr2 := hrg.2
  have hwN : IntKind.i64.wrap ((N : Int) + 2) = (N : Int) + 2 := IntWalk.i64_in _ (by omega)
  have hwA : IntKind.i64.wrap (at' - 1) = at' - 1 := IntWalk.i64_in _ (by omega)
  rw [← hnb]
  clear hlt1 hvo h hr hv hal hb hp1 hv1 hw hw2 hk hat hw1 hnb hrg hc2 hc1
  go_enter Try.func16, Try.ntmps16
  go_wp2_with fail
  rw [← HW1.out]
  go_quiet ((go_at_call 15; exact Calls.quiet_of_same (HW.out _)))
  clear hwN hwA
  have hbd : Below w1.heap.size w1 (w1.drewN nq) := grownBy_below (grownBy_drewN _ _ _)
  have HP2 := Lib.hid (HP.out.grow hbd)
  have HV2 := Lib.hid (HV.out.below hbd)
  have hb2 := HB.out.moved (Moved.of_below hbd (fun _ => False)) (fun h => h)
  have HB2 := Lib.hid hb2
  have ck : (w1.drewN nq).cell? ⟨w.heap.size, 0, none⟩ = some (.int .i64 kind) := by rw [hb2.cell]; rfl
  have hs2 := hbd.size
  generalize w1.drewN nq = w2 at hs2 HP2 HV2 HB2 ck ⊢
  have HS2 : Hid (w1.heap.size ≤ w2.heap.size) := Lib.hid hs2
  clear hs2 hbd hb2 HP HB HV HW cN cz HW1
  go_wp2_with fail
  refine (HW2.out w2).mono ?_
  rintro e w3 ⟨rfl, he⟩
  replace he := he.symm
  subst he
  clear HW2
  have hkk : (fun k => w.heap.size ≤ k ∧ k < w1.heap.size) w.heap.size := ⟨Nat.le_refl _, HLT.out⟩
  have HKK := Lib.hid hkk
  have cz2 : w2.drew.cell? ⟨w.heap.size, 1, none⟩ = some (.int .i64 z) := by show w2.cell? _ = _; rw [HB2.out.cell]; rfl
  have k1 := (HP2.out.grow (Below.refl w2.heap.size w2).drew).pager (R := fun e => e = .returned (.int .i64 (lgRoot H z))) (fun X hX => ps_setroot z hzw hX)
  have K1 := Lib.hid k1
  have CZ := Lib.hid cz2
  have HL2 : Hid (w.heap.size < w2.heap.size) := Lib.hid HB2.out.lt
  clear k1 hkk cz2
  go_wp2_with fail
  refine wp_region_any (by kernel_rfl) ?_
  change wpAny _ _ _ _ _ _ _ (World.drew _)
  refine wpAny_of_held (S := fun (w' : World) => w'.cell? ⟨w.heap.size, 1, none⟩ = some (.int .i64 z)) _ _ _ _ ?_
  have hS : (fun (w' : World) => w'.cell? ⟨w.heap.size, 1, none⟩ = some (.int .i64 z)) _ := CZ.out
  try simp only [Act.put, List.setIfInBounds_toArray, List.set_cons_zero, List.set_cons_succ]
  refine wpAnyH_take (i := 0) (oi := ⟨some 82, _, _, _, _, _⟩) (v := ?_) rfl (by kernel_rfl) (by kernel_rfl) (by kernel_rfl) (fun _ _ _ h => h) (Or.inl ⟨by rfl, ?_⟩) hS ?_
  rotate_left
  · intro wz hSw
    clear hSw
    go_simp
    first | done | with_reducible rfl
  try simp only [Act.put, List.setIfInBounds_toArray, List.set_cons_zero, List.set_cons_succ]
  refine wpAnyH_take (i := 1) (oi := ⟨some 83, _, _, _, _, _⟩) (v := ?_) rfl (by kernel_rfl) (by kernel_rfl) (by kernel_rfl) (fun _ _ _ h => h) (Or.inl ⟨by rfl, ?_⟩) hS ?_
  rotate_left
  · intro wz hSw
    clear hSw
    go_simp
    first | done | with_reducible rfl
  try simp only [Act.put, List.setIfInBounds_toArray, List.set_cons_zero, List.set_cons_succ]
  refine wpAnyH_take (i := 2) (oi := ⟨some 84, _, _, _, _, _⟩) (v := ?_) rfl (by kernel_rfl) (by kernel_rfl) (by kernel_rfl) (fun _ _ _ h => h) (Or.inl ⟨by rfl, ?_⟩) hS ?_
  rotate_left
  · intro wz hSw
    (try dsimp only at hSw)
    (try go_split_ands)
    go_simp
    first | done | with_reducible rfl
  try simp only [Act.put, List.setIfInBounds_toArray, List.set_cons_zero, List.set_cons_succ]
  refine wpAnyH_take (i := 4) (oi := ⟨some 86, _, _, _, _, _⟩) (v := ?_) rfl (by kernel_rfl) (by kernel_rfl) (by kernel_rfl) (fun _ _ _ h => h) (Or.inl ⟨by rfl, ?_⟩) hS ?_
  rotate_left
  · intro wz hSw
    clear hSw
    go_simp
    first | done | with_reducible rfl
  try simp only [Act.put, List.setIfInBounds_toArray, List.set_cons_zero, List.set_cons_succ]
  refine wpAnyH_take (i := 5) (oi := ⟨some 87, _, _, _, _, _⟩) (v := ?_) rfl (by kernel_rfl) (by kernel_rfl) (by kernel_rfl) (fun _ _ _ h => h) (Or.inl ⟨by rfl, ?_⟩) hS ?_
  rotate_left
  · intro wz hSw
    clear hSw
    go_simp
    first | done | with_reducible rfl
  try simp only [Act.put, List.setIfInBounds_toArray, List.set_cons_zero, List.set_cons_succ]
  refine wpAnyH_take (i := 6) (oi := ⟨some 88, _, _, _, _, _⟩) (v := ?_) rfl (by kernel_rfl) (by kernel_rfl) (by kernel_rfl) (fun _ _ _ h => h) (Or.inl ⟨by rfl, ?_⟩) hS ?_
  rotate_left
  · intro wz hSw
    (try dsimp only at hSw)
    (try go_split_ands)
    go_simp
    first | done | with_reducible rfl
  try simp only [Act.put, List.setIfInBounds_toArray, List.set_cons_zero, List.set_cons_succ]
  refine wpAnyH_ready (rs := [3]) (by kernel_rfl) (by simp) ?_
  refine AllReadyH.cons (o := ⟨some 85, _, _, _, _, _⟩) rfl (fun K hK => ?_) AllReadyH.nil
  go_simp
  refine K1.out.mono ?_
  rintro e w4 ⟨rfl, h4, hm4⟩
  have H4 := Lib.hid h4
  have C4 := Lib.hid ((hm4.cell ⟨w.heap.size, 1, none⟩ HL2.out HKK.out).trans CZ.out)
  have HL4 : Hid (w.heap.size < w4.heap.size) := Lib.hid (Nat.lt_of_lt_of_le HL2.out hm4.size)
  clear h4 hm4
  go_simp
  refine hK.out _ _ (C4.out) (fun hS => ?_)
  clear hK K
  try simp only [Act.put, List.setIfInBounds_toArray, List.set_cons_zero, List.set_cons_succ]
  have k2 := H4.out.refers (R := fun e => e = .returned (.int .i64 (lgRoot H z))) (C := fun S' T' => Rl N S' T' G (if 0 ≤ z then H.map (fun h => { h with root := z }) else H)) (fun Q hQ => rsetroot_rel z hQ HR.out)
  have K2 := Lib.hid k2
  clear k2
  refine wpAnyH_ready (rs := [7]) (by kernel_rfl) (by simp) ?_
  refine AllReadyH.cons (o := ⟨some 89, _, _, _, _, _⟩) rfl (fun K hK => ?_) AllReadyH.nil
  go_simp
  refine K2.out.mono ?_
  rintro e w5 ⟨rfl, hm5, S', T', hr5, h5⟩
  have H5 := Lib.hid h5
  have HR5 := Lib.hid hr5
  have C5 := Lib.hid ((hm5.cell ⟨w.heap.size, 1, none⟩ HL4.out HKK.out).trans C4.out)
  clear h5 hm5 hr5
  go_simp
  refine hK.out _ _ (C5.out) (fun hS => ?_)
  clear hK K
  try simp only [Act.put, List.setIfInBounds_toArray, List.set_cons_zero, List.set_cons_succ]
  refine wpAnyH_take (i := 8) (oi := ⟨some 90, _, _, _, _, _⟩) (v := ?_) rfl (by kernel_rfl) (by kernel_rfl) (by kernel_rfl) (fun _ _ _ h => h) (Or.inl ⟨by rfl, ?_⟩) hS ?_
  rotate_left
  · intro wz hSw
    clear hSw
    go_simp
    first | done | with_reducible rfl
  try simp only [Act.put, List.setIfInBounds_toArray, List.set_cons_zero, List.set_cons_succ]
  refine wpAnyH_take (i := 9) (oi := ⟨some 6, _, _, _, _, _⟩) (v := ?_) rfl (by kernel_rfl) (by kernel_rfl) (by kernel_rfl) (fun _ _ _ h => h) (Or.inl ⟨by rfl, ?_⟩) hS ?_
  rotate_left
  · intro wz hSw
    clear hSw
    go_simp
    first | done | with_reducible rfl
  try simp only [Act.put, List.setIfInBounds_toArray, List.set_cons_zero, List.set_cons_succ]
  refine wpAnyH_done (by kernel_rfl) ?_ _
  clear hS
  go_wp2_with fail
  go_ret
  exact ⟨rfl, S', T', _, _, HR5.out, H5.out.pr.more _ (by omega), fun _ _ h => lgRoot_keeps _ h⟩

set_option maxHeartbeats 4000000 in
theorem do_put4 {w0 w : World} {x r p N c : Nat} {S : PS} {T : Option PS} {G : Lg} {H : Option Lg} (h : Pr w0 w x r p N c S T G H) (hr : Rl N S T G H) (hN : N ≤ 400) (hN2 : 2 ≤ N) (hc : c < 123) (kind z : Int) (v : Value) (b : List UInt8) (hv : Bs w v b) (hvo : 0 < b.length → ∀ g, v.ownBlock = some g → g < w0.heap.size) (hbl : b.length ≤ 100000) (hk : withinOf kind 14 = 4) :
    Calls Try.prog 16 #[.agg #[.int .i64 kind, .int .i64 z, v], .pointer (some ⟨p, 0, none⟩), .pointer (some ⟨x, 0, none⟩)] w fun e w' => DoneTo H (withinOf kind 14) w0 x r p N (c + 1) e w' := by
  obtain ⟨ao, cap, rfl, hc1, hc2, -⟩ := id hv
  have hal : Below w.heap.size w (w.alloc (.cells #[.int .i64 kind, .int .i64 z, .slice ao b.length cap] 39)) := (Below.refl _ w).alloc (Nat.le_refl _) _
  have hb := Blk.new w #[.int .i64 kind, .int .i64 z, .slice ao b.length cap] 39
  have hp1 := h.took hal
  have hv1 := hv.below hal
  obtain ⟨w1, hw1⟩ : ∃ w1, w1 = w.alloc (.cells #[.int .i64 kind, .int .i64 z, .slice ao b.length cap] 39) := ⟨_, rfl⟩
  rw [← hw1] at hb hp1 hv1
  have hrg := within_range z ((N : Int) + 2) (by omega)
  have hw := within4_any z ((N : Int) + 2) (by omega) (by omega)
  obtain ⟨at', hat⟩ : ∃ y, y = withinOf z ((N : Int) + 2) := ⟨_, rfl⟩
  rw [← hat] at hrg hw
  have hw2 := within4_any kind 14 (by decide) (by decide)
  rw [hk] at hw2
  have HKD := Lib.hid hk
  obtain ⟨nb, hnb⟩ : ∃ nb, nb = b.length := ⟨_, rfl⟩
  rw [← hnb] at hb hw1
  have cN : w1.cell? ⟨x, 0, none⟩ = some (.int .i64 N) := hp1.pr.pages
  have cz : w1.cell? ⟨w.heap.size, 1, none⟩ = some (.int .i64 z) := by rw [hb.cell]; rfl
  have HW1 := Lib.hid hw1
  have HB := Lib.hid hb
  have HP := Lib.hid hp1
  have HV := Lib.hid hv1
  have HW := Lib.hid hw
  have HW2 := Lib.hid hw2
  have HR := Lib.hid hr
  have HNB := Lib.hid hnb
  have HVO := Lib.hid hvo
  have HBL := Lib.hid hbl
  have hlt1 := hb.lt
  have HLT := Lib.hid hlt1
  have hr1 := hrg.1
  have hr2 := hrg.2
  have hwN : IntKind.i64.wrap ((N : Int) + 2) = (N : Int) + 2 := IntWalk.i64_in _ (by omega)
  have hwA : IntKind.i64.wrap (at' - 1) = at' - 1 := IntWalk.i64_in _ (by omega)
  rw [← hnb]
  clear hbl hlt1 hvo h hr hv hal hb hp1 hv1 hw hw2 hk hat hw1 hnb hrg hc2 hc1
  go_enter Try.func16, Try.ntmps16
  go_wp2_with fail
  rw [← HW1.out]
  go_quiet ((go_at_call 15; exact Calls.quiet_of_same (HW.out _)))
  clear hwN hwA
  have hbd : Below w1.heap.size w1 (w1.drewN nq) := grownBy_below (grownBy_drewN _ _ _)
  have HP2 := Lib.hid (HP.out.grow hbd)
  have HV2 := Lib.hid (HV.out.below hbd)
  have hb2 := HB.out.moved (Moved.of_below hbd (fun _ => False)) (fun h => h)
  have HB2 := Lib.hid hb2
  have ck : (w1.drewN nq).cell? ⟨w.heap.size, 0, none⟩ = some (.int .i64 kind) := by rw [hb2.cell]; rfl
  have hs2 := hbd.size
  generalize w1.drewN nq = w2 at hs2 HP2 HV2 HB2 ck ⊢
  have HS2 : Hid (w1.heap.size ≤ w2.heap.size) := Lib.hid hs2
  clear hs2 hbd hb2 HP HB HV HW cN cz HW1
  go_wp2_with fail
  refine (HW2.out w2).mono ?_
  rintro e w3 ⟨rfl, he⟩
  replace he := he.symm
  subst he
  clear HW2
  have hkk : (fun k => w.heap.size ≤ k ∧ k < w1.heap.size) w.heap.size := ⟨Nat.le_refl _, HLT.out⟩
  have HKK := Lib.hid hkk
  have hwf : (Lit.int .i64 (at' - 1)).wf = true := WalkArith.wf_i64 (by omega)
  have HWF := Lib.hid hwf
  have cz2 : w2.drew.cell? ⟨w.heap.size, 2, none⟩ = some (.slice ao nb cap) := by show w2.cell? _ = _; rw [HB2.out.cell]; rfl
  have ha3 : Below w2.heap.size w2 (w2.alloc (.cells #[] 5)).drew := ((Below.refl _ w2).alloc (Nat.le_refl _) _).drew
  have hg3 : Blk (w2.alloc (.cells #[] 5)).drew w2.heap.size #[] 5 := (Blk.new w2 #[] 5).drew
  have cz3 : (w2.alloc (.cells #[] 5)).drew.cell? ⟨w.heap.size, 2, none⟩ = some (.slice ao nb cap) := by
    rw [(HB2.out.moved (Moved.of_below ha3 (fun _ => False)) (fun h => h)).cell]; rfl
  have hv3 := HV2.out.below ha3
  rw [← HNB.out] at hv3
  have CZ := Lib.hid cz2
  have CZ3 := Lib.hid cz3
  have HA3 := Lib.hid ha3
  have HG3 := Lib.hid hg3
  have HV3 := Lib.hid hv3
  have HL2 : Hid (w.heap.size < w2.heap.size) := Lib.hid HB2.out.lt
  clear hkk cz2 cz3 ha3 hg3 hv3 hwf
  go_wp2_with fail
  refine wp_region_any (by kernel_rfl) ?_
  change wpAny _ _ _ _ _ _ _ (World.drew _)
  refine wpAny_of_held (S := fun (w' : World) => w'.cell? ⟨w.heap.size, 2, none⟩ = some (.slice ao nb cap)) _ _ _ _ ?_
  have hS : (fun (w' : World) => w'.cell? ⟨w.heap.size, 2, none⟩ = some (.slice ao nb cap)) _ := CZ.out
  try simp only [Act.put, List.setIfInBounds_toArray, List.set_cons_zero, List.set_cons_succ]
  refine wpAnyH_take (i := 0) (oi := ⟨some 57, _, _, _, _, _⟩) (v := ?_) rfl (by kernel_rfl) (by kernel_rfl) (by kernel_rfl) (fun _ _ _ h => h) (Or.inl ⟨by rfl, ?_⟩) hS ?_
  rotate_left
  · intro wz hSw
    clear hSw
    go_simp
    first | done | with_reducible rfl
  try simp only [Act.put, List.setIfInBounds_toArray, List.set_cons_zero, List.set_cons_succ]
  refine wpAnyH_take (i := 1) (oi := ⟨some 58, _, _, _, _, _⟩) (v := ?_) rfl (by kernel_rfl) (by kernel_rfl) (by kernel_rfl) (fun _ _ _ h => h) (Or.inl ⟨by rfl, ?_⟩) hS ?_
  rotate_left
  · intro wz hSw
    clear hSw
    go_simp
    first | done | with_reducible rfl
  try simp only [Act.put, List.setIfInBounds_toArray, List.set_cons_zero, List.set_cons_succ]
  refine wpAnyH_take (i := 3) (oi := ⟨some 60, _, _, _, _, _⟩) (v := ?_) rfl (by kernel_rfl) (by kernel_rfl) (by kernel_rfl) (fun _ _ _ h => h) (Or.inl ⟨by rfl, ?_⟩) hS ?_
  rotate_left
  · intro wz hSw
    clear hSw
    go_simp
    first | done | with_reducible rfl
  try simp only [Act.put, List.setIfInBounds_toArray, List.set_cons_zero, List.set_cons_succ]
  refine wpAnyH_take (i := 4) (oi := ⟨some 61, _, _, _, _, _⟩) (v := ?_) rfl (by kernel_rfl) (by kernel_rfl) (by kernel_rfl) (fun _ _ _ h => h) (Or.inl ⟨by rfl, ?_⟩) hS ?_
  rotate_left
  · intro wz hSw
    (try dsimp only at hSw)
    (try go_split_ands)
    go_simp
    first | done | with_reducible rfl
  try simp only [Act.put, List.setIfInBounds_toArray, List.set_cons_zero, List.set_cons_succ]
  refine wpAnyH_take (i := 7) (oi := ⟨some 64, _, _, _, _, _⟩) (v := ?_) rfl (by kernel_rfl) (by kernel_rfl) (by kernel_rfl) (fun _ _ _ h => h) (Or.inl ⟨by rfl, ?_⟩) hS ?_
  rotate_left
  · intro wz hSw
    clear hSw
    go_simp
    first | done | with_reducible rfl
  try simp only [Act.put, List.setIfInBounds_toArray, List.set_cons_zero, List.set_cons_succ]
  refine wpAnyH_take (i := 8) (oi := ⟨some 65, _, _, _, _, _⟩) (v := ?_) rfl (by kernel_rfl) (by kernel_rfl) (by kernel_rfl) (fun _ _ _ h => h) (Or.inl ⟨by rfl, ?_⟩) hS ?_
  rotate_left
  · intro wz hSw
    clear hSw
    go_simp
    first | done | with_reducible rfl
  try simp only [Act.put, List.setIfInBounds_toArray, List.set_cons_zero, List.set_cons_succ]
  refine wpAnyH_take (i := 9) (oi := ⟨some 66, _, _, _, _, _⟩) (v := ?_) rfl (by kernel_rfl) (by kernel_rfl) (by kernel_rfl) (fun _ _ _ h => h) (Or.inl ⟨by rfl, ?_⟩) hS ?_
  rotate_left
  · intro wz hSw
    clear hSw
    go_simp
    first | done | with_reducible rfl
  try simp only [Act.put, List.setIfInBounds_toArray, List.set_cons_zero, List.set_cons_succ]
  refine wpAnyH_take (i := 10) (oi := ⟨some 67, _, _, _, _, _⟩) (v := ?_) rfl (by kernel_rfl) (by kernel_rfl) (by kernel_rfl) (fun _ _ _ h => h) (Or.inl ⟨by rfl, ?_⟩) hS ?_
  rotate_left
  · intro wz hSw
    (try dsimp only at hSw)
    (try go_split_ands)
    go_simp
    first | done | with_reducible rfl
  try simp only [Act.put, List.setIfInBounds_toArray, List.set_cons_zero, List.set_cons_succ]
  refine wpAnyH_ready (rs := [2]) (by kernel_rfl) (by simp) ?_
  refine AllReadyH.cons (o := ⟨some 59, _, _, _, _, _⟩) rfl (fun K hK => ?_) AllReadyH.nil
  go_simp
  refine hK.out _ _ (CZ3.out) (fun hS => ?_)
  clear hK K
  try simp only [Act.put, List.setIfInBounds_toArray, List.set_cons_zero, List.set_cons_succ]
  refine wpAnyH_ready (rs := [5]) (by kernel_rfl) (by simp) ?_
  refine AllReadyH.cons (o := ⟨some 62, _, _, _, _, _⟩) rfl (fun K hK => ?_) AllReadyH.nil
  rw [if_pos (by rfl)]
  refine wp_append_copy _ _ rfl w2.heap.size rfl HG3.out (.slice ao nb cap) b rfl HV3.out HBL.out ?_
  intro v6 w6 hv6 hg6
  have bel6 : Below w2.heap.size w2 w6 := HA3.out.grown hg6 HA3.out.size (fun q hq => by have := Option.some.inj hq; omega)
  have c6 : w6.cell? ⟨w.heap.size, 2, none⟩ = some (.slice ao nb cap) := (World.cell?_of_block (a := ⟨w.heap.size, 2, none⟩) (bel6.block _ HL2.out)).trans CZ.out
  have hl6 : w.heap.size < w6.heap.size := Nat.lt_of_lt_of_le HL2.out bel6.size
  have hb6 := HV2.out.below bel6
  have k1 := (HP2.out.grow bel6).pager (R := fun e => e = .returned (.int .i64 (lgPut N (at' - 1) b H).1)) (fun X hX => ps_put (at' - 1) HWF.out v6 b hv6 hX hc)
  have K1 := Lib.hid k1
  have C6 := Lib.hid c6
  have HL6 := Lib.hid hl6
  have HB6 := Lib.hid hb6
  clear hv6 hg6 bel6 k1 hl6 hb6
  refine hK.out _ _ c6 (fun hS => ?_)
  clear hK K c6
  try simp only [Act.put, List.setIfInBounds_toArray, List.set_cons_zero, List.set_cons_succ]
  refine wpAnyH_ready (rs := [6]) (by kernel_rfl) (by simp) ?_
  refine AllReadyH.cons (o := ⟨some 63, _, _, _, _, _⟩) rfl (fun K hK => ?_) AllReadyH.nil
  go_simp
  refine K1.out.mono ?_
  rintro e w4 ⟨rfl, h4, hm4⟩
  have H4 := Lib.hid h4
  have C4 := Lib.hid ((hm4.cell ⟨w.heap.size, 2, none⟩ HL6.out HKK.out).trans C6.out)
  have HL4 : Hid (w.heap.size < w4.heap.size) := Lib.hid (Nat.lt_of_lt_of_le HL6.out hm4.size)
  have hb4 := HB6.out.moved0 hm4 (fun h0 g hg e => by have := HVO.out h0 g hg; omega)
  rw [← HNB.out] at hb4
  have HB4 := Lib.hid hb4
  clear h4 hm4 hb4
  go_simp
  refine hK.out _ _ (C4.out) (fun hS => ?_)
  clear hK K
  try simp only [Act.put, List.setIfInBounds_toArray, List.set_cons_zero, List.set_cons_succ]
  have k2 := H4.out.refers (R := fun e => e = .returned (.int .i64 (lgPut N (at' - 1) b H).1)) (C := fun S' T' => Rl N S' T' G (lgPut N (at' - 1) b H).2) (fun Q hQ => rput_rel (at' - 1) HWF.out _ b HB4.out hQ HR.out hN)
  have K2 := Lib.hid k2
  clear k2
  refine wpAnyH_ready (rs := [11]) (by kernel_rfl) (by simp) ?_
  refine AllReadyH.cons (o := ⟨some 68, _, _, _, _, _⟩) rfl (fun K hK => ?_) AllReadyH.nil
  go_simp
  refine K2.out.mono ?_
  rintro e w5 ⟨rfl, hm5, S', T', hr5, h5⟩
  have H5 := Lib.hid h5
  have HR5 := Lib.hid hr5
  have C5 := Lib.hid ((hm5.cell ⟨w.heap.size, 2, none⟩ HL4.out HKK.out).trans C4.out)
  clear h5 hm5 hr5
  go_simp
  refine hK.out _ _ (C5.out) (fun hS => ?_)
  clear hK K
  try simp only [Act.put, List.setIfInBounds_toArray, List.set_cons_zero, List.set_cons_succ]
  refine wpAnyH_take (i := 12) (oi := ⟨some 69, _, _, _, _, _⟩) (v := ?_) rfl (by kernel_rfl) (by kernel_rfl) (by kernel_rfl) (fun _ _ _ h => h) (Or.inl ⟨by rfl, ?_⟩) hS ?_
  rotate_left
  · intro wz hSw
    clear hSw
    go_simp
    first | done | with_reducible rfl
  try simp only [Act.put, List.setIfInBounds_toArray, List.set_cons_zero, List.set_cons_succ]
  refine wpAnyH_take (i := 13) (oi := ⟨some 6, _, _, _, _, _⟩) (v := ?_) rfl (by kernel_rfl) (by kernel_rfl) (by kernel_rfl) (fun _ _ _ h => h) (Or.inl ⟨by rfl, ?_⟩) hS ?_
  rotate_left
  · intro wz hSw
    clear hSw
    go_simp
    first | done | with_reducible rfl
  try simp only [Act.put, List.setIfInBounds_toArray, List.set_cons_zero, List.set_cons_succ]
  refine wpAnyH_done (by kernel_rfl) ?_ _
  clear hS
  go_wp2_with fail
  go_ret
  exact ⟨rfl, S', T', _, _, HR5.out, H5.out.pr, fun _ _ h => lgPut_keeps _ _ _ h⟩

set_option maxHeartbeats 4000000 in
theorem do_put5 {w0 w : World} {x r p N c : Nat} {S : PS} {T : Option PS} {G : Lg} {H : Option Lg} (h : Pr w0 w x r p N c S T G H) (hr : Rl N S T G H) (hN : N ≤ 400) (hN2 : 2 ≤ N) (hc : c < 123) (kind z : Int) (v : Value) (b : List UInt8) (hv : Bs w v b) (hvo : 0 < b.length → ∀ g, v.ownBlock = some g → g < w0.heap.size) (hbl : b.length ≤ 100000) (hk : withinOf kind 14 = 5) :
    Calls Try.prog 16 #[.agg #[.int .i64 kind, .int .i64 z, v], .pointer (some ⟨p, 0, none⟩), .pointer (some ⟨x, 0, none⟩)] w fun e w' => DoneTo H (withinOf kind 14) w0 x r p N (c + 1) e w' := by
  obtain ⟨ao, cap, rfl, hc1, hc2, -⟩ := id hv
  have hal : Below w.heap.size w (w.alloc (.cells #[.int .i64 kind, .int .i64 z, .slice ao b.length cap] 39)) := (Below.refl _ w).alloc (Nat.le_refl _) _
  have hb := Blk.new w #[.int .i64 kind, .int .i64 z, .slice ao b.length cap] 39
  have hp1 := h.took hal
  have hv1 := hv.below hal
  obtain ⟨w1, hw1⟩ : ∃ w1, w1 = w.alloc (.cells #[.int .i64 kind, .int .i64 z, .slice ao b.length cap] 39) := ⟨_, rfl⟩
  rw [← hw1] at hb hp1 hv1
  have hrg := within_range z ((N : Int) + 2) (by omega)
  have hw := within4_any z ((N : Int) + 2) (by omega) (by omega)
  obtain ⟨at', hat⟩ : ∃ y, y = withinOf z ((N : Int) + 2) := ⟨_, rfl⟩
  rw [← hat] at hrg hw
  have hw2 := within4_any kind 14 (by decide) (by decide)
  rw [hk] at hw2
  have HKD := Lib.hid hk
  obtain ⟨nb, hnb⟩ : ∃ nb, nb = b.length := ⟨_, rfl⟩
  rw [← hnb] at hb hw1
  have cN : w1.cell? ⟨x, 0, none⟩ = some (.int .i64 N) := hp1.pr.pages
  have cz : w1.cell? ⟨w.heap.size, 1, none⟩ = some (.int .i64 z) := by rw [hb.cell]; rfl
  have HW1 := Lib.hid hw1
  have HB := Lib.hid hb
  have HP := Lib.hid hp1
  have HV := Lib.hid hv1
  have HW := Lib.hid hw
  have HW2 := Lib.hid hw2
  have HR := Lib.hid hr
  have HNB := Lib.hid hnb
  have HVO := Lib.hid hvo
  have HBL := Lib.hid hbl
  have hlt1 := hb.lt
  have HLT := Lib.hid hlt1
  have hr1 := hrg.1
  have hr2 := hrg.2
  have hwN : IntKind.i64.wrap ((N : Int) + 2) = (N : Int) + 2 := IntWalk.i64_in _ (by omega)
  have hwA : IntKind.i64.wrap (at' - 1) = at' - 1 := IntWalk.i64_in _ (by omega)
  rw [← hnb]
  clear hbl hlt1 hvo h hr hv hal hb hp1 hv1 hw hw2 hk hat hw1 hnb hrg hc2 hc1
  go_enter Try.func16, Try.ntmps16
  go_wp2_with fail
  rw [← HW1.out]
  go_quiet ((go_at_call 15; exact Calls.quiet_of_same (HW.out _)))
  clear hwN hwA
  have hbd : Below w1.heap.size w1 (w1.drewN nq) := grownBy_below (grownBy_drewN _ _ _)
  have HP2 := Lib.hid (HP.out.grow hbd)
  have HV2 := Lib.hid (HV.out.below hbd)
  have hb2 := HB.out.moved (Moved.of_below hbd (fun _ => False)) (fun h => h)
  have HB2 := Lib.hid hb2
  have ck : (w1.drewN nq).cell? ⟨w.heap.size, 0, none⟩ = some (.int .i64 kind) := by rw [hb2.cell]; rfl
  have hs2 := hbd.size
  generalize w1.drewN nq = w2 at hs2 HP2 HV2 HB2 ck ⊢
  have HS2 : Hid (w1.heap.size ≤ w2.heap.size) := Lib.hid hs2
  clear hs2 hbd hb2 HP HB HV HW cN cz HW1
  go_wp2_with fail
  refine (HW2.out w2).mono ?_
  rintro e w3 ⟨rfl, he⟩
  replace he := he.symm
  subst he
  clear HW2
  have hkk : (fun k => w.heap.size ≤ k ∧ k < w1.heap.size) w.heap.size := ⟨Nat.le_refl _, HLT.out⟩
  have HKK := Lib.hid hkk
  have hwf : (Lit.int .i64 (at' - 1)).wf = true := WalkArith.wf_i64 (by omega)
  have HWF := Lib.hid hwf
  have cz2 : w2.drew.cell? ⟨w.heap.size, 2, none⟩ = some (.slice ao nb cap) := by show w2.cell? _ = _; rw [HB2.out.cell]; rfl
  have ha3 : Below w2.heap.size w2 (w2.alloc (.cells #[] 5)).drew := ((Below.refl _ w2).alloc (Nat.le_refl _) _).drew
  have hg3 : Blk (w2.alloc (.cells #[] 5)).drew w2.heap.size #[] 5 := (Blk.new w2 #[] 5).drew
  have cz3 : (w2.alloc (.cells #[] 5)).drew.cell? ⟨w.heap.size, 2, none⟩ = some (.slice ao nb cap) := by
    rw [(HB2.out.moved (Moved.of_below ha3 (fun _ => False)) (fun h => h)).cell]; rfl
  have hv3 := HV2.out.below ha3
  rw [← HNB.out] at hv3
  have CZ := Lib.hid cz2
  have CZ3 := Lib.hid cz3
  have HA3 := Lib.hid ha3
  have HG3 := Lib.hid hg3
  have HV3 := Lib.hid hv3
  have HL2 : Hid (w.heap.size < w2.heap.size) := Lib.hid HB2.out.lt
  clear hkk cz2 cz3 ha3 hg3 hv3 hwf
  go_wp2_with fail
  refine wp_region_any (by kernel_rfl) ?_
  change wpAny _ _ _ _ _ _ _ (World.drew _)
  refine wpAny_of_held (S := fun (w' : World) => w'.cell? ⟨w.heap.size, 2, none⟩ = some (.slice ao nb cap)) _ _ _ _ ?_
  have hS : (fun (w' : World) => w'.cell? ⟨w.heap.size, 2, none⟩ = some (.slice ao nb cap)) _ := CZ.out
  try simp only [Act.put, List.setIfInBounds_toArray, List.set_cons_zero, List.set_cons_succ]
  refine wpAnyH_take (i := 0) (oi := ⟨some 57, _, _, _, _, _⟩) (v := ?_) rfl (by kernel_rfl) (by kernel_rfl) (by kernel_rfl) (fun _ _ _ h => h) (Or.inl ⟨by rfl, ?_⟩) hS ?_
  rotate_left
  · intro wz hSw
    clear hSw
    go_simp
    first | done | with_reducible rfl
  try simp only [Act.put, List.setIfInBounds_toArray, List.set_cons_zero, List.set_cons_succ]
  refine wpAnyH_take (i := 1) (oi := ⟨some 58, _, _, _, _, _⟩) (v := ?_) rfl (by kernel_rfl) (by kernel_rfl) (by kernel_rfl) (fun _ _ _ h => h) (Or.inl ⟨by rfl, ?_⟩) hS ?_
  rotate_left
  · intro wz hSw
    clear hSw
    go_simp
    first | done | with_reducible rfl
  try simp only [Act.put, List.setIfInBounds_toArray, List.set_cons_zero, List.set_cons_succ]
  refine wpAnyH_take (i := 3) (oi := ⟨some 60, _, _, _, _, _⟩) (v := ?_) rfl (by kernel_rfl) (by kernel_rfl) (by kernel_rfl) (fun _ _ _ h => h) (Or.inl ⟨by rfl, ?_⟩) hS ?_
  rotate_left
  · intro wz hSw
    clear hSw
    go_simp
    first | done | with_reducible rfl
  try simp only [Act.put, List.setIfInBounds_toArray, List.set_cons_zero, List.set_cons_succ]
  refine wpAnyH_take (i := 4) (oi := ⟨some 61, _, _, _, _, _⟩) (v := ?_) rfl (by kernel_rfl) (by kernel_rfl) (by kernel_rfl) (fun _ _ _ h => h) (Or.inl ⟨by rfl, ?_⟩) hS ?_
  rotate_left
  · intro wz hSw
    (try dsimp only at hSw)
    (try go_split_ands)
    go_simp
    first | done | with_reducible rfl
  try simp only [Act.put, List.setIfInBounds_toArray, List.set_cons_zero, List.set_cons_succ]
  refine wpAnyH_take (i := 7) (oi := ⟨some 64, _, _, _, _, _⟩) (v := ?_) rfl (by kernel_rfl) (by kernel_rfl) (by kernel_rfl) (fun _ _ _ h => h) (Or.inl ⟨by rfl, ?_⟩) hS ?_
  rotate_left
  · intro wz hSw
    clear hSw
    go_simp
    first | done | with_reducible rfl
  try simp only [Act.put, List.setIfInBounds_toArray, List.set_cons_zero, List.set_cons_succ]
  refine wpAnyH_take (i := 8) (oi := ⟨some 65, _, _, _, _, _⟩) (v := ?_) rfl (by kernel_rfl) (by kernel_rfl) (by kernel_rfl) (fun _ _ _ h => h) (Or.inl ⟨by rfl, ?_⟩) hS ?_
  rotate_left
  · intro wz hSw
    clear hSw
    go_simp
    first | done | with_reducible rfl
  try simp only [Act.put, List.setIfInBounds_toArray, List.set_cons_zero, List.set_cons_succ]
  refine wpAnyH_take (i := 9) (oi := ⟨some 66, _, _, _, _, _⟩) (v := ?_) rfl (by kernel_rfl) (by kernel_rfl) (by kernel_rfl) (fun _ _ _ h => h) (Or.inl ⟨by rfl, ?_⟩) hS ?_
  rotate_left
  · intro wz hSw
    clear hSw
    go_simp
    first | done | with_reducible rfl
  try simp only [Act.put, List.setIfInBounds_toArray, List.set_cons_zero, List.set_cons_succ]
  refine wpAnyH_take (i := 10) (oi := ⟨some 67, _, _, _, _, _⟩) (v := ?_) rfl (by kernel_rfl) (by kernel_rfl) (by kernel_rfl) (fun _ _ _ h => h) (Or.inl ⟨by rfl, ?_⟩) hS ?_
  rotate_left
  · intro wz hSw
    (try dsimp only at hSw)
    (try go_split_ands)
    go_simp
    first | done | with_reducible rfl
  try simp only [Act.put, List.setIfInBounds_toArray, List.set_cons_zero, List.set_cons_succ]
  refine wpAnyH_ready (rs := [2]) (by kernel_rfl) (by simp) ?_
  refine AllReadyH.cons (o := ⟨some 59, _, _, _, _, _⟩) rfl (fun K hK => ?_) AllReadyH.nil
  go_simp
  refine hK.out _ _ (CZ3.out) (fun hS => ?_)
  clear hK K
  try simp only [Act.put, List.setIfInBounds_toArray, List.set_cons_zero, List.set_cons_succ]
  refine wpAnyH_ready (rs := [5]) (by kernel_rfl) (by simp) ?_
  refine AllReadyH.cons (o := ⟨some 62, _, _, _, _, _⟩) rfl (fun K hK => ?_) AllReadyH.nil
  rw [if_pos (by rfl)]
  refine wp_append_copy _ _ rfl w2.heap.size rfl HG3.out (.slice ao nb cap) b rfl HV3.out HBL.out ?_
  intro v6 w6 hv6 hg6
  have bel6 : Below w2.heap.size w2 w6 := HA3.out.grown hg6 HA3.out.size (fun q hq => by have := Option.some.inj hq; omega)
  have c6 : w6.cell? ⟨w.heap.size, 2, none⟩ = some (.slice ao nb cap) := (World.cell?_of_block (a := ⟨w.heap.size, 2, none⟩) (bel6.block _ HL2.out)).trans CZ.out
  have hl6 : w.heap.size < w6.heap.size := Nat.lt_of_lt_of_le HL2.out bel6.size
  have hb6 := HV2.out.below bel6
  have k1 := (HP2.out.grow bel6).pager (R := fun e => e = .returned (.int .i64 (lgPut N (at' - 1) b H).1)) (fun X hX => ps_put (at' - 1) HWF.out v6 b hv6 hX hc)
  have K1 := Lib.hid k1
  have C6 := Lib.hid c6
  have HL6 := Lib.hid hl6
  have HB6 := Lib.hid hb6
  clear hv6 hg6 bel6 k1 hl6 hb6
  refine hK.out _ _ c6 (fun hS => ?_)
  clear hK K c6
  try simp only [Act.put, List.setIfInBounds_toArray, List.set_cons_zero, List.set_cons_succ]
  refine wpAnyH_ready (rs := [6]) (by kernel_rfl) (by simp) ?_
  refine AllReadyH.cons (o := ⟨some 63, _, _, _, _, _⟩) rfl (fun K hK => ?_) AllReadyH.nil
  go_simp
  refine K1.out.mono ?_
  rintro e w4 ⟨rfl, h4, hm4⟩
  have H4 := Lib.hid h4
  have C4 := Lib.hid ((hm4.cell ⟨w.heap.size, 2, none⟩ HL6.out HKK.out).trans C6.out)
  have HL4 : Hid (w.heap.size < w4.heap.size) := Lib.hid (Nat.lt_of_lt_of_le HL6.out hm4.size)
  have hb4 := HB6.out.moved0 hm4 (fun h0 g hg e => by have := HVO.out h0 g hg; omega)
  rw [← HNB.out] at hb4
  have HB4 := Lib.hid hb4
  clear h4 hm4 hb4
  go_simp
  refine hK.out _ _ (C4.out) (fun hS => ?_)
  clear hK K
  try simp only [Act.put, List.setIfInBounds_toArray, List.set_cons_zero, List.set_cons_succ]
  have k2 := H4.out.refers (R := fun e => e = .returned (.int .i64 (lgPut N (at' - 1) b H).1)) (C := fun S' T' => Rl N S' T' G (lgPut N (at' - 1) b H).2) (fun Q hQ => rput_rel (at' - 1) HWF.out _ b HB4.out hQ HR.out hN)
  have K2 := Lib.hid k2
  clear k2
  refine wpAnyH_ready (rs := [11]) (by kernel_rfl) (by simp) ?_
  refine AllReadyH.cons (o := ⟨some 68, _, _, _, _, _⟩) rfl (fun K hK => ?_) AllReadyH.nil
  go_simp
  refine K2.out.mono ?_
  rintro e w5 ⟨rfl, hm5, S', T', hr5, h5⟩
  have H5 := Lib.hid h5
  have HR5 := Lib.hid hr5
  have C5 := Lib.hid ((hm5.cell ⟨w.heap.size, 2, none⟩ HL4.out HKK.out).trans C4.out)
  clear h5 hm5 hr5
  go_simp
  refine hK.out _ _ (C5.out) (fun hS => ?_)
  clear hK K
  try simp only [Act.put, List.setIfInBounds_toArray, List.set_cons_zero, List.set_cons_succ]
  refine wpAnyH_take (i := 12) (oi := ⟨some 69, _, _, _, _, _⟩) (v := ?_) rfl (by kernel_rfl) (by kernel_rfl) (by kernel_rfl) (fun _ _ _ h => h) (Or.inl ⟨by rfl, ?_⟩) hS ?_
  rotate_left
  · intro wz hSw
    clear hSw
    go_simp
    first | done | with_reducible rfl
  try simp only [Act.put, List.setIfInBounds_toArray, List.set_cons_zero, List.set_cons_succ]
  refine wpAnyH_take (i := 13) (oi := ⟨some 6, _, _, _, _, _⟩) (v := ?_) rfl (by kernel_rfl) (by kernel_rfl) (by kernel_rfl) (fun _ _ _ h => h) (Or.inl ⟨by rfl, ?_⟩) hS ?_
  rotate_left
  · intro wz hSw
    clear hSw
    go_simp
    first | done | with_reducible rfl
  try simp only [Act.put, List.setIfInBounds_toArray, List.set_cons_zero, List.set_cons_succ]
  refine wpAnyH_done (by kernel_rfl) ?_ _
  clear hS
  go_wp2_with fail
  go_ret
  exact ⟨rfl, S', T', _, _, HR5.out, H5.out.pr, fun _ _ h => lgPut_keeps _ _ _ h⟩

set_option maxHeartbeats 4000000 in
theorem do_put6 {w0 w : World} {x r p N c : Nat} {S : PS} {T : Option PS} {G : Lg} {H : Option Lg} (h : Pr w0 w x r p N c S T G H) (hr : Rl N S T G H) (hN : N ≤ 400) (hN2 : 2 ≤ N) (hc : c < 123) (kind z : Int) (v : Value) (b : List UInt8) (hv : Bs w v b) (hvo : 0 < b.length → ∀ g, v.ownBlock = some g → g < w0.heap.size) (hbl : b.length ≤ 100000) (hk : withinOf kind 14 = 6) :
    Calls Try.prog 16 #[.agg #[.int .i64 kind, .int .i64 z, v], .pointer (some ⟨p, 0, none⟩), .pointer (some ⟨x, 0, none⟩)] w fun e w' => DoneTo H (withinOf kind 14) w0 x r p N (c + 1) e w' := by
  obtain ⟨ao, cap, rfl, hc1, hc2, -⟩ := id hv
  have hal : Below w.heap.size w (w.alloc (.cells #[.int .i64 kind, .int .i64 z, .slice ao b.length cap] 39)) := (Below.refl _ w).alloc (Nat.le_refl _) _
  have hb := Blk.new w #[.int .i64 kind, .int .i64 z, .slice ao b.length cap] 39
  have hp1 := h.took hal
  have hv1 := hv.below hal
  obtain ⟨w1, hw1⟩ : ∃ w1, w1 = w.alloc (.cells #[.int .i64 kind, .int .i64 z, .slice ao b.length cap] 39) := ⟨_, rfl⟩
  rw [← hw1] at hb hp1 hv1
  have hrg := within_range z ((N : Int) + 2) (by omega)
  have hw := within4_any z ((N : Int) + 2) (by omega) (by omega)
  obtain ⟨at', hat⟩ : ∃ y, y = withinOf z ((N : Int) + 2) := ⟨_, rfl⟩
  rw [← hat] at hrg hw
  have hw2 := within4_any kind 14 (by decide) (by decide)
  rw [hk] at hw2
  have HKD := Lib.hid hk
  obtain ⟨nb, hnb⟩ : ∃ nb, nb = b.length := ⟨_, rfl⟩
  rw [← hnb] at hb hw1
  have cN : w1.cell? ⟨x, 0, none⟩ = some (.int .i64 N) := hp1.pr.pages
  have cz : w1.cell? ⟨w.heap.size, 1, none⟩ = some (.int .i64 z) := by rw [hb.cell]; rfl
  have HW1 := Lib.hid hw1
  have HB := Lib.hid hb
  have HP := Lib.hid hp1
  have HV := Lib.hid hv1
  have HW := Lib.hid hw
  have HW2 := Lib.hid hw2
  have HR := Lib.hid hr
  have HNB := Lib.hid hnb
  have HVO := Lib.hid hvo
  have HBL := Lib.hid hbl
  have hlt1 := hb.lt
  have HLT := Lib.hid hlt1
  have hr1 := hrg.1
  have hr2 := hrg.2
  have hwN : IntKind.i64.wrap ((N : Int) + 2) = (N : Int) + 2 := IntWalk.i64_in _ (by omega)
  have hwA : IntKind.i64.wrap (at' - 1) = at' - 1 := IntWalk.i64_in _ (by omega)
  rw [← hnb]
  clear hbl hlt1 hvo h hr hv hal hb hp1 hv1 hw hw2 hk hat hw1 hnb hrg hc2 hc1
  go_enter Try.func16, Try.ntmps16
  go_wp2_with fail
  rw [← HW1.out]
  go_quiet ((go_at_call 15; exact Calls.quiet_of_same (HW.out _)))
  clear hwN hwA
  have hbd : Below w1.heap.size w1 (w1.drewN nq) := grownBy_below (grownBy_drewN _ _ _)
  have HP2 := Lib.hid (HP.out.grow hbd)
  have HV2 := Lib.hid (HV.out.below hbd)
  have hb2 := HB.out.moved (Moved.of_below hbd (fun _ => False)) (fun h => h)
  have HB2 := Lib.hid hb2
  have ck : (w1.drewN nq).cell? ⟨w.heap.size, 0, none⟩ = some (.int .i64 kind) := by rw [hb2.cell]; rfl
  have hs2 := hbd.size
  generalize w1.drewN nq = w2 at hs2 HP2 HV2 HB2 ck ⊢
  have HS2 : Hid (w1.heap.size ≤ w2.heap.size) := Lib.hid hs2
  clear hs2 hbd hb2 HP HB HV HW cN cz HW1
  go_wp2_with fail
  refine (HW2.out w2).mono ?_
  rintro e w3 ⟨rfl, he⟩
  replace he := he.symm
  subst he
  clear HW2
  have hkk : (fun k => w.heap.size ≤ k ∧ k < w1.heap.size) w.heap.size := ⟨Nat.le_refl _, HLT.out⟩
  have HKK := Lib.hid hkk
  have hwf : (Lit.int .i64 (at' - 1)).wf = true := WalkArith.wf_i64 (by omega)
  have HWF := Lib.hid hwf
  have cz2 : w2.drew.cell? ⟨w.heap.size, 2, none⟩ = some (.slice ao nb cap) := by show w2.cell? _ = _; rw [HB2.out.cell]; rfl
  have ha3 : Below w2.heap.size w2 (w2.alloc (.cells #[] 5)).drew := ((Below.refl _ w2).alloc (Nat.le_refl _) _).drew
  have hg3 : Blk (w2.alloc (.cells #[] 5)).drew w2.heap.size #[] 5 := (Blk.new w2 #[] 5).drew
  have cz3 : (w2.alloc (.cells #[] 5)).drew.cell? ⟨w.heap.size, 2, none⟩ = some (.slice ao nb cap) := by
    rw [(HB2.out.moved (Moved.of_below ha3 (fun _ => False)) (fun h => h)).cell]; rfl
  have hv3 := HV2.out.below ha3
  rw [← HNB.out] at hv3
  have CZ := Lib.hid cz2
  have CZ3 := Lib.hid cz3
  have HA3 := Lib.hid ha3
  have HG3 := Lib.hid hg3
  have HV3 := Lib.hid hv3
  have HL2 : Hid (w.heap.size < w2.heap.size) := Lib.hid HB2.out.lt
  clear hkk cz2 cz3 ha3 hg3 hv3 hwf
  go_wp2_with fail
  refine wp_region_any (by kernel_rfl) ?_
  change wpAny _ _ _ _ _ _ _ (World.drew _)
  refine wpAny_of_held (S := fun (w' : World) => w'.cell? ⟨w.heap.size, 2, none⟩ = some (.slice ao nb cap)) _ _ _ _ ?_
  have hS : (fun (w' : World) => w'.cell? ⟨w.heap.size, 2, none⟩ = some (.slice ao nb cap)) _ := CZ.out
  try simp only [Act.put, List.setIfInBounds_toArray, List.set_cons_zero, List.set_cons_succ]
  refine wpAnyH_take (i := 0) (oi := ⟨some 57, _, _, _, _, _⟩) (v := ?_) rfl (by kernel_rfl) (by kernel_rfl) (by kernel_rfl) (fun _ _ _ h => h) (Or.inl ⟨by rfl, ?_⟩) hS ?_
  rotate_left
  · intro wz hSw
    clear hSw
    go_simp
    first | done | with_reducible rfl
  try simp only [Act.put, List.setIfInBounds_toArray, List.set_cons_zero, List.set_cons_succ]
  refine wpAnyH_take (i := 1) (oi := ⟨some 58, _, _, _, _, _⟩) (v := ?_) rfl (by kernel_rfl) (by kernel_rfl) (by kernel_rfl) (fun _ _ _ h => h) (Or.inl ⟨by rfl, ?_⟩) hS ?_
  rotate_left
  · intro wz hSw
    clear hSw
    go_simp
    first | done | with_reducible rfl
  try simp only [Act.put, List.setIfInBounds_toArray, List.set_cons_zero, List.set_cons_succ]
  refine wpAnyH_take (i := 3) (oi := ⟨some 60, _, _, _, _, _⟩) (v := ?_) rfl (by kernel_rfl) (by kernel_rfl) (by kernel_rfl) (fun _ _ _ h => h) (Or.inl ⟨by rfl, ?_⟩) hS ?_
  rotate_left
  · intro wz hSw
    clear hSw
    go_simp
    first | done | with_reducible rfl
  try simp only [Act.put, List.setIfInBounds_toArray, List.set_cons_zero, List.set_cons_succ]
  refine wpAnyH_take (i := 4) (oi := ⟨some 61, _, _, _, _, _⟩) (v := ?_) rfl (by kernel_rfl) (by kernel_rfl) (by kernel_rfl) (fun _ _ _ h => h) (Or.inl ⟨by rfl, ?_⟩) hS ?_
  rotate_left
  · intro wz hSw
    (try dsimp only at hSw)
    (try go_split_ands)
    go_simp
    first | done | with_reducible rfl
  try simp only [Act.put, List.setIfInBounds_toArray, List.set_cons_zero, List.set_cons_succ]
  refine wpAnyH_take (i := 7) (oi := ⟨some 64, _, _, _, _, _⟩) (v := ?_) rfl (by kernel_rfl) (by kernel_rfl) (by kernel_rfl) (fun _ _ _ h => h) (Or.inl ⟨by rfl, ?_⟩) hS ?_
  rotate_left
  · intro wz hSw
    clear hSw
    go_simp
    first | done | with_reducible rfl
  try simp only [Act.put, List.setIfInBounds_toArray, List.set_cons_zero, List.set_cons_succ]
  refine wpAnyH_take (i := 8) (oi := ⟨some 65, _, _, _, _, _⟩) (v := ?_) rfl (by kernel_rfl) (by kernel_rfl) (by kernel_rfl) (fun _ _ _ h => h) (Or.inl ⟨by rfl, ?_⟩) hS ?_
  rotate_left
  · intro wz hSw
    clear hSw
    go_simp
    first | done | with_reducible rfl
  try simp only [Act.put, List.setIfInBounds_toArray, List.set_cons_zero, List.set_cons_succ]
  refine wpAnyH_take (i := 9) (oi := ⟨some 66, _, _, _, _, _⟩) (v := ?_) rfl (by kernel_rfl) (by kernel_rfl) (by kernel_rfl) (fun _ _ _ h => h) (Or.inl ⟨by rfl, ?_⟩) hS ?_
  rotate_left
  · intro wz hSw
    clear hSw
    go_simp
    first | done | with_reducible rfl
  try simp only [Act.put, List.setIfInBounds_toArray, List.set_cons_zero, List.set_cons_succ]
  refine wpAnyH_take (i := 10) (oi := ⟨some 67, _, _, _, _, _⟩) (v := ?_) rfl (by kernel_rfl) (by kernel_rfl) (by kernel_rfl) (fun _ _ _ h => h) (Or.inl ⟨by rfl, ?_⟩) hS ?_
  rotate_left
  · intro wz hSw
    (try dsimp only at hSw)
    (try go_split_ands)
    go_simp
    first | done | with_reducible rfl
  try simp only [Act.put, List.setIfInBounds_toArray, List.set_cons_zero, List.set_cons_succ]
  refine wpAnyH_ready (rs := [2]) (by kernel_rfl) (by simp) ?_
  refine AllReadyH.cons (o := ⟨some 59, _, _, _, _, _⟩) rfl (fun K hK => ?_) AllReadyH.nil
  go_simp
  refine hK.out _ _ (CZ3.out) (fun hS => ?_)
  clear hK K
  try simp only [Act.put, List.setIfInBounds_toArray, List.set_cons_zero, List.set_cons_succ]
  refine wpAnyH_ready (rs := [5]) (by kernel_rfl) (by simp) ?_
  refine AllReadyH.cons (o := ⟨some 62, _, _, _, _, _⟩) rfl (fun K hK => ?_) AllReadyH.nil
  rw [if_pos (by rfl)]
  refine wp_append_copy _ _ rfl w2.heap.size rfl HG3.out (.slice ao nb cap) b rfl HV3.out HBL.out ?_
  intro v6 w6 hv6 hg6
  have bel6 : Below w2.heap.size w2 w6 := HA3.out.grown hg6 HA3.out.size (fun q hq => by have := Option.some.inj hq; omega)
  have c6 : w6.cell? ⟨w.heap.size, 2, none⟩ = some (.slice ao nb cap) := (World.cell?_of_block (a := ⟨w.heap.size, 2, none⟩) (bel6.block _ HL2.out)).trans CZ.out
  have hl6 : w.heap.size < w6.heap.size := Nat.lt_of_lt_of_le HL2.out bel6.size
  have hb6 := HV2.out.below bel6
  have k1 := (HP2.out.grow bel6).pager (R := fun e => e = .returned (.int .i64 (lgPut N (at' - 1) b H).1)) (fun X hX => ps_put (at' - 1) HWF.out v6 b hv6 hX hc)
  have K1 := Lib.hid k1
  have C6 := Lib.hid c6
  have HL6 := Lib.hid hl6
  have HB6 := Lib.hid hb6
  clear hv6 hg6 bel6 k1 hl6 hb6
  refine hK.out _ _ c6 (fun hS => ?_)
  clear hK K c6
  try simp only [Act.put, List.setIfInBounds_toArray, List.set_cons_zero, List.set_cons_succ]
  refine wpAnyH_ready (rs := [6]) (by kernel_rfl) (by simp) ?_
  refine AllReadyH.cons (o := ⟨some 63, _, _, _, _, _⟩) rfl (fun K hK => ?_) AllReadyH.nil
  go_simp
  refine K1.out.mono ?_
  rintro e w4 ⟨rfl, h4, hm4⟩
  have H4 := Lib.hid h4
  have C4 := Lib.hid ((hm4.cell ⟨w.heap.size, 2, none⟩ HL6.out HKK.out).trans C6.out)
  have HL4 : Hid (w.heap.size < w4.heap.size) := Lib.hid (Nat.lt_of_lt_of_le HL6.out hm4.size)
  have hb4 := HB6.out.moved0 hm4 (fun h0 g hg e => by have := HVO.out h0 g hg; omega)
  rw [← HNB.out] at hb4
  have HB4 := Lib.hid hb4
  clear h4 hm4 hb4
  go_simp
  refine hK.out _ _ (C4.out) (fun hS => ?_)
  clear hK K
  try simp only [Act.put, List.setIfInBounds_toArray, List.set_cons_zero, List.set_cons_succ]
  have k2 := H4.out.refers (R := fun e => e = .returned (.int .i64 (lgPut N (at' - 1) b H).1)) (C := fun S' T' => Rl N S' T' G (lgPut N (at' - 1) b H).2) (fun Q hQ => rput_rel (at' - 1) HWF.out _ b HB4.out hQ HR.out hN)
  have K2 := Lib.hid k2
  clear k2
  refine wpAnyH_ready (rs := [11]) (by kernel_rfl) (by simp) ?_
  refine AllReadyH.cons (o := ⟨some 68, _, _, _, _, _⟩) rfl (fun K hK => ?_) AllReadyH.nil
  go_simp
  refine K2.out.mono ?_
  rintro e w5 ⟨rfl, hm5, S', T', hr5, h5⟩
  have H5 := Lib.hid h5
  have HR5 := Lib.hid hr5
  have C5 := Lib.hid ((hm5.cell ⟨w.heap.size, 2, none⟩ HL4.out HKK.out).trans C4.out)
  clear h5 hm5 hr5
  go_simp
  refine hK.out _ _ (C5.out) (fun hS => ?_)
  clear hK K
  try simp only [Act.put, List.setIfInBounds_toArray, List.set_cons_zero, List.set_cons_succ]
  refine wpAnyH_take (i := 12) (oi := ⟨some 69, _, _, _, _, _⟩) (v := ?_) rfl (by kernel_rfl) (by kernel_rfl) (by kernel_rfl) (fun _ _ _ h => h) (Or.inl ⟨by rfl, ?_⟩) hS ?_
  rotate_left
  · intro wz hSw
    clear hSw
    go_simp
    first | done | with_reducible rfl
  try simp only [Act.put, List.setIfInBounds_toArray, List.set_cons_zero, List.set_cons_succ]
  refine wpAnyH_take (i := 13) (oi := ⟨some 6, _, _, _, _, _⟩) (v := ?_) rfl (by kernel_rfl) (by kernel_rfl) (by kernel_rfl) (fun _ _ _ h => h) (Or.inl ⟨by rfl, ?_⟩) hS ?_
  rotate_left
  · intro wz hSw
    clear hSw
    go_simp
    first | done | with_reducible rfl
  try simp only [Act.put, List.setIfInBounds_toArray, List.set_cons_zero, List.set_cons_succ]
  refine wpAnyH_done (by kernel_rfl) ?_ _
  clear hS
  go_wp2_with fail
  go_ret
  exact ⟨rfl, S', T', _, _, HR5.out, H5.out.pr, fun _ _ h => lgPut_keeps _ _ _ h⟩

end Go.Proofs.Ytcnfnpccbnnplaa

namespace Go.Proofs.Ytcnfnpccbnnplaa
open Go.RowKit Go.Maps
set_option maxRecDepth 100000

/-- Act.Do: both pagers answer alike, and lie beside each other as before. -/
theorem do_any {w0 w : World} {x r p N c : Nat} {S : PS} {T : Option PS} {G : Lg} {H : Option Lg} (h : Pr w0 w x r p N c S T G H) (hr : Rl N S T G H) (hN : N ≤ 400) (hN2 : 2 ≤ N) (hc : c < 123) (kind z : Int) (v : Value) (b : List UInt8) (hv : Bs w v b)
    (hvo : 0 < b.length → ∀ g, v.ownBlock = some g → g < w0.heap.size) (hzw : (Lit.int .i64 z).wf = true) (hbl : b.length ≤ 100000) :
    Calls Try.prog 16 #[.agg #[.int .i64 kind, .int .i64 z, v], .pointer (some ⟨p, 0, none⟩), .pointer (some ⟨x, 0, none⟩)] w fun e w' => DoneTo H (withinOf kind 14) w0 x r p N (c + 1) e w' := by
  have hk := within_range kind 14 (by decide)
  have : withinOf kind 14 = 0 ∨ withinOf kind 14 = 1 ∨ withinOf kind 14 = 2 ∨ withinOf kind 14 = 3 ∨ withinOf kind 14 = 4 ∨ withinOf kind 14 = 5 ∨ withinOf kind 14 = 6 ∨ withinOf kind 14 = 7 ∨ withinOf kind 14 = 8 ∨ withinOf kind 14 = 9 ∨ withinOf kind 14 = 10 ∨ withinOf kind 14 = 11 ∨ withinOf kind 14 = 12 ∨ withinOf kind 14 = 13 := by omega
  rcases this with e | e | e | e | e | e | e | e | e | e | e | e | e | e
  · exact do_begin0 h hr hN hN2 hc kind z v b hv e
  · exact do_new1 h hr hN hN2 hc kind z v b hv e
  · exact do_new2 h hr hN hN2 hc kind z v b hv e
  · exact do_new3 h hr hN hN2 hc kind z v b hv e
  · exact do_put4 h hr hN hN2 hc kind z v b hv hvo hbl e
  · exact do_put5 h hr hN hN2 hc kind z v b hv hvo hbl e
  · exact do_put6 h hr hN hN2 hc kind z v b hv hvo hbl e
  · exact do_drop7 h hr hN hN2 hc kind z v b hv e
  · exact do_drop8 h hr hN hN2 hc kind z v b hv e
  · exact do_root9 h hr hN hN2 hc kind z v b hv hvo hzw e
  · exact do_commit10 h hr hN hN2 hc kind z v b hv e
  · exact do_commit11 h hr hN hN2 hc kind z v b hv e
  · exact do_commit12 h hr hN hN2 hc kind z v b hv e
  · exact do_abort13 h hr hN hN2 hc kind z v b hv e
end Go.Proofs.Ytcnfnpccbnnplaa

namespace Go.Proofs.Ytcnfnpccbnnplaa
open Go.RowKit Go.Maps Go.ChangeShapes Go.WideShapes
set_option maxRecDepth 100000
set_option linter.unusedVariables false

/-- An act: its kind, its number, its bytes. -/
abbrev Acts := List (Int × Int × List UInt8)
/-- An act's three cells, and what its slice reads as; its blocks are of S. -/
def AcAt (w : World) (S : Nat → Prop) (b o : Nat) (p : Int × Int × List UInt8) : Prop :=
  w.cell? ⟨b, o, none⟩ = some (.int .i64 p.1) ∧ w.cell? ⟨b, o + 1, none⟩ = some (.int .i64 p.2.1) ∧ (Lit.int .i64 p.2.1).wf = true ∧ ∃ u, w.cell? ⟨b, o + 2, none⟩ = some u ∧ Bs w u p.2.2 ∧ (0 < p.2.2.length → ∀ g, u.ownBlock = some g → S g)
def Acs (w : World) (S : Nat → Prop) (v : Value) (l : Acts) : Prop :=
  ∃ ao cap, v = .slice ao l.length cap ∧ l.length ≤ cap ∧ cap ≤ maxLen ∧ ∀ k (hk : k < l.length), ∃ b off, ao = some ⟨b, off, none⟩ ∧ S b ∧ AcAt w S b (off + k * 3) l[k]
theorem AcAt.moved {w w' : World} {S P : Nat → Prop} {b o : Nat} {p : Int × Int × List UInt8} (h : AcAt w S b o p) (hb : S b) (hm : Moved P w w') (hS : ∀ g, S g → ¬ P g) : AcAt w' S b o p := by
  obtain ⟨h0, h0', hw, u, h1, h2, h3⟩ := h
  have hlt : b < w.heap.size := World.block_lt_of_cell? w _ h0
  have hc : ∀ j, w'.cell? ⟨b, j, none⟩ = w.cell? ⟨b, j, none⟩ := fun j => World.cell?_of_block (a := ⟨b, j, none⟩) (hm.block b hlt (hS b hb))
  exact ⟨(hc _).trans h0, (hc _).trans h0', hw, u, (hc _).trans h1, h2.moved0 hm (fun h0 k hk => hS k (h3 h0 k hk)), h3⟩
theorem Acs.moved {w w' : World} {S P : Nat → Prop} {v : Value} {l : Acts} (h : Acs w S v l) (hm : Moved P w w') (hS : ∀ g, S g → ¬ P g) : Acs w' S v l := by
  obtain ⟨ao, cap, e, h1, h2, hE⟩ := h
  refine ⟨ao, cap, e, h1, h2, fun k hk => ?_⟩
  obtain ⟨b, off, e', hb, hA⟩ := hE k hk
  exact ⟨b, off, e', hb, hA.moved hb hm hS⟩
theorem Acs.below {w0 w : World} {v : Value} {l : Acts} (h : Acs w0 (fun g => g < w0.heap.size) v l) (hb : Below w0.heap.size w0 w) : Acs w (fun g => g < w0.heap.size) v l := h.moved (Moved.of_below hb (fun _ => False)) (fun _ _ h => h)

theorem act_fields : ∃ fs : Array Field, Try.prog.underlying 39 = some (.struct fs) ∧ fs.toList.map (fun f => (f.type, f.offset)) = [(3, 0), (3, 1), (37, 2)] := ⟨_, Try.underlying39, by kernel_rfl⟩

theorem act_open {H : Type} {enc : TypeId × Value → H} {W : World} {fuel : Nat} {cs : List Value} {y : DataW H × List MemPlace} {b o : Nat} (hlen : cs.length = 3) (hcell : ∀ j, j < 3 → W.cell? ⟨b, o + j, none⟩ = cs[j]?)
    (h : DataW.trod enc Try.prog W 0 (fun _ => true) true fuel 39 cs = some y) : ∃ p : Int × Int × List UInt8, AcAt W (fun g => g < W.heap.size) b o p := by
  obtain ⟨fs, hfs, hm⟩ := act_fields
  obtain ⟨xs, k, -, -, -, hxl, hf⟩ := DataW.trod_struct hfs h
  have c3 : Try.prog.cellsOf 3 = 1 := by kernel_rfl
  have c30 : Try.prog.cellsOf 37 = 1 := by kernel_rfl
  have hfl : fs.size = 3 := by
    have := congrArg List.length hm
    simpa using this
  have hgt : ∀ j (hj : j < 3), ∃ f, fs[j]? = some f ∧ (f.type, f.offset) = ([(3, 0), (3, 1), (37, 2)] : List (TypeId × Nat))[j]'(by simpa using hj) := by
    intro j hj
    have hjs : j < fs.size := by omega
    refine ⟨fs[j], by simp [hjs], ?_⟩
    have : (fs.toList.map (fun f => (f.type, f.offset)))[j]? = some (fs[j].type, fs[j].offset) := by simp [hjs]
    rw [hm, List.getElem?_eq_getElem (by simpa using hj)] at this
    exact (Option.some.inj this).symm
  match cs, hlen with
  | [v0, v1, v2], _ =>
    match xs, (by omega : xs.length = 3) with
    | [y0, y1, y2], _ =>
      obtain ⟨f0, e0, t0⟩ := hgt 0 (by decide)
      obtain ⟨f1, e1, t1⟩ := hgt 1 (by decide)
      obtain ⟨f2, e2, t2⟩ := hgt 2 (by decide)
      have g0 := hf 0 f0 e0
      have g1 := hf 1 f1 e1
      have g2 := hf 2 f2 e2
      simp only [List.getElem_cons_zero, List.getElem_cons_succ, Prod.mk.injEq] at t0 t1 t2
      rw [t0.1, t0.2, c3] at g0
      rw [t1.1, t1.2, c3] at g1
      rw [t2.1, t2.2, c30] at g2
      simp only [List.drop_zero, List.drop_succ_cons, List.take_succ_cons, List.take_zero, List.getElem?_cons_zero, List.getElem?_cons_succ] at g0 g1 g2
      obtain ⟨n0, q0, -, -⟩ := DataW.trod_int Try.underlying3 g0
      obtain ⟨n1, q1, -, hw1⟩ := DataW.trod_int Try.underlying3 g1
      simp only [List.cons.injEq, and_true] at q0 q1
      obtain ⟨bs, hbs⟩ : ∃ bs, Bs W v2 bs := by
        rcases open_ints Try.underlying37 Try.underlying5 (by kernel_rfl) g2 with ⟨hcs, _⟩ | ⟨x, l, c, zs, hcs, _, hl, hm, hz, _, hc, hwz⟩
        · simp only [List.cons.injEq, and_true] at hcs
          obtain ⟨l, -, h⟩ := Bs.of_row (w := W) (zs := []) (.inl ⟨rfl, rfl, rfl, rfl⟩)
          exact ⟨l, by rw [hcs]; exact h⟩
        · simp only [List.cons.injEq, and_true] at hcs
          obtain ⟨l', -, h⟩ := Bs.of_row (w := W) (.inr ⟨x, rfl, hl, hm, by simpa using hz, hc, hwz⟩)
          exact ⟨l', by rw [hcs]; exact h⟩
      refine ⟨(n0, n1, bs), ?_, ?_, hw1, v2, ?_, hbs, fun h0 => hbs.own_lt h0⟩
      · rw [← q0]; exact hcell 0 (by decide)
      · rw [← q1]; exact hcell 1 (by decide)
      · exact hcell 2 (by decide)

theorem acts_open {H : Type} {enc : TypeId × Value → H} {W : World} {fuel : Nat} {ao : Option Addr} {len cap : Nat} {y : DataW H × List MemPlace}
    (h : DataW.trod enc Try.prog W 0 (fun _ => true) true fuel 22 [.slice ao len cap] = some y) : ∃ l : Acts, l.length = len ∧ Acs W (fun g => g < W.heap.size) (.slice ao len cap) l := by
  have c5 : Try.prog.cellsOf 39 = 3 := by kernel_rfl
  rcases Go.Deep.open_slice Try.underlying22 h with ⟨hcs, _⟩ | ⟨a, len', cap', m, n, D, Pl, hcs, -, hl, hm, hmm, -, hx⟩
  · simp only [List.cons.injEq, and_true, Value.slice.injEq] at hcs
    obtain ⟨rfl, rfl, rfl⟩ := hcs
    exact ⟨[], rfl, none, 0, rfl, Nat.le_refl _, by simp [maxLen], fun k hk => by simp at hk⟩
  · simp only [List.cons.injEq, and_true, Value.slice.injEq] at hcs
    obtain ⟨rfl, rfl, rfl⟩ := hcs
    simp only [if_true] at hmm
    subst hmm
    obtain ⟨b, off, spot⟩ := a
    have each : ∀ i, i < len → ∃ q : Int × Int × List UInt8, spot = none ∧ AcAt W (fun g => g < W.heap.size) b (off + i * 3) q := by
      intro i hi
      have hs : spot = none := by
        obtain ⟨cs', h1, -⟩ := hx 0 (by omega)
        rw [c5] at h1
        obtain ⟨_, hlen, hcell⟩ := World.cells?_some h1
        have h0 := hcell 0 (by decide)
        rw [List.getElem?_eq_getElem (by omega)] at h0
        simpa [Addr.add] using World.cell?_spot h0
      subst hs
      obtain ⟨cs', h1, h2⟩ := hx i (by omega)
      rw [c5] at h1
      obtain ⟨_, hlen, hcell⟩ := World.cells?_some h1
      obtain ⟨q, hq⟩ := act_open (b := b) (o := off + i * 3) hlen (fun j hj => by
        have := hcell j hj
        rw [add_add, Addr.add_lit, ← Nat.add_assoc] at this
        exact this) h2
      exact ⟨q, rfl, hq⟩
    obtain ⟨f, hf⟩ := Go.Deep.choose_lt each
    refine ⟨(List.range len).map f, by simp, some ⟨b, off, spot⟩, m, by simp, by simpa using hl, hm, fun k hk => ?_⟩
    have hk' : k < len := by simpa using hk
    obtain ⟨rfl, hq⟩ := hf k hk'
    exact ⟨b, off, rfl, World.block_lt_of_cell? _ _ hq.1, by simpa using hq⟩

theorem Acs.cells {w : World} {S : Nat → Prop} {v : Value} {l : Acts} (h : Acs w S v l) : ∃ ao cap, v = .slice ao l.length cap ∧ l.length ≤ cap ∧ cap ≤ maxLen := by
  obtain ⟨ao, cap, h1, h2, h3, -⟩ := h; exact ⟨ao, cap, h1, h2, h3⟩

/-- Not too many, and each not too long. -/
def FewOk (l : Acts) : Prop := l.length ≤ 60 ∧ ∀ k (hk : k < l.length), l[k].2.2.length ≤ 600

set_option maxHeartbeats 2000000 in
/-- Few: acts that are not too much. -/
theorem few_any {w : World} {S : Nat → Prop} {v : Value} {l : Acts} (h : Acs w S v l) :
    Calls Try.prog 9 #[v] w fun e w' => ∃ t : Bool, e = .returned (.bool t) ∧ w' = w ∧ (t = true → FewOk l) := by
  obtain ⟨ao, cap, rfl, hc1, hc2, hE⟩ := h
  have hc2' : cap ≤ 9223372036854775807 := hc2
  obtain ⟨n, hn⟩ : ∃ n, n = l.length := ⟨_, rfl⟩
  rw [← hn] at hc1 ⊢
  have HN := Lib.hid hn
  have HE := Lib.hid hE
  clear hn hE hc2
  go_enter Try.func9, Try.ntmps9
  go_wp2_with fail
  go_loopw [3] (fun i wr => ∃ k : Nat, k ≤ n ∧ i = .int .i64 k ∧ (∀ j (hj : j < l.length), j < k → l[j].2.2.length ≤ 600) ∧ wr = w) (fun i _ => n - (intOf i).toNat)
  case atStart => exact ⟨0, Nat.zero_le _, rfl, fun j hj h => absurd h (Nat.not_lt_zero _), rfl⟩
  case round =>
    obtain ⟨k, hk, rfl, hf, rfl⟩ := hrel
    have HF := Lib.hid hf
    clear hf
    by_cases hlt : k < n
    · have hkl : k < l.length := by rw [← HN.out]; exact hlt
      obtain ⟨b, off, rfl, hb, ⟨c0, c1, hwf, u, c2, hu, -⟩⟩ := HE.out k hkl
      obtain ⟨bo, bc, rfl, hb1, hb2, -⟩ := id hu
      obtain ⟨q, hq⟩ : ∃ q, q = l[k].2.2.length := ⟨_, rfl⟩
      rw [← hq] at c2
      have HQ := Lib.hid hq
      have hlt' : (k : Int) < n := by omega
      by_cases h6 : (600 : Int) < q
      · clear hb hu hq hb1 hb2 c0 c1 hwf
        go_wp2_with fail
        go_ret
        exact ⟨false, rfl, rfl, fun e => by cases e⟩
      · clear hb hu hq hb1 hb2 c0 c1 hwf
        go_wp2_with fail
        go_roundw
        case rel =>
          refine ⟨k + 1, by omega, by go_num, fun j hj hjk => ?_, by first | rfl | trivial⟩
          by_cases e : j = k
          · subst e; rw [← HQ.out]; omega
          · exact HF.out j hj (by omega)
        case measure => simp [intOf]; omega
    · obtain rfl : k = n := by omega
      go_wp2_with fail
      go_ret
      refine ⟨decide ((k : Int) ≤ 60), rfl, rfl, fun e => ⟨?_, fun j hj => HF.out j hj (by rw [HN.out]; exact hj)⟩⟩
      have := of_decide_eq_true e
      rw [← HN.out]; omega
end Go.Proofs.Ytcnfnpccbnnplaa

namespace Go.Proofs.Ytcnfnpccbnnplaa
open Go.RowKit Go.Maps
set_option maxRecDepth 100000
set_option linter.unusedVariables false

theorem Pr.opens {w0 w : World} {x r p N c : Nat} {S : PS} {T : Option PS} {G : Lg} {H : Option Lg} (h : Pr w0 w x r p N c S T G H) (hN : 2 ≤ N) (hc : c < 123) :
    Calls Try.prog 11 #[.pointer (some ⟨r, 0, none⟩)] w fun e w' => ∃ p', e = .returned (.tuple #[.pointer (some ⟨p', 0, none⟩), .int .i64 0]) ∧ Pr w0 w' x r p' N c S T G none := by
  obtain ⟨Q, h1, h2, h3⟩ := h
  refine (ps_open h2 hN hc).mono ?_
  rintro e w' ⟨p', rfl, g1, g2⟩
  exact ⟨p', rfl, Q, h1.moved g2 (fun k hk e => e.2 hk), g1, h3⟩

theorem Pr.begun {w0 w w' : World} {x r p N c : Nat} {G : Lg} {S : PS} (h : Ps w0 w NoX r p N c G none) (hr : Rp w' (fun k => w.heap.size ≤ k ∧ k < w'.heap.size) x N S none) (hb : Below w.heap.size w w') : Pr w0 w' x r p N c S none G none :=
  ⟨_, hr, h.mvx (Moved.of_below hb (fun _ => False)) (fun _ h => h.elim) (fun _ hk => .inr hk), fun k hk => Nat.le_trans h.below.size hk.1⟩

end Go.Proofs.Ytcnfnpccbnnplaa

