/- Package value: a run: enter, further. -/
import Derived.Test.YtecomfhbdonkbaaGreatDoorKl
namespace Go.Proofs.YtecomfhbdonkbaaGreatDoor
open Go.RowKit Go.Shelf Flo
set_option maxRecDepth 100000
set_option linter.unusedVariables false
set_option linter.unusedSimpArgs false

theorem opt_some (q : Option Tm) : (if q.isSome then some (q.getD zeroT) else none) = q := by cases q <;> rfl
theorem RunP.sol {w : World} {r : Nat} {sv : Value} {S : Stk} {v : Option Tm} (h : RunP w r sv S v) : w.cell? ⟨r, 0, none⟩ = some sv := by
  obtain ⟨way, h, -⟩ := h
  exact h.cell 0
/-- A run on its way, whatever it was told. -/
def RnP (w : World) (r : Nat) (sv : Value) (S : Stk) (z : World) : Prop := (∃ v0, RunP z r sv S v0) ∧ Below r w z
theorem RnP.below {w : World} {r : Nat} {sv : Value} {S : Stk} {z z' : World} (h : RnP w r sv S z) (hb : Below z.heap.size z z') : RnP w r sv S z' := by
  obtain ⟨⟨v0, hr⟩, h2⟩ := h
  exact ⟨⟨v0, hr.below hb⟩, h2.trans (hb.mono (Nat.le_of_lt hr.lt))⟩
theorem fits15 {n : Nat} (h : fitsO 15 n = true) : n = 1 := by
  unfold fitsO at h
  rw [if_neg (by decide), if_neg (by decide), if_neg (by decide), if_pos (by decide)] at h
  exact of_decide_eq_true h
set_option maxHeartbeats 1000000 in
theorem enter_bare (B r : Nat) (sv : Value) (s : Slt) (S : Stk) (v : Option Tm) (n b o : Nat) (e : Exp) (w : World) (h : RunP w r sv S v) (hB : B ≤ r) (hS : StkP B w S) (hx : XP B w n b o e) (hs : ∀ x ∈ S, SizeOf.sizeOf e < SizeOf.sizeOf x.1.e) (hsol : SolAt B w sv s) (hf : fitsO e.op e.kids.length = true) (h1 : e.op = 1) (h4 : e.tm.k = 4) :
    Calls Tryz.prog 27 #[.pointer (some ⟨r, 0, none⟩), .pointer (some ⟨b, o, none⟩)] w fun e' w' => e' = .returned (.bool false) ∧ RunP w' r sv S (getO s e.tm.sl) ∧ Below r w w' := by
  have HR := Lib.hid h
  have HEN := Lib.hid (endlessP B r sv S v n b o e w h hS hx hs)
  have hx9 := hx
  obtain ⟨hbB, hpl, kv, hxc, hop, hsm, hk⟩ := hx
  obtain ⟨hk1000, kp, cap, rfl⟩ := hk.form
  have HFI := Lib.hid (fun w => fits_same e.op e.kids.length hk1000 w)
  have HRL := Lib.hid (h.lt)
  have HXC := Lib.hid (fun wz (hz : Below r w wz) => hxc.keep (B := r) (Nat.lt_of_lt_of_le hbB hB) hz)
  have HSO := Lib.hid (fun wz (hz : Below r w wz) => And.intro (hsol.keep (hz.mono hB)) (Nat.le_trans hB (Nat.le_trans (Nat.le_of_lt h.lt) hz.size)))
  have HG := Lib.hid (fun wz (hz : Below r w wz) => solGet_any B sv s e.tm.s wz (HSO.out wz hz).1 (HSO.out wz hz).2)
  clear hk hpl hxc hsm h hS hs hsol hx9
  obtain ⟨q, hq⟩ : ∃ q, q = getO s e.tm.sl := ⟨_, rfl⟩
  rw [show getO s e.tm.s.data.toList = q from hq.symm] at HG
  rw [← hq]
  clear hq
  unfold optV at HG
  rw [hf] at HFI
  have e1 : (e.op == 1) = true := beq_iff_eq.2 h1
  have e4 : (e.tm.k == 4) = true := beq_iff_eq.2 h4
  clear hf h1 h4
  generalize e.op = op at *
  go_enter Tryz.func27, Tryz.ntmps27
  go_wp2_with fail
  refine HEN.out.mono ?_
  rintro e' w1 ⟨rfl, hb1⟩
  have HB1 := Lib.hid (hb1.mono (Nat.le_of_lt HRL.out))
  have HR1 := Lib.hid (HR.out.below hb1)
  obtain ⟨x0, x1, x2, x3, x4, x5⟩ := HXC.out w1 HB1.out
  clear hb1
  go_wp2_with fail
  go_quiet ((go_at_call 44; exact Calls.quiet_of_same (HFI.out _)))
  go_upto_region 8 with fail
  have HS2 := Lib.hid (show RnP w r sv S (w1.drewN nq) from ⟨⟨_, HR1.out.below ⟨rfl, rfl, rfl, Nat.le_refl _, fun _ _ => rfl⟩⟩, ⟨HB1.out.os, HB1.out.tape, HB1.out.output, HB1.out.size, HB1.out.block⟩⟩)
  clear x0 x1 x2 x3 x4 x5
  generalize World.drewN w1 nq = w2 at HS2 ⊢
  refine wp_region_any (by kernel_rfl) ?_
  change wpAny _ _ _ _ _ _ _ (World.drew _)
  refine wpAny_of_held (S := fun z => RnP w r sv S z) _ _ _ _ ?_
  have hS : (fun z => RnP w r sv S z) _ := HS2.out.below (below_drew15 _)
  refine wpAnyH_take (i := 0) (oi := ⟨some 53, _, _, _, _, _⟩) (v := ?_) rfl (by kernel_rfl) (by kernel_rfl) (by kernel_rfl) (fun _ _ _ h => h) (Or.inl ⟨by simp only [Region.wanted], ?_⟩) hS ?_
  rotate_left
  · intro wz hSw
    clear hSw
    go_simp
    first | done | with_reducible rfl
  try simp only [Act.put, List.setIfInBounds_toArray, List.set_cons_zero, List.set_cons_succ]
  refine wpAnyH_take (i := 1) (oi := ⟨some 54, _, _, _, _, _⟩) (v := ?_) rfl (by kernel_rfl) (by kernel_rfl) (by kernel_rfl) (fun _ _ _ h => h) (Or.inl ⟨by simp only [Region.wanted], ?_⟩) hS ?_
  rotate_left
  · intro wz hSw
    clear hSw
    go_simp
    first | done | with_reducible rfl
  try simp only [Act.put, List.setIfInBounds_toArray, List.set_cons_zero, List.set_cons_succ]
  refine wpAnyH_take (i := 2) (oi := ⟨some 55, _, _, _, _, _⟩) (v := ?_) rfl (by kernel_rfl) (by kernel_rfl) (by kernel_rfl) (fun _ _ _ h => h) (Or.inl ⟨by simp only [Region.wanted], ?_⟩) hS ?_
  rotate_left
  · intro wz hSw
    clear hSw
    go_simp
    first | done | with_reducible rfl
  try simp only [Act.put, List.setIfInBounds_toArray, List.set_cons_zero, List.set_cons_succ]
  refine wpAnyH_take (i := 3) (oi := ⟨some 56, _, _, _, _, _⟩) (v := ?_) rfl (by kernel_rfl) (by kernel_rfl) (by kernel_rfl) (fun _ _ _ h => h) (Or.inl ⟨by simp only [Region.wanted], ?_⟩) hS ?_
  rotate_left
  · intro wz hSw
    clear hSw
    go_simp
    first | done | with_reducible rfl
  try simp only [Act.put, List.setIfInBounds_toArray, List.set_cons_zero, List.set_cons_succ]
  refine wpAnyH_take (i := 4) (oi := ⟨some 57, _, _, _, _, _⟩) (v := ?_) rfl (by kernel_rfl) (by kernel_rfl) (by kernel_rfl) (fun _ _ _ h => h) (Or.inl ⟨by simp only [Region.wanted], ?_⟩) hS ?_
  rotate_left
  · intro wz hSw; obtain ⟨v0, hr⟩ := hSw.1; have c0 := hr.sol; clear hr; obtain ⟨y0, y1, y2, y3, y4, y5⟩ := HXC.out wz hSw.2
    clear hSw
    go_simp
    first | done | with_reducible rfl
  try simp only [Act.put, List.setIfInBounds_toArray, List.set_cons_zero, List.set_cons_succ]
  refine wpAnyH_take (i := 5) (oi := ⟨some 58, _, _, _, _, _⟩) (v := ?_) rfl (by kernel_rfl) (by kernel_rfl) (by kernel_rfl) (fun _ _ _ h => h) (Or.inl ⟨by simp only [Region.wanted], ?_⟩) hS ?_
  rotate_left
  · intro wz hSw
    clear hSw
    go_simp
    first | done | with_reducible rfl
  try simp only [Act.put, List.setIfInBounds_toArray, List.set_cons_zero, List.set_cons_succ]
  refine wpAnyH_take (i := 6) (oi := ⟨some 59, _, _, _, _, _⟩) (v := ?_) rfl (by kernel_rfl) (by kernel_rfl) (by kernel_rfl) (fun _ _ _ h => h) (Or.inl ⟨by simp only [Region.wanted], ?_⟩) hS ?_
  rotate_left
  · intro wz hSw
    clear hSw
    go_simp
    first | done | with_reducible rfl
  try simp only [Act.put, List.setIfInBounds_toArray, List.set_cons_zero, List.set_cons_succ]
  refine wpAnyH_take (i := 7) (oi := ⟨some 60, _, _, _, _, _⟩) (v := ?_) rfl (by kernel_rfl) (by kernel_rfl) (by kernel_rfl) (fun _ _ _ h => h) (Or.inl ⟨by simp only [Region.wanted], ?_⟩) hS ?_
  rotate_left
  · intro wz hSw
    clear hSw
    go_simp
    first | done | with_reducible rfl
  try simp only [Act.put, List.setIfInBounds_toArray, List.set_cons_zero, List.set_cons_succ]
  refine wpAnyH_take (i := 8) (oi := ⟨some 61, _, _, _, _, _⟩) (v := ?_) rfl (by kernel_rfl) (by kernel_rfl) (by kernel_rfl) (fun _ _ _ h => h) (Or.inl ⟨by simp only [Region.wanted], ?_⟩) hS ?_
  rotate_left
  · intro wz hSw
    clear hSw
    go_simp
    first | done | with_reducible rfl
  try simp only [Act.put, List.setIfInBounds_toArray, List.set_cons_zero, List.set_cons_succ]
  refine wpAnyH_take (i := 9) (oi := ⟨some 62, _, _, _, _, _⟩) (v := ?_) rfl (by kernel_rfl) (by kernel_rfl) (by kernel_rfl) (fun _ _ _ h => h) (Or.inl ⟨by simp only [Region.wanted], ?_⟩) hS ?_
  rotate_left
  · intro wz hSw; obtain ⟨v0, hr⟩ := hSw.1; have c0 := hr.sol; clear hr; obtain ⟨y0, y1, y2, y3, y4, y5⟩ := HXC.out wz hSw.2
    clear hSw
    go_simp
    first | done | with_reducible rfl
  try simp only [Act.put, List.setIfInBounds_toArray, List.set_cons_zero, List.set_cons_succ]
  refine wpAnyH_ready (rs := [10]) (by kernel_rfl) (by simp) ?_
  refine AllReadyH.cons (o := ⟨some 63, _, _, _, _, _⟩) rfl (fun K hK => ?_) AllReadyH.nil
  go_simp
  refine (HG.out _ hS.2).mono ?_
  rintro e' w3 ⟨rfl, hb3⟩
  have HT3 := Lib.hid (hS.below hb3)
  clear hb3
  go_wp2_with fail
  refine hK.out _ _ (HT3.out) (fun hS => ?_)
  clear hK K
  try simp only [Act.put, List.setIfInBounds_toArray, List.set_cons_zero, List.set_cons_succ]
  refine wpAnyH_take (i := 11) (oi := ⟨some 64, _, _, _, _, _⟩) (v := ?_) rfl (by kernel_rfl) (by kernel_rfl) (by kernel_rfl) (fun _ _ _ h => h) (Or.inl ⟨by simp only [Region.wanted], ?_⟩) hS ?_
  rotate_left
  · intro wz hSw
    clear hSw
    go_simp
    first | done | with_reducible rfl
  try simp only [Act.put, List.setIfInBounds_toArray, List.set_cons_zero, List.set_cons_succ]
  refine wpAnyH_take (i := 12) (oi := ⟨some 65, _, _, _, _, _⟩) (v := ?_) rfl (by kernel_rfl) (by kernel_rfl) (by kernel_rfl) (fun _ _ _ h => h) (Or.inl ⟨by simp only [Region.wanted], ?_⟩) hS ?_
  rotate_left
  · intro wz hSw
    clear hSw
    go_simp
    first | done | with_reducible rfl
  try simp only [Act.put, List.setIfInBounds_toArray, List.set_cons_zero, List.set_cons_succ]
  refine wpAnyH_ready (rs := [13]) (by kernel_rfl) (by simp) ?_
  refine AllReadyH.cons (o := ⟨some 66, _, _, _, _, _⟩) rfl (fun K hK => ?_) AllReadyH.nil
  go_simp
  obtain ⟨v1, hr⟩ := hS.1
  refine (tellP r sv S v1 (q.getD zeroT) (q.isSome) _ hr).mono ?_
  rintro e' w4 ⟨rfl, hr4, hb4⟩
  have HR4 := Lib.hid hr4
  have HT4 := Lib.hid (show RnP w r sv S w4 from ⟨⟨_, hr4⟩, hS.2.trans hb4⟩)
  clear hr4 hb4 hr
  go_wp2_with fail
  refine hK.out _ _ (HT4.out) (fun hS => ?_)
  clear hK K
  try simp only [Act.put, List.setIfInBounds_toArray, List.set_cons_zero, List.set_cons_succ]
  refine wpAnyH_done (by kernel_rfl) ?_ _
  go_wp2_with fail
  go_ret
  refine ⟨rfl, ?_, hS.2⟩
  have h9 := HR4.out
  rw [opt_some] at h9
  exact h9
set_option maxHeartbeats 1000000 in
theorem enter_bound (B r : Nat) (sv : Value) (s : Slt) (S : Stk) (v : Option Tm) (n b o : Nat) (e : Exp) (w : World) (h : RunP w r sv S v) (hB : B ≤ r) (hS : StkP B w S) (hx : XP B w n b o e) (hs : ∀ x ∈ S, SizeOf.sizeOf e < SizeOf.sizeOf x.1.e) (hsol : SolAt B w sv s) (hf : fitsO e.op e.kids.length = true) (h15 : e.op = 15) :
    Calls Tryz.prog 27 #[.pointer (some ⟨r, 0, none⟩), .pointer (some ⟨b, o, none⟩)] w fun e' w' => e' = .returned (.bool false) ∧ RunP w' r sv S (boundO (e.kid 0) s) ∧ Below r w w' := by
  have HR := Lib.hid h
  have HEN := Lib.hid (endlessP B r sv S v n b o e w h hS hx hs)
  have hx9 := hx
  obtain ⟨hbB, hpl, kv, hxc, hop, hsm, hk⟩ := hx
  obtain ⟨hk1000, kp, cap, rfl⟩ := hk.form
  have HFI := Lib.hid (fun w => fits_same e.op e.kids.length hk1000 w)
  have HRL := Lib.hid (h.lt)
  have HXC := Lib.hid (fun wz (hz : Below r w wz) => hxc.keep (B := r) (Nat.lt_of_lt_of_le hbB hB) hz)
  have HSO := Lib.hid (fun wz (hz : Below r w wz) => And.intro (hsol.keep (hz.mono hB)) (Nat.le_trans hB (Nat.le_trans (Nat.le_of_lt h.lt) hz.size)))
  have hl : e.kids.length = 1 := fits15 (by rw [h15] at hf; exact hf)
  obtain ⟨kb, ko, cap9, m, -, c5, hkb, hxk, -⟩ := hx9.kid (i := 0) (by omega)
  rw [hxc.2.2.2.2.2] at c5
  simp only [Option.some.injEq, Value.slice.injEq] at c5
  obtain ⟨rfl, -, rfl⟩ := c5
  rw [Nat.zero_mul, Nat.add_zero] at hxk
  obtain ⟨-, -, kvk, hxck, -, -, hkk⟩ := hxk
  obtain ⟨hk1000k, kpk, capk, rfl⟩ := hkk.form
  have HXK := Lib.hid (fun wz (hz : Below r w wz) => hxck.keep (B := r) (Nat.lt_of_lt_of_le hkb hB) hz)
  generalize e.kid 0 = kd at *
  have HBD := Lib.hid (fun wz (hz : Below r w wz) => bound_any B kd.op kd.tm kd.kids.length kpk capk sv s wz (HSO.out wz hz).1 (HSO.out wz hz).2 hk1000k)
  unfold expV at HBD
  obtain ⟨q, hq⟩ : ∃ q, q = boundO kd s := ⟨_, rfl⟩
  rw [show (if kd.op = 1 ∧ kd.tm.k = 4 ∧ kd.kids.length = 0 then some (boolT (getO s kd.tm.sl).isSome) else none) = q from hq.symm] at HBD
  rw [← hq]
  clear hq
  clear hkk hxck
  clear hk hpl hxc hsm h hS hs hsol hx9
  rw [hf] at HFI
  have e1 : (e.op == 1) = false := beq_eq_false_iff_ne.2 (by rw [h15]; decide)
  have e15 : (e.op == 15) = true := beq_iff_eq.2 h15
  clear hf h15
  rw [hl] at HFI HXC
  clear hl
  generalize e.op = op at *
  go_enter Tryz.func27, Tryz.ntmps27
  go_wp2_with fail
  refine HEN.out.mono ?_
  rintro e' w1 ⟨rfl, hb1⟩
  have HB1 := Lib.hid (hb1.mono (Nat.le_of_lt HRL.out))
  have HR1 := Lib.hid (HR.out.below hb1)
  obtain ⟨x0, x1, x2, x3, x4, x5⟩ := HXC.out w1 HB1.out
  clear hb1
  go_wp2_with fail
  go_quiet ((go_at_call 44; exact Calls.quiet_of_same (HFI.out _)))
  go_upto_region 10 with fail
  have HS2 := Lib.hid (show RnP w r sv S (w1.drewN nq) from ⟨⟨_, HR1.out.below ⟨rfl, rfl, rfl, Nat.le_refl _, fun _ _ => rfl⟩⟩, ⟨HB1.out.os, HB1.out.tape, HB1.out.output, HB1.out.size, HB1.out.block⟩⟩)
  clear x0 x1 x2 x3 x4 x5
  generalize World.drewN w1 nq = w2 at HS2 ⊢
  refine wp_region_any (by kernel_rfl) ?_
  change wpAny _ _ _ _ _ _ _ (World.drew _)
  refine wpAny_of_held (S := fun z => RnP w r sv S z) _ _ _ _ ?_
  have hS : (fun z => RnP w r sv S z) _ := HS2.out.below (below_drew15 _)
  refine wpAnyH_take (i := 0) (oi := ⟨some 73, _, _, _, _, _⟩) (v := ?_) rfl (by kernel_rfl) (by kernel_rfl) (by kernel_rfl) (fun _ _ _ h => h) (Or.inl ⟨by simp only [Region.wanted], ?_⟩) hS ?_
  rotate_left
  · intro wz hSw
    clear hSw
    go_simp
    first | done | with_reducible rfl
  try simp only [Act.put, List.setIfInBounds_toArray, List.set_cons_zero, List.set_cons_succ]
  refine wpAnyH_take (i := 1) (oi := ⟨some 74, _, _, _, _, _⟩) (v := ?_) rfl (by kernel_rfl) (by kernel_rfl) (by kernel_rfl) (fun _ _ _ h => h) (Or.inl ⟨by simp only [Region.wanted], ?_⟩) hS ?_
  rotate_left
  · intro wz hSw
    clear hSw
    go_simp
    first | done | with_reducible rfl
  try simp only [Act.put, List.setIfInBounds_toArray, List.set_cons_zero, List.set_cons_succ]
  refine wpAnyH_take (i := 2) (oi := ⟨some 75, _, _, _, _, _⟩) (v := ?_) rfl (by kernel_rfl) (by kernel_rfl) (by kernel_rfl) (fun _ _ _ h => h) (Or.inl ⟨by simp only [Region.wanted], ?_⟩) hS ?_
  rotate_left
  · intro wz hSw
    clear hSw
    go_simp
    first | done | with_reducible rfl
  try simp only [Act.put, List.setIfInBounds_toArray, List.set_cons_zero, List.set_cons_succ]
  refine wpAnyH_take (i := 3) (oi := ⟨some 76, _, _, _, _, _⟩) (v := ?_) rfl (by kernel_rfl) (by kernel_rfl) (by kernel_rfl) (fun _ _ _ h => h) (Or.inl ⟨by simp only [Region.wanted], ?_⟩) hS ?_
  rotate_left
  · intro wz hSw
    clear hSw
    go_simp
    first | done | with_reducible rfl
  try simp only [Act.put, List.setIfInBounds_toArray, List.set_cons_zero, List.set_cons_succ]
  refine wpAnyH_take (i := 4) (oi := ⟨some 77, _, _, _, _, _⟩) (v := ?_) rfl (by kernel_rfl) (by kernel_rfl) (by kernel_rfl) (fun _ _ _ h => h) (Or.inl ⟨by simp only [Region.wanted], ?_⟩) hS ?_
  rotate_left
  · intro wz hSw; obtain ⟨v0, hr⟩ := hSw.1; have c0 := hr.sol; clear hr; obtain ⟨y0, y1, y2, y3, y4, y5⟩ := HXC.out wz hSw.2; obtain ⟨k0, k1, k2, k3, k4, k5⟩ := HXK.out wz hSw.2
    clear hSw
    go_simp
    first | done | with_reducible rfl
  try simp only [Act.put, List.setIfInBounds_toArray, List.set_cons_zero, List.set_cons_succ]
  refine wpAnyH_take (i := 5) (oi := ⟨some 78, _, _, _, _, _⟩) (v := ?_) rfl (by kernel_rfl) (by kernel_rfl) (by kernel_rfl) (fun _ _ _ h => h) (Or.inl ⟨by simp only [Region.wanted], ?_⟩) hS ?_
  rotate_left
  · intro wz hSw
    clear hSw
    go_simp
    first | done | with_reducible rfl
  try simp only [Act.put, List.setIfInBounds_toArray, List.set_cons_zero, List.set_cons_succ]
  refine wpAnyH_take (i := 6) (oi := ⟨some 79, _, _, _, _, _⟩) (v := ?_) rfl (by kernel_rfl) (by kernel_rfl) (by kernel_rfl) (fun _ _ _ h => h) (Or.inl ⟨by simp only [Region.wanted], ?_⟩) hS ?_
  rotate_left
  · intro wz hSw; obtain ⟨v0, hr⟩ := hSw.1; have c0 := hr.sol; clear hr; obtain ⟨y0, y1, y2, y3, y4, y5⟩ := HXC.out wz hSw.2; obtain ⟨k0, k1, k2, k3, k4, k5⟩ := HXK.out wz hSw.2
    clear hSw
    go_simp
    first | done | with_reducible rfl
  try simp only [Act.put, List.setIfInBounds_toArray, List.set_cons_zero, List.set_cons_succ]
  refine wpAnyH_take (i := 7) (oi := ⟨some 80, _, _, _, _, _⟩) (v := ?_) rfl (by kernel_rfl) (by kernel_rfl) (by kernel_rfl) (fun _ _ _ h => h) (Or.inl ⟨by simp only [Region.wanted], ?_⟩) hS ?_
  rotate_left
  · intro wz hSw
    clear hSw
    go_simp
    first | done | with_reducible rfl
  try simp only [Act.put, List.setIfInBounds_toArray, List.set_cons_zero, List.set_cons_succ]
  refine wpAnyH_take (i := 8) (oi := ⟨some 81, _, _, _, _, _⟩) (v := ?_) rfl (by kernel_rfl) (by kernel_rfl) (by kernel_rfl) (fun _ _ _ h => h) (Or.inl ⟨by simp only [Region.wanted], ?_⟩) hS ?_
  rotate_left
  · intro wz hSw
    clear hSw
    go_simp
    first | done | with_reducible rfl
  try simp only [Act.put, List.setIfInBounds_toArray, List.set_cons_zero, List.set_cons_succ]
  refine wpAnyH_take (i := 9) (oi := ⟨some 82, _, _, _, _, _⟩) (v := ?_) rfl (by kernel_rfl) (by kernel_rfl) (by kernel_rfl) (fun _ _ _ h => h) (Or.inl ⟨by simp only [Region.wanted], ?_⟩) hS ?_
  rotate_left
  · intro wz hSw
    clear hSw
    go_simp
    first | done | with_reducible rfl
  try simp only [Act.put, List.setIfInBounds_toArray, List.set_cons_zero, List.set_cons_succ]
  refine wpAnyH_take (i := 10) (oi := ⟨some 83, _, _, _, _, _⟩) (v := ?_) rfl (by kernel_rfl) (by kernel_rfl) (by kernel_rfl) (fun _ _ _ h => h) (Or.inl ⟨by simp only [Region.wanted], ?_⟩) hS ?_
  rotate_left
  · intro wz hSw; obtain ⟨v0, hr⟩ := hSw.1; have c0 := hr.sol; clear hr; obtain ⟨y0, y1, y2, y3, y4, y5⟩ := HXC.out wz hSw.2; obtain ⟨k0, k1, k2, k3, k4, k5⟩ := HXK.out wz hSw.2
    clear hSw
    go_simp
    first | done | with_reducible rfl
  try simp only [Act.put, List.setIfInBounds_toArray, List.set_cons_zero, List.set_cons_succ]
  refine wpAnyH_ready (rs := [11]) (by kernel_rfl) (by simp) ?_
  refine AllReadyH.cons (o := ⟨some 84, _, _, _, _, _⟩) rfl (fun K hK => ?_) AllReadyH.nil
  go_simp
  refine (HBD.out _ hS.2).mono ?_
  rintro e' w3 ⟨⟨x, rfl, hxo⟩, hb3⟩
  have HT3 := Lib.hid (hS.below hb3)
  have HXO := Lib.hid hxo
  clear hb3 hxo
  go_wp2_with fail
  refine hK.out _ _ (HT3.out) (fun hS => ?_)
  clear hK K
  try simp only [Act.put, List.setIfInBounds_toArray, List.set_cons_zero, List.set_cons_succ]
  refine wpAnyH_take (i := 12) (oi := ⟨some 85, _, _, _, _, _⟩) (v := ?_) rfl (by kernel_rfl) (by kernel_rfl) (by kernel_rfl) (fun _ _ _ h => h) (Or.inl ⟨by simp only [Region.wanted], ?_⟩) hS ?_
  rotate_left
  · intro wz hSw
    clear hSw
    go_simp
    first | done | with_reducible rfl
  try simp only [Act.put, List.setIfInBounds_toArray, List.set_cons_zero, List.set_cons_succ]
  refine wpAnyH_take (i := 13) (oi := ⟨some 86, _, _, _, _, _⟩) (v := ?_) rfl (by kernel_rfl) (by kernel_rfl) (by kernel_rfl) (fun _ _ _ h => h) (Or.inl ⟨by simp only [Region.wanted], ?_⟩) hS ?_
  rotate_left
  · intro wz hSw
    clear hSw
    go_simp
    first | done | with_reducible rfl
  try simp only [Act.put, List.setIfInBounds_toArray, List.set_cons_zero, List.set_cons_succ]
  refine wpAnyH_ready (rs := [14]) (by kernel_rfl) (by simp) ?_
  refine AllReadyH.cons (o := ⟨some 87, _, _, _, _, _⟩) rfl (fun K hK => ?_) AllReadyH.nil
  go_simp
  obtain ⟨v1, hr⟩ := hS.1
  refine (tellP r sv S v1 (x) (q.isSome) _ hr).mono ?_
  rintro e' w4 ⟨rfl, hr4, hb4⟩
  have HR4 := Lib.hid hr4
  have HT4 := Lib.hid (show RnP w r sv S w4 from ⟨⟨_, hr4⟩, hS.2.trans hb4⟩)
  clear hr4 hb4 hr
  go_wp2_with fail
  refine hK.out _ _ (HT4.out) (fun hS => ?_)
  clear hK K
  try simp only [Act.put, List.setIfInBounds_toArray, List.set_cons_zero, List.set_cons_succ]
  refine wpAnyH_done (by kernel_rfl) ?_ _
  go_wp2_with fail
  go_ret
  refine ⟨rfl, ?_, hS.2⟩
  have h9 := HR4.out
  rw [opt_tells HXO.out] at h9
  exact h9
end Go.Proofs.YtecomfhbdonkbaaGreatDoor
/- Package value: a run: enter, one that waits. -/
namespace Go.Proofs.YtecomfhbdonkbaaGreatDoor
open Go.RowKit Go.Shelf Flo
set_option maxRecDepth 100000
set_option linter.unusedVariables false
set_option linter.unusedSimpArgs false

theorem stk_push (S : Stk) (x : Frm × Nat × Nat) : S.reverse.map wcOf ++ [wcOf x] = (x :: S).reverse.map wcOf := by simp
set_option maxHeartbeats 1000000 in
theorem enter_push (B r : Nat) (sv : Value) (s : Slt) (S : Stk) (v : Option Tm) (n b o : Nat) (e : Exp) (w : World) (h : RunP w r sv S v) (hB : B ≤ r) (hS : StkP B w S) (hx : XP B w n b o e) (hs : ∀ x ∈ S, SizeOf.sizeOf e < SizeOf.sizeOf x.1.e) (hsol : SolAt B w sv s) (hf : fitsO e.op e.kids.length = true) (h1 : e.op ≠ 1) (h15 : e.op ≠ 15) (hl : S.length < 100) :
    Calls Tryz.prog 27 #[.pointer (some ⟨r, 0, none⟩), .pointer (some ⟨b, o, none⟩)] w fun e' w' => e' = .returned (.bool true) ∧ RunP w' r sv ((⟨n, e, 0, zeroT⟩, b, o) :: S) v ∧ Below r w w' := by
  have HR := Lib.hid h
  have HEN := Lib.hid (endlessP B r sv S v n b o e w h hS hx hs)
  have hx9 := hx
  obtain ⟨hbB, hpl, kv, hxc, hop, hsm, hk⟩ := hx
  obtain ⟨hk1000, kp, cap, rfl⟩ := hk.form
  have HFI := Lib.hid (fun w => fits_same e.op e.kids.length hk1000 w)
  have HRL := Lib.hid (h.lt)
  have HXC := Lib.hid (fun wz (hz : Below r w wz) => hxc.keep (B := r) (Nat.lt_of_lt_of_le hbB hB) hz)
  have HSO := Lib.hid (fun wz (hz : Below r w wz) => And.intro (hsol.keep (hz.mono hB)) (Nat.le_trans hB (Nat.le_trans (Nat.le_of_lt h.lt) hz.size)))
  clear hk hpl hxc hsm h hS hs hsol hx9
  rw [hf] at HFI
  have e1 : (e.op == 1) = false := beq_eq_false_iff_ne.2 h1
  have e15 : (e.op == 15) = false := beq_eq_false_iff_ne.2 h15
  have HY := Lib.hid (stk_push S (⟨n, e, 0, zeroT⟩, b, o))
  clear hf h1 h15
  generalize e.op = op at HFI HXC e1 e15 hop ⊢
  go_enter Tryz.func27, Tryz.ntmps27
  go_wp2_with fail
  refine HEN.out.mono ?_
  rintro e' w1 ⟨rfl, hb1⟩
  have HB1 := Lib.hid (hb1.mono (Nat.le_of_lt HRL.out))
  have HR1 := Lib.hid (HR.out.below hb1)
  obtain ⟨x0, x1, x2, x3, x4, x5⟩ := HXC.out w1 HB1.out
  clear hb1
  go_wp2_with fail
  have HRZ := HR1.out
  go_quiet ((go_at_call 44; exact Calls.quiet_of_same (HFI.out _)))
  have HS2 := Lib.hid (show RnP w r sv S (w1.drewN nq) from ⟨⟨_, HR1.out.below ⟨rfl, rfl, rfl, Nat.le_refl _, fun _ _ => rfl⟩⟩, ⟨HB1.out.os, HB1.out.tape, HB1.out.output, HB1.out.size, HB1.out.block⟩⟩)
  have HR2 := Lib.hid (show RunP (w1.drewN nq) r sv S v from HR1.out.below ⟨rfl, rfl, rfl, Nat.le_refl _, fun _ _ => rfl⟩)
  clear HRZ HR1
  obtain ⟨way, hbk, hown⟩ := HR2.out
  have c1 : (w1.drewN nq).cell? ⟨r, 1, none⟩ = some way := hbk.cell 1
  have HBK := Lib.hid hbk
  have HOW := Lib.hid hown
  have hlt := hbk.lt
  have HSZ := Lib.hid hlt
  have HBW := Lib.hid HS2.out.2
  have HL := Lib.hid hl
  clear hbk hown hl
  go_upto_region 11 with fail
  clear x0 x1 x2 x3 x4 x5
  generalize World.drewN w1 nq = w2 at HBK HOW HBW HSZ hlt c1 ⊢
  clear HS2 HR2
  go_wp2_with (at_builtin; refine wpList_append_g rfl _ _ 66 95 waitC 6 72 _ rfl Tryz.underlying66 Tryz.infoWait rfl (by decide) (by decide) waitC_len waitC_one (r + 1) (Nat.le_trans HSZ.out ((Below.refl w2.heap.size w2).alloc (Nat.le_refl _) _).size) way (S.reverse.map wcOf) rfl (HOW.out.below ((Below.refl _ _).alloc (Nat.le_refl _) _)) w2.heap.size rfl (wcOf (⟨n, e, 0, zeroT⟩, b, o)) (Blk.new w2 (waitC (wcOf (⟨n, e, 0, zeroT⟩, b, o))).toArray 95) (S.length + 1) (by simp) (by have := HL.out; omega) ?_; intro g cap7 w7 ho7 hh1 hh2 hg7 hq7 hlt7; have hb7 : Blk w7 r (runC sv way (v.getD zeroT) v.isSome) 68 := grown_keep hg7 (HBK.out.alloc _) (fun h => by have := (HOW.out.lt r h).1; omega); have f7 := hb7.frozen 1; have k7 : w7.cell? ⟨r, 1, none⟩ = some way := hb7.cell 1; have HB7 := Lib.hid hb7; have HO7 := Lib.hid ho7; have HW7 := Lib.hid ((HBW.out.alloc (Nat.le_of_lt HSZ.out) _).grown hg7 (Nat.le_trans (Nat.le_of_lt HSZ.out) ((Below.refl w2.heap.size w2).alloc (Nat.le_refl _) _).size) (fun q hq => by have := (HOW.out.lt q hq).1; omega)); have hlr := hb7.lt; clear hb7 ho7 hg7 hq7)
  go_ret
  refine ⟨rfl, ⟨.slice (some ⟨g, 0, none⟩) (S.length + 1) cap7, HB7.out.set 1 _, ?_⟩, HW7.out.setCell (Nat.le_refl _) _⟩
  rw [← HY.out]
  refine HO7.out.moved ((Moved.refl (fun k => k = r) w7).setCell _ _ (.inl rfl)) (fun q hq => ?_)
  have := (HO7.out.lt q hq).1
  omega
end Go.Proofs.YtecomfhbdonkbaaGreatDoor
/- Package value: a run: choose. -/
namespace Go.Proofs.YtecomfhbdonkbaaGreatDoor
open Go.RowKit Go.Shelf Flo
set_option maxRecDepth 100000
set_option linter.unusedVariables false
set_option linter.unusedSimpArgs false

def chK (v : Option Tm) : Nat := match v.bind truthO with
  | none => 0
  | some true => 1
  | some false => 2
def chV (v : Option Tm) : Option Tm := match v.bind truthO with
  | none => none
  | some _ => v
theorem truth_get (v : Option Tm) : truthO (v.getD zeroT) = v.bind truthO := by
  cases v with
  | none => decide +kernel
  | some x => rfl
theorem RunP.told {w : World} {r : Nat} {sv : Value} {S : Stk} {v : Option Tm} (h : RunP w r sv S v) : w.cell? ⟨r, 2, none⟩ = some (.int .i64 (v.getD zeroT).k) ∧ w.cell? ⟨r, 3, none⟩ = some (.string (v.getD zeroT).s) ∧ w.cell? ⟨r, 4, none⟩ = some (.string (v.getD zeroT).l) ∧ w.cell? ⟨r, 5, none⟩ = some (.string (v.getD zeroT).t) ∧ w.cell? ⟨r, 6, none⟩ = some (.bool v.isSome) := by
  obtain ⟨way, h, -⟩ := h
  exact ⟨h.cell 2, h.cell 3, h.cell 4, h.cell 5, h.cell 6⟩
set_option maxHeartbeats 1000000 in
theorem choose_any (r : Nat) (sv : Value) (S : Stk) (v : Option Tm) (hv : (v.getD zeroT).Sm) (w : World) (h : RunP w r sv S v) :
    Calls Tryz.prog 69 #[.pointer (some ⟨r, 0, none⟩)] w fun e' w' => e' = .returned (.int .i64 (chK v : Int)) ∧ RunP w' r sv S (chV v) ∧ Below r w w' := by
  have HR := Lib.hid h
  have HRL := Lib.hid h.lt
  have HT := Lib.hid (fun w => truth_any (v.getD zeroT) hv w)
  have hu := truth_get v
  obtain ⟨c2, c3, c4, c5, c6⟩ := h.told
  unfold Tm.val at HT
  rw [hu] at HT
  have HK := Lib.hid (show chK v = _ from rfl)
  have HV := Lib.hid (show chV v = _ from rfl)
  unfold chK chV
  obtain ⟨o, ho⟩ : ∃ o, o = v.bind truthO := ⟨_, rfl⟩
  rw [← ho] at HT ⊢
  generalize v.getD zeroT = t at *
  clear h hv hu ho HK HV
  go_enter Tryz.func69, Tryz.ntmps69
  go_wp2_with fail
  refine (HT.out _).mono ?_
  rintro e' w1 ⟨rfl, hb1⟩
  have HR1 := Lib.hid (HR.out.below hb1)
  have HB1 := Lib.hid (hb1.mono (Nat.le_of_lt HRL.out))
  clear hb1
  unfold twoB
  cases o with
  | none =>
    go_wp2_with fail
    refine (tellP r sv S v zeroT false _ HR1.out).mono ?_
    rintro e' w3 ⟨rfl, hr3, hb3⟩
    have HR3 := Lib.hid hr3
    have HB3 := Lib.hid (HB1.out.trans hb3)
    clear hr3 hb3
    go_wp2_with fail
    go_ret
    exact ⟨rfl, HR3.out, HB3.out⟩
  | some x =>
    cases x with
    | true =>
      go_wp2_with fail
      go_ret
      exact ⟨rfl, HR1.out, HB1.out⟩
    | false =>
      go_wp2_with fail
      go_ret
      exact ⟨rfl, HR1.out, HB1.out⟩
end Go.Proofs.YtecomfhbdonkbaaGreatDoor
/- Package value: a run: next. -/
namespace Go.Proofs.YtecomfhbdonkbaaGreatDoor
open Go.RowKit Go.Shelf Flo
set_option maxRecDepth 100000
set_option linter.unusedVariables false
set_option linter.unusedSimpArgs false

/-- A run on its way, its row given. -/
def RunW (w : World) (r : Nat) (sv way : Value) (S : Stk) (v : Option Tm) : Prop := Blk w r (runC sv way (v.getD zeroT) v.isSome) 68 ∧ OwW w (r + 1) way (S.reverse.map wcOf)
theorem RunW.runP {w : World} {r : Nat} {sv way : Value} {S : Stk} {v : Option Tm} (h : RunW w r sv way S v) : RunP w r sv S v := ⟨way, h⟩
theorem RunW.below {w w' : World} {r : Nat} {sv way : Value} {S : Stk} {v : Option Tm} (h : RunW w r sv way S v) (hb : Below w.heap.size w w') : RunW w' r sv way S v :=
  ⟨h.1.moved (Moved.of_below hb (fun _ => False)) (fun h => h), h.2.below hb⟩
theorem RunW.lt {w : World} {r : Nat} {sv way : Value} {S : Stk} {v : Option Tm} (h : RunW w r sv way S v) : r < w.heap.size := h.1.lt
theorem tellW (r : Nat) (sv way : Value) (S : Stk) (v : Option Tm) (x : Tm) (ok : Bool) (w : World) (h : RunW w r sv way S v) :
    Calls Tryz.prog 45 #[.pointer (some ⟨r, 0, none⟩), x.val, .bool ok] w fun e w' => e = .returned (.tuple #[]) ∧ RunW w' r sv way S (if ok then some x else none) ∧ Below r w w' := by
  obtain ⟨h1, h2⟩ := h
  refine (tell_any r sv way (v.getD zeroT) x v.isSome ok w h1).mono ?_
  rintro e w' ⟨rfl, g1, g2⟩
  obtain ⟨e1, e2⟩ := toldT_eq x ok
  refine ⟨rfl, ⟨?_, h2.moved g2 (fun q hq => ?_)⟩, g2.below (fun j hj => by rw [hj]; exact Nat.le_refl _) (Nat.le_of_lt h1.lt)⟩
  · rw [← e1, ← e2]; exact g1
  · have := (h2.lt q hq).1
    omega
/-- The last one that waits, as it lies. -/
theorem RunW.last {w : World} {r : Nat} {sv way : Value} {S : Stk} {x : Frm × Nat × Nat} {v : Option Tm} (h : RunW w r sv way (x :: S) v) :
    ∃ g cap, way = .slice (some ⟨g, 0, none⟩) (S.length + 1) cap ∧ r < g ∧ g < w.heap.size ∧ S.length + 1 ≤ cap ∧ cap ≤ 9223372036854775807 ∧ (∀ j, w.frozen? ⟨g, j, none⟩ = false) ∧ ∀ i u, (waitC (wcOf x))[i]? = some u → w.cell? ⟨g, S.length * 6 + i, none⟩ = some u := by
  have hl : ((x :: S).reverse.map wcOf).length = S.length + 1 := by simp
  obtain ⟨g, cap, e, h1, h2, h3, h4, h5, h6⟩ := OwG.at h.2 waitC_len (by rw [hl]; omega)
  rw [hl] at e h3
  refine ⟨g, cap, e, h1, h2, h3, h4, h5, fun i u hu => h6 S.length (by rw [hl]; omega) i u ?_⟩
  have : ((x :: S).reverse.map wcOf)[S.length]'(by rw [hl]; omega) = wcOf x := by simp
  rw [this]
  exact hu
/-- Where the run tells as much as v, and way is its row. -/
def NextP (x : Frm) (b o : Nat) (S : Stk) (r : Nat) (sv way : Value) (v : Option Tm) (w : World) (e' : Ending) (w' : World) : Prop :=
  e' = .returned (.int .i64 (nextK x v : Int)) ∧ ∃ f' v', RunW w' r sv way ((⟨x.n, x.e, x.k + 1, f'⟩, b, o) :: S) v' ∧ Below r w w' ∧ (nextK x v = 0 → v' = doneV x v) ∧ (nextK x v ≠ 0 → f' = nextF x v)
theorem isNone_false {v : Option Tm} (h : v.isSome = true) : ¬ v.isNone = true := by cases v <;> simp at h ⊢
set_option maxHeartbeats 1000000 in
theorem next_coal (B r : Nat) (sv : Value) (S : Stk) (v : Option Tm) (n k : Nat) (e : Exp) (f : Tm) (b o g cap m : Nat) (w : World) (h : RunW w r sv (.slice (some ⟨g, 0, none⟩) (S.length + 1) cap) ((⟨n, e, k + 1, f⟩, b, o) :: S) v) (hB : B ≤ r) (hx : XP B w m b o e) (hok : (⟨n, e, k, f⟩ : Frm).Ok) (hk9 : k ≤ 1000) (h26 : e.op = 26) :
    Calls Tryz.prog 49 #[.pointer (some ⟨r, 0, none⟩), .pointer (some ⟨g, S.length * 6, none⟩)] w fun e' w' => NextP ⟨n, e, k, f⟩ b o S r sv (.slice (some ⟨g, 0, none⟩) (S.length + 1) cap) v w e' w' := by
  have HR := Lib.hid h
  have HRL := Lib.hid h.lt
  obtain ⟨g', cap', eg, hg1, hg2, hc1, hc2, hfz, hcl⟩ := h.last
  simp only [Value.slice.injEq, Option.some.injEq, Addr.mk.injEq, and_true, true_and] at eg
  obtain ⟨rfl, rfl⟩ := eg
  have q0 : w.cell? ⟨g, S.length * 6, none⟩ = some (.pointer (some ⟨b, o, none⟩)) := hcl 0 _ rfl
  have q1 : w.cell? ⟨g, S.length * 6 + 1, none⟩ = some (.int .i64 ((k + 1 : Nat) : Int)) := hcl 1 _ rfl
  rw [Int.natCast_add, Int.natCast_one] at q1
  obtain ⟨c2, c3, c4, c5, c6⟩ := h.runP.told
  obtain ⟨hbB, hpl, kv, hxc, hop, hsm, hk⟩ := hx
  obtain ⟨hk1000, kp, kcap, rfl⟩ := hk.form
  obtain ⟨x0, x1, x2, x3, x4, x5⟩ := hxc
  have e26 : (e.op == 26) = true := beq_iff_eq.2 h26
  have HK := Lib.hid (show nextK ⟨n, e, k, f⟩ v = if v.isNone = true ∧ k + 1 < e.kids.length then k + 1 else 0 from if_pos h26)
  have HF := Lib.hid (show nextF ⟨n, e, k, f⟩ v = f from if_pos (.inl h26))
  have HD := Lib.hid (show doneV ⟨n, e, k, f⟩ v = v from if_pos h26)
  have HQ := Lib.hid (fun (z : Int) (hz : z = (nextK ⟨n, e, k, f⟩ v : Int)) (w' : World) (hw : RunW w' r sv (.slice (some ⟨g, 0, none⟩) (S.length + 1) cap) ((⟨n, e, k + 1, f⟩, b, o) :: S) v) (hb : Below r w w') => show NextP ⟨n, e, k, f⟩ b o S r sv (.slice (some ⟨g, 0, none⟩) (S.length + 1) cap) v w (.returned (.int .i64 z)) w' from ⟨by rw [hz], f, v, hw, hb, fun _ => HD.out.symm, fun _ => HF.out.symm⟩)
  generalize e.op = op at e26 x0
  clear h26 hok
  cases v with
  | some y =>
    have c6' : w.cell? ⟨r, 6, none⟩ = some (.bool true) := c6
    clear c6
    clear h hk hpl hsm hop hcl hfz
    go_enter Tryz.func49, Tryz.ntmps49
    go_wp2_with fail
    go_quiet (fail)
    go_wp2_with fail
    go_ret
    exact HQ.out _ (by rw [HK.out, if_neg (by simp)]; rfl) _ (HR.out.below ⟨rfl, rfl, rfl, Nat.le_refl _, fun _ _ => rfl⟩) ⟨rfl, rfl, rfl, Nat.le_refl _, fun _ _ => rfl⟩
  | none =>
    have c6' : w.cell? ⟨r, 6, none⟩ = some (.bool false) := c6
    clear c6
    by_cases hlt : k + 1 < e.kids.length
    · have hd : decide ((k : Int) + 1 < (e.kids.length : Int)) = true := decide_eq_true (by omega)
      clear h hk hpl hsm hop hcl hfz
      go_enter Tryz.func49, Tryz.ntmps49
      go_wp2_with fail
      go_quiet (fail)
      go_wp2_with fail
      go_ret
      exact HQ.out _ (by rw [HK.out, if_pos ⟨rfl, hlt⟩]; rfl) _ (HR.out.below ⟨rfl, rfl, rfl, Nat.le_refl _, fun _ _ => rfl⟩) ⟨rfl, rfl, rfl, Nat.le_refl _, fun _ _ => rfl⟩
    · have hd : decide ((k : Int) + 1 < (e.kids.length : Int)) = false := decide_eq_false (by omega)
      clear h hk hpl hsm hop hcl hfz
      go_enter Tryz.func49, Tryz.ntmps49
      go_wp2_with fail
      go_quiet (fail)
      go_wp2_with fail
      go_ret
      exact HQ.out _ (by rw [HK.out, if_neg (fun h => hlt h.2)]; rfl) _ (HR.out.below ⟨rfl, rfl, rfl, Nat.le_refl _, fun _ _ => rfl⟩) ⟨rfl, rfl, rfl, Nat.le_refl _, fun _ _ => rfl⟩
end Go.Proofs.YtecomfhbdonkbaaGreatDoor
/- Package value: a run: next, further. -/
namespace Go.Proofs.YtecomfhbdonkbaaGreatDoor
open Go.RowKit Go.Shelf Flo
set_option maxRecDepth 100000
set_option linter.unusedVariables false
set_option linter.unusedSimpArgs false

theorem ch_zero {v : Option Tm} (h : chK v = 0) : chV v = none := by
  unfold chK at h
  unfold chV
  split at h
  · rename_i h1; rw [h1]
  · cases h
  · cases h
set_option maxHeartbeats 1000000 in
theorem chooseW (r : Nat) (sv way : Value) (S : Stk) (v : Option Tm) (hv : (v.getD zeroT).Sm) (w : World) (h : RunW w r sv way S v) :
    Calls Tryz.prog 69 #[.pointer (some ⟨r, 0, none⟩)] w fun e' w' => e' = .returned (.int .i64 (chK v : Int)) ∧ RunW w' r sv way S (chV v) ∧ Below r w w' := by
  have HR := Lib.hid h
  have HRL := Lib.hid h.lt
  have HT := Lib.hid (fun w => truth_any (v.getD zeroT) hv w)
  have hu := truth_get v
  obtain ⟨c2, c3, c4, c5, c6⟩ := h.runP.told
  unfold Tm.val at HT
  rw [hu] at HT
  have HK := Lib.hid (show chK v = _ from rfl)
  have HV := Lib.hid (show chV v = _ from rfl)
  unfold chK chV
  obtain ⟨o, ho⟩ : ∃ o, o = v.bind truthO := ⟨_, rfl⟩
  rw [← ho] at HT ⊢
  generalize v.getD zeroT = t at *
  clear h hv hu ho HK HV
  go_enter Tryz.func69, Tryz.ntmps69
  go_wp2_with fail
  refine (HT.out _).mono ?_
  rintro e' w1 ⟨rfl, hb1⟩
  have HR1 := Lib.hid (HR.out.below hb1)
  have HB1 := Lib.hid (hb1.mono (Nat.le_of_lt HRL.out))
  clear hb1
  unfold twoB
  cases o with
  | none =>
    go_wp2_with fail
    refine (tellW r sv way S v zeroT false _ HR1.out).mono ?_
    rintro e' w3 ⟨rfl, hr3, hb3⟩
    have HR3 := Lib.hid hr3
    have HB3 := Lib.hid (HB1.out.trans hb3)
    clear hr3 hb3
    go_wp2_with fail
    go_ret
    exact ⟨rfl, HR3.out, HB3.out⟩
  | some x =>
    cases x with
    | true =>
      go_wp2_with fail
      go_ret
      exact ⟨rfl, HR1.out, HB1.out⟩
    | false =>
      go_wp2_with fail
      go_ret
      exact ⟨rfl, HR1.out, HB1.out⟩
set_option maxHeartbeats 1000000 in
theorem next_if (B r : Nat) (sv : Value) (S : Stk) (v : Option Tm) (n k : Nat) (e : Exp) (f : Tm) (b o g cap m : Nat) (w : World) (h : RunW w r sv (.slice (some ⟨g, 0, none⟩) (S.length + 1) cap) ((⟨n, e, k + 1, f⟩, b, o) :: S) v) (hB : B ≤ r) (hx : XP B w m b o e) (hok : (⟨n, e, k, f⟩ : Frm).Ok) (hk9 : k ≤ 1000) (h25 : e.op = 25) (hv : (v.getD zeroT).Sm) :
    Calls Tryz.prog 49 #[.pointer (some ⟨r, 0, none⟩), .pointer (some ⟨g, S.length * 6, none⟩)] w fun e' w' => NextP ⟨n, e, k, f⟩ b o S r sv (.slice (some ⟨g, 0, none⟩) (S.length + 1) cap) v w e' w' := by
  have HR := Lib.hid h
  have HRL := Lib.hid h.lt
  obtain ⟨g', cap', eg, hg1, hg2, hc1, hc2, hfz, hcl⟩ := h.last
  simp only [Value.slice.injEq, Option.some.injEq, Addr.mk.injEq, and_true, true_and] at eg
  obtain ⟨rfl, rfl⟩ := eg
  have q0 : w.cell? ⟨g, S.length * 6, none⟩ = some (.pointer (some ⟨b, o, none⟩)) := hcl 0 _ rfl
  have q1 : w.cell? ⟨g, S.length * 6 + 1, none⟩ = some (.int .i64 ((k + 1 : Nat) : Int)) := hcl 1 _ rfl
  rw [Int.natCast_add, Int.natCast_one] at q1
  obtain ⟨c2, c3, c4, c5, c6⟩ := h.runP.told
  obtain ⟨hbB, hpl, kv, hxc, hop, hsm, hk⟩ := hx
  obtain ⟨hk1000, kp, kcap, rfl⟩ := hk.form
  obtain ⟨x0, x1, x2, x3, x4, x5⟩ := hxc
  have e26 : (e.op == 26) = false := beq_eq_false_iff_ne.2 (by rw [h25]; decide)
  have e25 : (e.op == 25) = true := beq_iff_eq.2 h25
  have h26 : ¬ e.op = 26 := by rw [h25]; decide
  have HK := Lib.hid (show nextK ⟨n, e, k, f⟩ v = if k = 0 then chK v else 0 from (if_neg h26).trans (if_pos h25))
  have HF := Lib.hid (show nextF ⟨n, e, k, f⟩ v = f from if_pos (.inr h25))
  have HD := Lib.hid (show doneV ⟨n, e, k, f⟩ v = if k = 0 then none else v from (if_neg h26).trans (if_pos h25))
  by_cases hk0 : k = 0
  · subst hk0
    have HK0 := Lib.hid (HK.out.trans (if_pos rfl))
    have HD0 := Lib.hid (HD.out.trans (if_pos rfl))
    have HC := Lib.hid (fun w h => chooseW r sv (.slice (some ⟨g, 0, none⟩) (S.length + 1) cap) ((⟨n, e, 0 + 1, f⟩, b, o) :: S) v hv w h)
    have q1' : w.cell? ⟨g, S.length * 6 + 1, none⟩ = some (.int .i64 1) := q1
    clear q1
    have HQ := Lib.hid (fun (z : Int) (hz : z = (nextK ⟨n, e, 0, f⟩ v : Int)) (w' : World) (hw : RunW w' r sv (.slice (some ⟨g, 0, none⟩) (S.length + 1) cap) ((⟨n, e, 0 + 1, f⟩, b, o) :: S) (chV v)) (hb : Below r w w') => show NextP ⟨n, e, 0, f⟩ b o S r sv (.slice (some ⟨g, 0, none⟩) (S.length + 1) cap) v w (.returned (.int .i64 z)) w' from ⟨by rw [hz], f, chV v, hw, hb, fun h => (ch_zero (HK0.out.symm.trans h)).trans HD0.out.symm, fun _ => HF.out.symm⟩)
    generalize e.op = op at e26 e25 x0
    clear h26 h25 hok hv
    clear h hk hpl hsm hop hcl hfz
    go_enter Tryz.func49, Tryz.ntmps49
    go_wp2_with fail
    go_quiet (fail)
    go_wp2_with fail
    refine (HC.out (w.drewN _) (HR.out.below ⟨rfl, rfl, rfl, Nat.le_refl _, fun _ _ => rfl⟩)).mono ?_
    rintro e' w1 ⟨rfl, hr1, hb1⟩
    have HX := Lib.hid (HQ.out (chK v : Int) (by rw [HK0.out]) w1 hr1 ⟨hb1.os, hb1.tape, hb1.output, hb1.size, hb1.block⟩)
    clear hr1 hb1
    go_wp2_with fail
    go_ret
    exact HX.out
  · have hd : ((k : Int) + 1 == 1) = false := beq_eq_false_iff_ne.2 (by omega)
    have HQ := Lib.hid (fun (z : Int) (hz : z = (nextK ⟨n, e, k, f⟩ v : Int)) (w' : World) (hw : RunW w' r sv (.slice (some ⟨g, 0, none⟩) (S.length + 1) cap) ((⟨n, e, k + 1, f⟩, b, o) :: S) (v)) (hb : Below r w w') => show NextP ⟨n, e, k, f⟩ b o S r sv (.slice (some ⟨g, 0, none⟩) (S.length + 1) cap) v w (.returned (.int .i64 z)) w' from ⟨by rw [hz], f, v, hw, hb, fun _ => by rw [HD.out, if_neg hk0], fun _ => HF.out.symm⟩)
    generalize e.op = op at e26 e25 x0
    clear h26 h25 hok hv
    clear h hk hpl hsm hop hcl hfz
    go_enter Tryz.func49, Tryz.ntmps49
    go_wp2_with fail
    go_quiet (fail)
    go_wp2_with fail
    go_ret
    exact HQ.out _ (by rw [HK.out, if_neg hk0]; rfl) _ (HR.out.below ⟨rfl, rfl, rfl, Nat.le_refl _, fun _ _ => rfl⟩) ⟨rfl, rfl, rfl, Nat.le_refl _, fun _ _ => rfl⟩
set_option maxHeartbeats 1000000 in
theorem next_stay (B r : Nat) (sv : Value) (S : Stk) (v : Option Tm) (n k : Nat) (e : Exp) (f : Tm) (b o g cap m : Nat) (w : World) (h : RunW w r sv (.slice (some ⟨g, 0, none⟩) (S.length + 1) cap) ((⟨n, e, k + 1, f⟩, b, o) :: S) v) (hB : B ≤ r) (hx : XP B w m b o e) (hok : (⟨n, e, k, f⟩ : Frm).Ok) (hk9 : k ≤ 1000) (h26 : e.op ≠ 26) (h25 : e.op ≠ 25) (h2 : e.op ≠ 2) (h3 : e.op ≠ 3) (hv : v = none) :
    Calls Tryz.prog 49 #[.pointer (some ⟨r, 0, none⟩), .pointer (some ⟨g, S.length * 6, none⟩)] w fun e' w' => NextP ⟨n, e, k, f⟩ b o S r sv (.slice (some ⟨g, 0, none⟩) (S.length + 1) cap) v w e' w' := by
  subst hv
  have HR := Lib.hid h
  have HRL := Lib.hid h.lt
  obtain ⟨g', cap', eg, hg1, hg2, hc1, hc2, hfz, hcl⟩ := h.last
  simp only [Value.slice.injEq, Option.some.injEq, Addr.mk.injEq, and_true, true_and] at eg
  obtain ⟨rfl, rfl⟩ := eg
  have q0 : w.cell? ⟨g, S.length * 6, none⟩ = some (.pointer (some ⟨b, o, none⟩)) := hcl 0 _ rfl
  have q1 : w.cell? ⟨g, S.length * 6 + 1, none⟩ = some (.int .i64 ((k + 1 : Nat) : Int)) := hcl 1 _ rfl
  rw [Int.natCast_add, Int.natCast_one] at q1
  obtain ⟨c2, c3, c4, c5, c6⟩ := h.runP.told
  obtain ⟨hbB, hpl, kv, hxc, hop, hsm, hk⟩ := hx
  obtain ⟨hk1000, kp, kcap, rfl⟩ := hk.form
  obtain ⟨x0, x1, x2, x3, x4, x5⟩ := hxc
  have e26 : (e.op == 26) = false := beq_eq_false_iff_ne.2 h26
  have e25 : (e.op == 25) = false := beq_eq_false_iff_ne.2 h25
  have e2 : (e.op == 2) = false := beq_eq_false_iff_ne.2 h2
  have e3 : (e.op == 3) = false := beq_eq_false_iff_ne.2 h3
  have n2 : (e.op != 2) = true := bne_iff_ne.2 h2
  have n3 : (e.op != 3) = true := bne_iff_ne.2 h3
  have hc : (none : Option Tm).isNone = true ∧ ¬ (e.op = 2 ∨ e.op = 3) := ⟨rfl, fun h => h.elim h2 h3⟩
  have HK := Lib.hid (show nextK ⟨n, e, k, f⟩ none = 0 from (if_neg h26).trans ((if_neg h25).trans (if_pos hc)))
  have HD := Lib.hid (show doneV ⟨n, e, k, f⟩ none = none from (if_neg h26).trans ((if_neg h25).trans (if_pos hc)))
  have c6' : w.cell? ⟨r, 6, none⟩ = some (.bool false) := c6
  clear c6
  have HQ := Lib.hid (fun (z : Int) (hz : z = (nextK ⟨n, e, k, f⟩ none : Int)) (w' : World) (hw : RunW w' r sv (.slice (some ⟨g, 0, none⟩) (S.length + 1) cap) ((⟨n, e, k + 1, f⟩, b, o) :: S) (none)) (hb : Below r w w') => show NextP ⟨n, e, k, f⟩ b o S r sv (.slice (some ⟨g, 0, none⟩) (S.length + 1) cap) none w (.returned (.int .i64 z)) w' from ⟨by rw [hz], f, none, hw, hb, fun _ => HD.out.symm, fun h => absurd HK.out h⟩)
  generalize e.op = op at e26 e25 e2 e3 n2 n3 x0
  clear h26 h25 h2 h3 hok hc
  clear h hk hpl hsm hop hcl hfz
  go_enter Tryz.func49, Tryz.ntmps49
  go_wp2_with fail
  go_quiet (fail)
  go_wp2_with fail
  go_ret
  exact HQ.out _ (by rw [HK.out]; rfl) _ (HR.out.below ⟨rfl, rfl, rfl, Nat.le_refl _, fun _ _ => rfl⟩) ⟨rfl, rfl, rfl, Nat.le_refl _, fun _ _ => rfl⟩
end Go.Proofs.YtecomfhbdonkbaaGreatDoor
/- Package value: a run: next, one and two. -/
namespace Go.Proofs.YtecomfhbdonkbaaGreatDoor
open Go.RowKit Go.Shelf Flo
set_option maxRecDepth 100000
set_option linter.unusedVariables false
set_option linter.unusedSimpArgs false

set_option maxHeartbeats 1000000 in
theorem next_one (B r : Nat) (sv : Value) (S : Stk) (v : Option Tm) (n k : Nat) (e : Exp) (f : Tm) (b o g cap m : Nat) (w : World) (h : RunW w r sv (.slice (some ⟨g, 0, none⟩) (S.length + 1) cap) ((⟨n, e, k + 1, f⟩, b, o) :: S) v) (hB : B ≤ r) (hx : XP B w m b o e) (hok : (⟨n, e, k, f⟩ : Frm).Ok) (hk9 : k ≤ 1000) (h26 : e.op ≠ 26) (h25 : e.op ≠ 25) (hop1 : e.op = 4 ∨ e.op = 14 ∨ e.op = 16 ∨ e.op = 17 ∨ e.op = 18 ∨ e.op = 20 ∨ e.op = 21 ∨ e.op = 22 ∨ e.op = 23) (hl1 : e.kids.length = 1) (y : Tm) (hv : v = some y) (hy : y.Sm) (hY : TabP w) :
    Calls Tryz.prog 49 #[.pointer (some ⟨r, 0, none⟩), .pointer (some ⟨g, S.length * 6, none⟩)] w fun e' w' => NextP ⟨n, e, k, f⟩ b o S r sv (.slice (some ⟨g, 0, none⟩) (S.length + 1) cap) v w e' w' := by
  subst hv
  have HR := Lib.hid h
  have HRL := Lib.hid h.lt
  obtain ⟨g', cap', eg, hg1, hg2, hc1, hc2, hfz, hcl⟩ := h.last
  simp only [Value.slice.injEq, Option.some.injEq, Addr.mk.injEq, and_true, true_and] at eg
  obtain ⟨rfl, rfl⟩ := eg
  have q0 : w.cell? ⟨g, S.length * 6, none⟩ = some (.pointer (some ⟨b, o, none⟩)) := hcl 0 _ rfl
  have q1 : w.cell? ⟨g, S.length * 6 + 1, none⟩ = some (.int .i64 ((k + 1 : Nat) : Int)) := hcl 1 _ rfl
  rw [Int.natCast_add, Int.natCast_one] at q1
  obtain ⟨c2, c3, c4, c5, c6⟩ := h.runP.told
  obtain ⟨hbB, hpl, kv, hxc, hop, hsm, hk⟩ := hx
  obtain ⟨hk1000, kp, kcap, rfl⟩ := hk.form
  obtain ⟨x0, x1, x2, x3, x4, x5⟩ := hxc
  have e26 : (e.op == 26) = false := beq_eq_false_iff_ne.2 h26
  have e25 : (e.op == 25) = false := beq_eq_false_iff_ne.2 h25
  have el : ((e.kids.length : Int) == 1) = true := beq_iff_eq.2 (by omega)
  have HK := Lib.hid (show nextK ⟨n, e, k, f⟩ (some y) = 0 from (if_neg h26).trans ((if_neg h25).trans ((if_neg (by simp)).trans (if_pos hl1))))
  have HD := Lib.hid (show doneV ⟨n, e, k, f⟩ (some y) = oneO e.op y from (if_neg h26).trans ((if_neg h25).trans ((if_neg (by simp)).trans (if_pos hl1))))
  obtain ⟨q, hq⟩ : ∃ q, q = oneO e.op y := ⟨_, rfl⟩
  have HO := Lib.hid (fun wz (hz : TabP wz) => one_any e.op hop1 y hy wz hz)
  rw [← hq] at HO HD
  unfold Tm.val at HO
  have HY := Lib.hid hY
  have c6' : w.cell? ⟨r, 6, none⟩ = some (.bool true) := c6
  have d2 : w.cell? ⟨r, 2, none⟩ = some (.int .i64 y.k) := c2
  have d3 : w.cell? ⟨r, 3, none⟩ = some (.string y.s) := c3
  have d4 : w.cell? ⟨r, 4, none⟩ = some (.string y.l) := c4
  have d5 : w.cell? ⟨r, 5, none⟩ = some (.string y.t) := c5
  clear c6 c2 c3 c4 c5
  have HQ := Lib.hid (fun (z : Int) (hz : z = (nextK ⟨n, e, k, f⟩ (some y) : Int)) (w' : World) (hw : RunW w' r sv (.slice (some ⟨g, 0, none⟩) (S.length + 1) cap) ((⟨n, e, k + 1, f⟩, b, o) :: S) (q)) (hb : Below r w w') => show NextP ⟨n, e, k, f⟩ b o S r sv (.slice (some ⟨g, 0, none⟩) (S.length + 1) cap) (some y) w (.returned (.int .i64 z)) w' from ⟨by rw [hz], f, q, hw, hb, fun _ => HD.out.symm, fun h => absurd HK.out h⟩)
  have hxq := hq
  clear hq hxq
  generalize e.op = op at e26 e25 HO x0
  clear h26 h25 hop1 hok hl1 hy hY
  clear h hk hpl hsm hop hcl hfz
  go_enter Tryz.func49, Tryz.ntmps49
  go_wp2_with fail
  go_quiet (fail)
  go_wp2_with fail
  refine (HO.out (w.drewN _) (HY.out.below ⟨rfl, rfl, rfl, Nat.le_refl _, fun _ _ => rfl⟩)).mono ?_
  rintro e' w1 ⟨⟨x, rfl, hxo⟩, hb1⟩
  have HX := Lib.hid hxo
  have HR1 := Lib.hid ((HR.out.below (w' := w.drewN nq) ⟨rfl, rfl, rfl, Nat.le_refl _, fun _ _ => rfl⟩).below hb1)
  have HB1 := Lib.hid (show Below r w w1 from ⟨hb1.os, hb1.tape, hb1.output, hb1.size, fun j hj => hb1.block j (Nat.lt_trans hj HRL.out)⟩)
  clear hxo hb1
  go_wp2_with fail
  refine (tellW r sv (.slice (some ⟨g, 0, none⟩) (S.length + 1) cap) ((⟨n, e, k + 1, f⟩, b, o) :: S) (some y) x q.isSome _ HR1.out).mono ?_
  rintro e' w3 ⟨rfl, hr3, hb3⟩
  rw [opt_tells HX.out] at hr3
  have HX3 := Lib.hid (HQ.out 0 (by rw [HK.out]; rfl) w3 hr3 (HB1.out.trans hb3))
  clear hr3 hb3
  go_wp2_with fail
  go_ret
  exact HX3.out
/-- The first one told, laid by. -/
theorem first_stored (r : Nat) (sv : Value) (S : Stk) (v : Option Tm) (n : Nat) (e : Exp) (f : Tm) (b o g cap : Nat) (w : World) (h : RunW w r sv (.slice (some ⟨g, 0, none⟩) (S.length + 1) cap) ((⟨n, e, 0 + 1, f⟩, b, o) :: S) v) (hg : r < g) :
    RunW ((((w.setCell ⟨g, S.length * 6 + 2, none⟩ (.int .i64 (v.getD zeroT).k)).setCell ⟨g, S.length * 6 + 3, none⟩ (.string (v.getD zeroT).s)).setCell ⟨g, S.length * 6 + 4, none⟩ (.string (v.getD zeroT).l)).setCell ⟨g, S.length * 6 + 5, none⟩ (.string (v.getD zeroT).t)) r sv (.slice (some ⟨g, 0, none⟩) (S.length + 1) cap) ((⟨n, e, 0 + 1, v.getD zeroT⟩, b, o) :: S) v ∧
    Below r w ((((w.setCell ⟨g, S.length * 6 + 2, none⟩ (.int .i64 (v.getD zeroT).k)).setCell ⟨g, S.length * 6 + 3, none⟩ (.string (v.getD zeroT).s)).setCell ⟨g, S.length * 6 + 4, none⟩ (.string (v.getD zeroT).l)).setCell ⟨g, S.length * 6 + 5, none⟩ (.string (v.getD zeroT).t)) := by
  obtain ⟨h1, h2⟩ := h
  have hne : r ≠ g := by omega
  rw [← stk_push] at h2
  obtain ⟨a1, b1⟩ := OwG.setLast (a' := ⟨b, o, 1, ⟨(v.getD zeroT).k, f.s, f.l, f.t⟩⟩) h2 waitC_len 2 (S.length * 6 + 2) (.int .i64 (v.getD zeroT).k) rfl (by simp)
  obtain ⟨a2, b2⟩ := OwG.setLast (a' := ⟨b, o, 1, ⟨(v.getD zeroT).k, (v.getD zeroT).s, f.l, f.t⟩⟩) a1 waitC_len 3 (S.length * 6 + 3) (.string (v.getD zeroT).s) rfl (by simp)
  obtain ⟨a3, b3⟩ := OwG.setLast (a' := ⟨b, o, 1, ⟨(v.getD zeroT).k, (v.getD zeroT).s, (v.getD zeroT).l, f.t⟩⟩) a2 waitC_len 4 (S.length * 6 + 4) (.string (v.getD zeroT).l) rfl (by simp)
  obtain ⟨a4, b4⟩ := OwG.setLast (a' := ⟨b, o, 1, v.getD zeroT⟩) a3 waitC_len 5 (S.length * 6 + 5) (.string (v.getD zeroT).t) rfl (by simp)
  refine ⟨⟨(((h1.other _ _ hne).other _ _ hne).other _ _ hne).other _ _ hne, ?_⟩, ((((Below.refl r w).setCell (Nat.le_of_lt hg) _).setCell (Nat.le_of_lt hg) _).setCell (Nat.le_of_lt hg) _).setCell (Nat.le_of_lt hg) _⟩
  rw [← stk_push]
  exact a4
set_option maxHeartbeats 1000000 in
theorem next_first (B r : Nat) (sv : Value) (S : Stk) (v : Option Tm) (n k : Nat) (e : Exp) (f : Tm) (b o g cap m : Nat) (w : World) (h : RunW w r sv (.slice (some ⟨g, 0, none⟩) (S.length + 1) cap) ((⟨n, e, k + 1, f⟩, b, o) :: S) v) (hB : B ≤ r) (hx : XP B w m b o e) (hok : (⟨n, e, k, f⟩ : Frm).Ok) (hk9 : k ≤ 1000) (h26 : e.op ≠ 26) (h25 : e.op ≠ 25) (hl1 : e.kids.length ≠ 1) (hk0 : k = 0) (hc : ¬ (v.isNone = true ∧ ¬ (e.op = 2 ∨ e.op = 3))) :
    Calls Tryz.prog 49 #[.pointer (some ⟨r, 0, none⟩), .pointer (some ⟨g, S.length * 6, none⟩)] w fun e' w' => NextP ⟨n, e, k, f⟩ b o S r sv (.slice (some ⟨g, 0, none⟩) (S.length + 1) cap) v w e' w' := by
  subst hk0
  have HR := Lib.hid h
  have HRL := Lib.hid h.lt
  obtain ⟨g', cap', eg, hg1, hg2, hc1, hc2, hfz, hcl⟩ := h.last
  simp only [Value.slice.injEq, Option.some.injEq, Addr.mk.injEq, and_true, true_and] at eg
  obtain ⟨rfl, rfl⟩ := eg
  have q0 : w.cell? ⟨g, S.length * 6, none⟩ = some (.pointer (some ⟨b, o, none⟩)) := hcl 0 _ rfl
  have q1 : w.cell? ⟨g, S.length * 6 + 1, none⟩ = some (.int .i64 ((0 + 1 : Nat) : Int)) := hcl 1 _ rfl
  rw [Int.natCast_add, Int.natCast_one] at q1
  obtain ⟨c2, c3, c4, c5, c6⟩ := h.runP.told
  obtain ⟨hbB, hpl, kv, hxc, hop, hsm, hk⟩ := hx
  obtain ⟨hk1000, kp, kcap, rfl⟩ := hk.form
  obtain ⟨x0, x1, x2, x3, x4, x5⟩ := hxc
  have e26 : (e.op == 26) = false := beq_eq_false_iff_ne.2 h26
  have e25 : (e.op == 25) = false := beq_eq_false_iff_ne.2 h25
  have el : ((e.kids.length : Int) == 1) = false := beq_eq_false_iff_ne.2 (by omega)
  have HK := Lib.hid (show nextK ⟨n, e, 0, f⟩ v = 1 from (if_neg h26).trans ((if_neg h25).trans ((if_neg hc).trans ((if_neg hl1).trans (if_pos rfl)))))
  have HF := Lib.hid (show nextF ⟨n, e, 0, f⟩ v = v.getD zeroT from if_neg (fun h => h.elim h26 h25))
  have q1' : w.cell? ⟨g, S.length * 6 + 1, none⟩ = some (.int .i64 1) := q1
  have q2 : w.cell? ⟨g, S.length * 6 + 2, none⟩ = some (.int .i64 f.k) := hcl 2 _ rfl
  have q3 : w.cell? ⟨g, S.length * 6 + 3, none⟩ = some (.string f.s) := hcl 3 _ rfl
  have q4 : w.cell? ⟨g, S.length * 6 + 4, none⟩ = some (.string f.l) := hcl 4 _ rfl
  have q5 : w.cell? ⟨g, S.length * 6 + 5, none⟩ = some (.string f.t) := hcl 5 _ rfl
  have f2 := hfz (S.length * 6 + 2)
  have f3 := hfz (S.length * 6 + 3)
  have f4 := hfz (S.length * 6 + 4)
  have f5 := hfz (S.length * 6 + 5)
  have HG1 := Lib.hid hg1
  clear q1
  have HQ := Lib.hid (fun (z : Int) (hz : z = (nextK ⟨n, e, 0, f⟩ v : Int)) (w' : World) (hw : RunW w' r sv (.slice (some ⟨g, 0, none⟩) (S.length + 1) cap) ((⟨n, e, 0 + 1, (v.getD zeroT)⟩, b, o) :: S) (v)) (hb : Below r w w') => show NextP ⟨n, e, 0, f⟩ b o S r sv (.slice (some ⟨g, 0, none⟩) (S.length + 1) cap) v w (.returned (.int .i64 z)) w' from ⟨by rw [hz], (v.getD zeroT), v, hw, hb, fun h => absurd (HK.out.symm.trans h) (by decide), fun _ => HF.out.symm⟩)
  have HST := Lib.hid (first_stored r sv S v n e f b o g cap w HR.out hg1)
  obtain ⟨t, ht⟩ : ∃ t, t = v.getD zeroT := ⟨_, rfl⟩
  rw [← ht] at c2 c3 c4 c5 HQ HST
  clear ht
  have hcc : v.isSome = true ∨ e.op = 2 ∨ e.op = 3 := by
    by_cases hh : e.op = 2 ∨ e.op = 3
    · exact .inr hh
    · cases hvv : v with
      | some y => exact .inl rfl
      | none => exact absurd ⟨by rw [hvv]; rfl, hh⟩ hc
  clear hc
  generalize v.isSome = vi at c6 hcc
  generalize e.op = op at e26 e25 x0 hcc
  clear h26 h25 hok hl1
  have hgz : ∀ (j : Nat), w.frozen? ⟨g, j, none⟩ = false := hfz
  rcases hcc with rfl | rfl | rfl
  · clear h hk hpl hsm hop hcl
    go_enter Tryz.func49, Tryz.ntmps49
    go_wp2_with fail
    go_quiet (fail)
    go_wp2_with fail
    go_ret
    exact HQ.out 1 (by rw [HK.out]; rfl) _ (HST.out.1.below ⟨rfl, rfl, rfl, Nat.le_refl _, fun _ _ => rfl⟩) ⟨HST.out.2.os, HST.out.2.tape, HST.out.2.output, HST.out.2.size, HST.out.2.block⟩
  · cases vi
    · clear h hk hpl hsm hop hcl
      go_enter Tryz.func49, Tryz.ntmps49
      go_wp2_with fail
      go_quiet (fail)
      go_wp2_with fail
      go_ret
      exact HQ.out 1 (by rw [HK.out]; rfl) _ (HST.out.1.below ⟨rfl, rfl, rfl, Nat.le_refl _, fun _ _ => rfl⟩) ⟨HST.out.2.os, HST.out.2.tape, HST.out.2.output, HST.out.2.size, HST.out.2.block⟩
    · clear h hk hpl hsm hop hcl
      go_enter Tryz.func49, Tryz.ntmps49
      go_wp2_with fail
      go_quiet (fail)
      go_wp2_with fail
      go_ret
      exact HQ.out 1 (by rw [HK.out]; rfl) _ (HST.out.1.below ⟨rfl, rfl, rfl, Nat.le_refl _, fun _ _ => rfl⟩) ⟨HST.out.2.os, HST.out.2.tape, HST.out.2.output, HST.out.2.size, HST.out.2.block⟩
  · cases vi
    · clear h hk hpl hsm hop hcl
      go_enter Tryz.func49, Tryz.ntmps49
      go_wp2_with fail
      go_quiet (fail)
      go_wp2_with fail
      go_ret
      exact HQ.out 1 (by rw [HK.out]; rfl) _ (HST.out.1.below ⟨rfl, rfl, rfl, Nat.le_refl _, fun _ _ => rfl⟩) ⟨HST.out.2.os, HST.out.2.tape, HST.out.2.output, HST.out.2.size, HST.out.2.block⟩
    · clear h hk hpl hsm hop hcl
      go_enter Tryz.func49, Tryz.ntmps49
      go_wp2_with fail
      go_quiet (fail)
      go_wp2_with fail
      go_ret
      exact HQ.out 1 (by rw [HK.out]; rfl) _ (HST.out.1.below ⟨rfl, rfl, rfl, Nat.le_refl _, fun _ _ => rfl⟩) ⟨HST.out.2.os, HST.out.2.tape, HST.out.2.output, HST.out.2.size, HST.out.2.block⟩
end Go.Proofs.YtecomfhbdonkbaaGreatDoor
