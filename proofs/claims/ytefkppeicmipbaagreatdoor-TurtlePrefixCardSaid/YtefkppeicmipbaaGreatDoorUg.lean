/- Triples as text: ends, reference. -/
import Derived.Test.YtefkppeicmipbaaGreatDoorUf
import Derived.Test.YtefkppeicmipbaaGreatDoorKr
import Derived.Deep.RegionLaw
namespace Go.Proofs.YtefkppeicmipbaaGreatDoor
open Go.RowKit Go.Shelf
set_option maxRecDepth 100000
set_option linter.unusedVariables false
set_option linter.unusedSimpArgs false
set_option maxHeartbeats 4000000 in
theorem tends {w : World} {P : Pl} {tv : Value} {s : St} (h : RdT w P tv s) :
    Calls Tryz.prog 50 #[.pointer (some ⟨P.r, 0, none⟩)] w (To12 P w tv (.bool s.ends) s) := by
  obtain ⟨d, hd⟩ : ∃ d, d = decide (s.peek = sg [46]) := ⟨_, rfl⟩
  obtain ⟨d2, hd2⟩ : ∃ d, d = decide (s.peek = sg [93]) := ⟨_, rfl⟩
  have heq := fun w => equal_tokB s.peek 9 ⟨#[46]⟩ w
  have heq2 := fun w => equal_tokB s.peek 9 ⟨#[93]⟩ w
  rw [show decide (s.peek = (9, (⟨#[46]⟩ : ByteArray).data.toList)) = d from hd.symm] at heq
  rw [show decide (s.peek = (9, (⟨#[93]⟩ : ByteArray).data.toList)) = d2 from hd2.symm] at heq2
  have he : s.ends = (d || d2) := by unfold St.ends; rw [hd, hd2, Bool.eq_iff_iff]; simp
  rw [he]
  have HPK := Lib.hid (fun w1 tv1 (h : RdT w1 P tv1 s) => tpeek h)
  have HH := Lib.hid h
  have HSG := Lib.hid (fun l w => tsign l w)
  obtain ⟨q1, q2, hq⟩ : ∃ q1 q2, s.peek = (q1, q2) := ⟨_, _, rfl⟩
  rw [hq] at heq heq2 HPK
  unfold tokV at HPK
  dsimp only at HPK heq heq2
  clear h hd hd2 he hq
  go_enter Tryz.func50, Tryz.ntmps50
  go_wp2_with fail
  refine (HPK.out _ _ HH.out).mono ?_
  rintro e w1 ⟨rfl, tv1, hg1⟩
  have HG := Lib.hid hg1
  clear hg1
  go_wp2_with fail
  refine (HSG.out _ w1).mono ?_
  rintro e w2 ⟨rfl, hb2⟩
  have HG2 := Lib.hid (HG.out.below hb2)
  clear hb2
  cases d with
  | true =>
    go_wp2_with fail
    go_ret
    exact ⟨rfl, tv1, HG2.out⟩
  | false =>
    go_wp2_with fail
    refine (HPK.out _ _ HG2.out.rd).mono ?_
    rintro e w3 ⟨rfl, tv3, hg3⟩
    have HG3 := Lib.hid (HG2.out.trans hg3)
    clear hg3
    go_wp2_with fail
    refine (HSG.out _ w3).mono ?_
    rintro e w4 ⟨rfl, hb4⟩
    have HG4 := Lib.hid (HG3.out.below hb4)
    clear hb4
    go_wp2_with fail
    go_ret
    exact ⟨rfl, tv3, HG4.out⟩
/-- iri.Resolve, as the reader asks it. -/
theorem tres (b : ByteArray) (l : List UInt8) (hb : b.size ≤ 100000) (hl : l.length ≤ 100000) (w : World) :
    Calls Tryz.prog 71 #[.string b, .string ⟨l.toArray⟩] w fun e w' => e = .returned (.string (resB b l)) ∧ Below w.heap.size w w' :=
  iresolve_any b ⟨l.toArray⟩ hb (by rw [Lib.size_eq]; exact hl) (marksAt_any _) (marksAt_any _) (resB b l) rfl w
theorem colon_index (l : List UInt8) : Lib.indexByte l 58 + 1 = (colonN l : Int) ∧ colonN l ≤ l.length := by
  unfold colonN
  induction l with
  | nil => simp [Lib.indexByte]
  | cons c r ih =>
    rw [Lib.indexByte]
    by_cases hc : c = 58
    · subst hc
      simp
    · have h1 : (c == 58) = false := by simpa using hc
      have h2 : (c != 58) = true := by simpa using hc
      rw [h1, List.takeWhile_cons, h2]
      simp only [Bool.false_eq_true, if_false, if_true, List.mem_cons, List.length_cons]
      obtain ⟨i1, i2⟩ := ih
      by_cases hm : (58 : UInt8) ∈ r
      · rw [if_pos hm] at i1 i2
        have h3 : (Lib.indexByte r 58 == -1) = false := by rw [beq_eq_false_iff_ne]; omega
        rw [h3, if_pos (show 58 = c ∨ 58 ∈ r from .inr hm)]
        simp only [Bool.false_eq_true, if_false]
        omega
      · rw [if_neg hm] at i1 i2
        have h3 : (Lib.indexByte r 58 == -1) = true := by rw [beq_iff_eq]; omega
        rw [h3, if_neg (show ¬ (58 = c ∨ 58 ∈ r) from fun h => h.elim (fun e => hc e.symm) hm)]
        simp
theorem zeroPfx (w : World) : (zeroValue 72).run Tryz.prog w = .ok (.agg #[.string ⟨#[]⟩]) w := by kernel_rfl
theorem RdT.look {w : World} {P : Pl} {tv : Value} {s : St} (h : RdT w P tv s) (i : ByteArray) (hi : i.size ≤ 100000) :
    (Instr.lookup 40 (.map (some P.pm)) (.string i) true).run Tryz.prog w = .ok (.tuple #[.agg #[.string ((lookP i.data.toList s.pre).getD ⟨#[]⟩)], .bool (lookP i.data.toList s.pre).isSome]) w :=
  h.pm.look Tryz.underlying9 Tryz.underlying40 (zeroPfx _) i (Nat.le_trans hi (by decide))
theorem below_drew1 (w : World) : Below w.heap.size w w.drew := ⟨rfl, rfl, rfl, Nat.le_refl _, fun _ _ => rfl⟩
set_option maxHeartbeats 8000000 in
theorem treference {w : World} {P : Pl} {tv : Value} {s : St} (h : RdT w P tv s) (t : Tok) (ht : s.base.size + t.2.length ≤ 90000) :
    Calls Tryz.prog 46 #[.pointer (some ⟨P.r, 0, none⟩), tokV t] w (To12 P w tv (.string (refT t s)) (refS t s)) := by
  obtain ⟨k, l⟩ := t
  dsimp only at ht
  obtain ⟨rv, hrv, c0, c1, c2, c3, c4, c5, c6⟩ := h.open
  have hlt := h.rlt
  have hal := (Go12.refl h).alloc (.cells #[.int .i64 k, .string ⟨l.toArray⟩] 47)
  have HA := Lib.hid hal
  by_cases hk : k = 1
  · subst hk
    have HR := Lib.hid (fun w => tres s.base l (by omega) (by omega) w)
    rw [show refT (1, l) s = resB s.base l from if_pos rfl, show refS (1, l) s = s from if_pos rfl]
    unfold tokV
    dsimp only
    clear h hrv hal ht
    go_enter Tryz.func46, Tryz.ntmps46
    go_wp2_with fail
    go_region_with (go_at_call 71; refine (HR.out _).mono ?_; rintro e w2 ⟨rfl, hb2⟩; have HB2 := Lib.hid hb2)
    all_goals go_wp2_with fail
    all_goals go_ret
    all_goals exact ⟨rfl, tv, (HA.out.below (below_drew1 _)).below HB2.out⟩
  have hk1 : (k == 1) = false := by simpa using hk
  by_cases hk2 : k = 2
  rotate_left
  · have hk2' : (k == 2) = false := by simpa using hk2
    have HF := Lib.hid (tfail hal.rd 6)
    rw [show refT (k, l) s = nobT from by unfold refT; rw [if_neg hk, if_neg hk2], show refS (k, l) s = s.fail 6 from by unfold refS; rw [if_neg hk, if_neg hk2]]
    unfold tokV nobT
    dsimp only
    clear h hrv hal ht hk hk2
    go_enter Tryz.func46, Tryz.ntmps46
    go_wp2_with fail
    refine HF.out.mono ?_
    rintro e w2 ⟨⟨v, rfl⟩, tv2, hg2⟩
    have HG2 := Lib.hid hg2
    clear hg2
    go_wp2_with fail
    go_ret
    exact ⟨rfl, tv2, HA.out.trans HG2.out⟩
  subst hk2
  obtain ⟨hi1, hi2⟩ := colon_index l
  have hll : (⟨l.toArray⟩ : ByteArray).data.toList = l := by simp
  obtain ⟨c, hc⟩ : ∃ c, c = colonN l := ⟨_, rfl⟩
  obtain ⟨x, hx⟩ : ∃ x, x = Lib.indexByte l 58 := ⟨_, rfl⟩
  have HI := Lib.hid (fun w => Any.strings_Index_one Tryz.lays143 ⟨l.toArray⟩ 58 w)
  rw [hll, ← hx] at HI
  rw [← hc, ← hx] at hi1
  rw [← hc] at hi2
  obtain ⟨z1, hz1⟩ : ∃ z, z = (⟨l.toArray⟩ : ByteArray).extract 0 c := ⟨_, rfl⟩
  obtain ⟨z2, hz2⟩ : ∃ z, z = (⟨l.toArray⟩ : ByteArray).extract c (⟨l.toArray⟩ : ByteArray).size := ⟨_, rfl⟩
  have hz1l : z1.data.toList = l.take c := by rw [hz1, ext_to, hll]; simp
  have hz2l : z2.data.toList = l.drop c := by rw [hz2, ext_from, hll]
  obtain ⟨pz, hpz⟩ : ∃ z, z = (lookP (l.take c) s.pre).getD ⟨#[]⟩ := ⟨_, rfl⟩
  obtain ⟨is, his⟩ : ∃ b, b = (lookP (l.take c) s.pre).isSome := ⟨_, rfl⟩
  have hpzs : pz.size ≤ 90000 := by rw [hpz]; exact look_size h.inv.pre
  have hz2s : z2.size ≤ 90000 := by rw [Lib.size_eq, hz2l, List.length_drop]; omega
  obtain ⟨zz, hzz⟩ : ∃ z, z = pz ++ z2 := ⟨_, rfl⟩
  have HR := Lib.hid (show refT (2, l) s = zz from by
    unfold refT
    rw [if_neg (show ¬ (2 : Int) = 1 by decide), if_pos (show (2 : Int) = 2 from rfl), ← hc, hzz, hpz, show bl (l.drop c) = z2 from by rw [← hz2l]; cases z2; rfl]; rfl)
  have HS := Lib.hid (show refS (2, l) s = if is then s else s.fail 11 from by
    unfold refS
    rw [if_neg (show ¬ (2 : Int) = 1 by decide), if_pos (show (2 : Int) = 2 from rfl), ← hc, his])
  have HLK := Lib.hid (fun w' tv' (r : RdT w' P tv' s) => by
    have := r.look z1 (by rw [Lib.size_eq, hz1l, List.length_take]; omega)
    rw [hz1l, ← hpz, ← his] at this
    exact this)
  have hsz : (⟨l.toArray⟩ : ByteArray).size = l.length := by rw [Lib.size_eq, hll]
  obtain ⟨L, hL⟩ : ∃ z : ByteArray, z = ⟨l.toArray⟩ := ⟨_, rfl⟩
  have hLs : L.size ≤ 90000 := by rw [hL, hsz]; omega
  have hcL : c ≤ L.size := by rw [hL, hsz]; exact hi2
  have hx1 : x + 1 = (c : Int) := hi1
  have hxl : (-2 : Int) < x := by omega
  have hxh : x < 100000 := by omega
  obtain ⟨S2, hS2⟩ : ∃ q, q = refS (2, l) s := ⟨_, rfl⟩
  rw [HR.out, ← hS2]
  have HS2 := Lib.hid (hS2.trans HS.out)
  clear HS hS2
  unfold tokV
  dsimp only
  rw [← hL] at hz1 hz2 HI hal HA ⊢
  have hTp : Tp (w.alloc (.cells #[.int .i64 2, .string L] 47)) P tv w.heap.size #[.int .i64 2, .string L] 47 := Tp.new h _ _
  have HTP := Lib.hid hTp
  have hcLi : (c : Int) ≤ (L.size : Int) := by omega
  have hz1' := hz1.symm
  have hz2' := hz2.symm
  have HZ := Lib.hid (And.intro hz1l hz2l)
  have HZZ := Lib.hid hzz
  clear hrv ht hi1 hi2 hll hx hpz his hz1 hz2 hsz hL hz1l hz2l hc hzz h hal hTp c0 c1 c3 c4 c5 c6
  go_enter Tryz.func46, Tryz.ntmps46
  go_wp2_with fail
  refine (HI.out _).mono ?_
  rintro e w2 ⟨rfl, rfl⟩
  go_wp2_with fail
  generalize World.alloc w (.cells #[.int .i64 2, .string L] 47) = W0 at HA HTP ⊢
  refine wp_region_any (by kernel_rfl) ?_
  change wpAny _ _ _ _ _ _ _ (World.drew _)
  refine wpAny_of_held (S := fun w' => Go12 P w tv w' tv s ∧ Tp w' P tv w.heap.size #[.int .i64 2, .string L] 47) _ _ _ _ ?_
  have hS : (fun w' => Go12 P w tv w' tv s ∧ Tp w' P tv w.heap.size #[.int .i64 2, .string L] 47) _ := ⟨HA.out.below (below_drew1 _), HTP.out.go ((Go12.refl HA.out.rd).below (below_drew1 _))⟩
  refine wpAnyH_take (i := 0) (oi := ⟨some 26, _, _, _, _, _⟩) (v := ?_) rfl (by kernel_rfl) (by kernel_rfl) (by kernel_rfl) (fun _ _ _ h => h) (Or.inl ⟨by simp only [Region.wanted], ?_⟩) hS ?_
  rotate_left
  · intro wz hSw
    clear hSw
    go_simp
    first | done | with_reducible rfl
  try simp only [Act.put, List.setIfInBounds_toArray, List.set_cons_zero, List.set_cons_succ]
  refine wpAnyH_take (i := 1) (oi := ⟨some 27, _, _, _, _, _⟩) (v := ?_) rfl (by kernel_rfl) (by kernel_rfl) (by kernel_rfl) (fun _ _ _ h => h) (Or.inl ⟨by simp only [Region.wanted], ?_⟩) hS ?_
  rotate_left
  · intro wz hSw
    clear hSw
    go_simp
    first | done | with_reducible rfl
  try simp only [Act.put, List.setIfInBounds_toArray, List.set_cons_zero, List.set_cons_succ]
  refine wpAnyH_take (i := 2) (oi := ⟨some 28, _, _, _, _, _⟩) (v := ?_) rfl (by kernel_rfl) (by kernel_rfl) (by kernel_rfl) (fun _ _ _ h => h) (Or.inl ⟨by simp only [Region.wanted], ?_⟩) hS ?_
  rotate_left
  · intro wz hSw
    clear hSw
    go_simp
    first | done | with_reducible rfl
  try simp only [Act.put, List.setIfInBounds_toArray, List.set_cons_zero, List.set_cons_succ]
  refine wpAnyH_take (i := 3) (oi := ⟨some 29, _, _, _, _, _⟩) (v := ?_) rfl (by kernel_rfl) (by kernel_rfl) (by kernel_rfl) (fun _ _ _ h => h) (Or.inl ⟨by simp only [Region.wanted], ?_⟩) hS ?_
  rotate_left
  · intro wz hSw; obtain ⟨rv2, -, -, -, d2, -⟩ := hSw.1.rd.open
    clear hSw
    go_simp
    first | done | with_reducible rfl
  try simp only [Act.put, List.setIfInBounds_toArray, List.set_cons_zero, List.set_cons_succ]
  refine wpAnyH_take (i := 4) (oi := ⟨some 30, _, _, _, _, _⟩) (v := ?_) rfl (by kernel_rfl) (by kernel_rfl) (by kernel_rfl) (fun _ _ _ h => h) (Or.inl ⟨by simp only [Region.wanted], ?_⟩) hS ?_
  rotate_left
  · intro wz hSw
    clear hSw
    go_simp
    first | done | with_reducible rfl
  try simp only [Act.put, List.setIfInBounds_toArray, List.set_cons_zero, List.set_cons_succ]
  refine wpAnyH_take (i := 5) (oi := ⟨some 31, _, _, _, _, _⟩) (v := ?_) rfl (by kernel_rfl) (by kernel_rfl) (by kernel_rfl) (fun _ _ _ h => h) (Or.inl ⟨by simp only [Region.wanted], ?_⟩) hS ?_
  rotate_left
  · intro wz hSw; obtain ⟨-, -, d1, -, -⟩ := hSw.2.two
    clear hSw
    go_simp
    first | done | with_reducible rfl
  try simp only [Act.put, List.setIfInBounds_toArray, List.set_cons_zero, List.set_cons_succ]
  refine wpAnyH_take (i := 6) (oi := ⟨some 32, _, _, _, _, _⟩) (v := ?_) rfl (by kernel_rfl) (by kernel_rfl) (by kernel_rfl) (fun _ _ _ h => h) (Or.inl ⟨by simp only [Region.wanted], ?_⟩) hS ?_
  rotate_left
  · intro wz hSw
    clear hSw
    go_simp
    first | done | with_reducible rfl
  try simp only [Act.put, List.setIfInBounds_toArray, List.set_cons_zero, List.set_cons_succ]
  refine wpAnyH_take (i := 7) (oi := ⟨some 33, _, _, _, _, _⟩) (v := ?_) rfl (by kernel_rfl) (by kernel_rfl) (by kernel_rfl) (fun _ _ _ h => h) (Or.inl ⟨by simp only [Region.wanted], ?_⟩) hS ?_
  rotate_left
  · intro wz hSw
    clear hSw
    go_simp
    first | done | with_reducible rfl
  try simp only [Act.put, List.setIfInBounds_toArray, List.set_cons_zero, List.set_cons_succ]
  refine wpAnyH_take (i := 8) (oi := ⟨some 34, _, _, _, _, _⟩) (v := ?_) rfl (by kernel_rfl) (by kernel_rfl) (by kernel_rfl) (fun _ _ _ h => h) (Or.inl ⟨by simp only [Region.wanted], ?_⟩) hS ?_
  rotate_left
  · intro wz hSw; have hlk := HLK.out _ _ hSw.1.rd
    clear hSw
    go_simp
    first | done | with_reducible rfl
  try simp only [Act.put, List.setIfInBounds_toArray, List.set_cons_zero, List.set_cons_succ]
  refine wpAnyH_take (i := 9) (oi := ⟨some 25, _, _, _, _, _⟩) (v := ?_) rfl (by kernel_rfl) (by kernel_rfl) (by kernel_rfl) (fun _ _ _ h => h) (Or.inl ⟨by simp only [Region.wanted], ?_⟩) hS ?_
  rotate_left
  · intro wz hSw
    clear hSw
    go_simp
    first | done | with_reducible rfl
  try simp only [Act.put, List.setIfInBounds_toArray, List.set_cons_zero, List.set_cons_succ]
  refine wpAnyH_take (i := 10) (oi := ⟨some 35, _, _, _, _, _⟩) (v := ?_) rfl (by kernel_rfl) (by kernel_rfl) (by kernel_rfl) (fun _ _ _ h => h) (Or.inl ⟨by simp only [Region.wanted], ?_⟩) hS ?_
  rotate_left
  · intro wz hSw
    clear hSw
    go_simp
    first | done | with_reducible rfl
  try simp only [Act.put, List.setIfInBounds_toArray, List.set_cons_zero, List.set_cons_succ]
  refine wpAnyH_take (i := 11) (oi := ⟨some 36, _, _, _, _, _⟩) (v := ?_) rfl (by kernel_rfl) (by kernel_rfl) (by kernel_rfl) (fun _ _ _ h => h) (Or.inl ⟨by simp only [Region.wanted], ?_⟩) hS ?_
  rotate_left
  · intro wz hSw
    clear hSw
    go_simp
    first | done | with_reducible rfl
  try simp only [Act.put, List.setIfInBounds_toArray, List.set_cons_zero, List.set_cons_succ]
  refine wpAnyH_ready (rs := [12]) (by kernel_rfl) (by simp) ?_
  refine AllReadyH.cons (o := ⟨some 6, _, _, _, _, _⟩) rfl (fun K hK => ?_) AllReadyH.nil
  go_simp
  refine hK.out _ _ (⟨hS.1.alloc _, hS.2.alloc _⟩) (fun hS => ?_)
  clear hK K
  try simp only [Act.put, List.setIfInBounds_toArray, List.set_cons_zero, List.set_cons_succ]
  refine wpAnyH_ready (rs := [13]) (by kernel_rfl) (by simp) ?_
  refine AllReadyH.cons (o := ⟨none, _, _, _, _, _⟩) rfl (fun K hK => ?_) AllReadyH.nil
  go_simp
  refine hK.out _ _ (⟨(HA.out.alloc _).below (below_drew1 _), (HTP.out.alloc _).go ((Go12.refl (HA.out.alloc _).rd).below (below_drew1 _))⟩) (fun hS => ?_)
  clear hK K
  try simp only [Act.put, List.setIfInBounds_toArray, List.set_cons_zero, List.set_cons_succ]
  refine wpAnyH_take (i := 14) (oi := ⟨some 7, _, _, _, _, _⟩) (v := ?_) rfl (by kernel_rfl) (by kernel_rfl) (by kernel_rfl) (fun _ _ _ h => h) (Or.inl ⟨by simp only [Region.wanted], ?_⟩) hS ?_
  rotate_left
  · intro wz hSw
    clear hSw
    go_simp
    first | done | with_reducible rfl
  try simp only [Act.put, List.setIfInBounds_toArray, List.set_cons_zero, List.set_cons_succ]
  refine wpAnyH_done (by kernel_rfl) ?_ _
  have hT2 : Tp (W0.alloc (.cells #[.string pz] 72)).drew P tv W0.heap.size #[.string pz] 72 := ⟨Blk.drew (Blk.new _ _ _), HA.out.rd.B, fun e => by have := (HA.out.rd.told.lt _ e).2; omega⟩
  have HS1 := Lib.hid hS.1
  have HS2' := Lib.hid hS.2
  have HT2 := Lib.hid hT2
  clear hS hT2
  generalize (W0.alloc (.cells #[.string pz] 72)).drew = W1 at HS1 HS2' HT2 ⊢
  generalize W0.heap.size = T2 at HT2 ⊢
  have key : ∀ w3 tv3, Go12 P w tv w3 tv3 S2 → Tp w3 P tv3 w.heap.size #[.int .i64 2, .string L] 47 → Tp w3 P tv3 T2 #[.string pz] 72 → (w3.cell? ⟨w.heap.size, 1, none⟩ = some (.string L) ∧ w3.cell? ⟨T2, 0, none⟩ = some (.string pz)) := fun w3 tv3 _ h1 h2 => ⟨h1.two.2.2.1, h2.blk.cell 0⟩
  have KEY := Lib.hid key
  have hzz' : pz ++ z2 = zz := HZZ.out.symm
  have hsz1 : ¬ 9223372036854775807 < pz.size + z2.size := by omega
  clear key
  cases is with
  | true =>
    have hs : S2 = s := HS2.out
    have HG := Lib.hid (show Go12 P w tv W1 tv S2 by rw [hs]; exact HS1.out)
    obtain ⟨d1, d0⟩ := KEY.out W1 tv HG.out HS2'.out HT2.out
    clear hs
    go_wp2_with fail
    go_quiet (fail)
    go_wp2_with fail
    go_ret
    exact ⟨rfl, tv, HG.out.below (below_draws _ _)⟩
  | false =>
    have hs : S2 = s.fail 11 := HS2.out
    have HF := Lib.hid (tfail HS1.out.rd 11)
    rw [← hs] at HF
    clear hs
    go_wp2_with fail
    refine HF.out.mono ?_
    rintro e w3 ⟨⟨v, rfl⟩, tv3, hg3⟩
    have HG := Lib.hid (HS1.out.trans hg3)
    obtain ⟨d1, d0⟩ := KEY.out w3 tv3 HG.out (HS2'.out.go hg3) (HT2.out.go hg3)
    clear hg3
    go_wp2_with fail
    go_quiet (fail)
    go_wp2_with fail
    go_ret
    exact ⟨rfl, tv3, HG.out.below (below_draws _ _)⟩
end Go.Proofs.YtefkppeicmipbaaGreatDoor
