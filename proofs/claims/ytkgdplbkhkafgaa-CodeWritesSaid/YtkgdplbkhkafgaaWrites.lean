/- The walk of the law CodeWrites. -/
import Derived.Test.YtkgdplbkhkafgaaKnown
import Derived.Test.YtkgdplbkhkafgaaSpare
import Derived.Deep.RegionHeld
namespace Go.Proofs.Ytkgdplbkhkafgaa
open Go.RowKit

/-- What is new lies not in an elder row. -/
theorem apart {w w' : World} {base B : Nat} {v b : Value} {l L : List UInt8} (h : Own w' B v L) (k : Own w base b l) (hB : w.heap.size ≤ B := by omega) : v.ownBlock = none ∨ v.ownBlock ≠ b.ownBlock := by
  cases hv : v.ownBlock with
  | none => exact .inl rfl
  | some q =>
    right
    intro e
    have h1 := (h.out.lt q hv).1
    have h2 := (k.out.lt q e.symm).2
    omega

/-- A region that is walked under a stronger condition. -/
theorem wpAnyH_mono {P : Program} {ops : Array Oper} {Q : Exit → Act → World → Prop} {md : Region.Mode} {S S' : World → Prop} (hS : ∀ w, S' w → S w) :
    ∀ (fuel : Nat) (listed : Array Bool) (a : Act) (w : World), wpAnyH P md ops Q S' fuel listed a w → wpAnyH P md ops Q S fuel listed a w
  | 0, _, _, _, h => h
  | fuel + 1, _, _, _, h => ⟨h.1, fun i hi => wpOp_mono (fun a' w' h' => ⟨hS _ h'.1, wpAnyH_mono hS fuel _ a' w' h'.2⟩) (h.2 i hi)⟩

set_option maxRecDepth 100000 in
set_option maxHeartbeats 4000000 in
theorem writes_walk (bo : Option Addr) (bc : Nat) (l : List UInt8) (x : Int) (s : ByteArray) (w : World) (hbs : Bs w (.slice bo l.length bc) l) (hs : s.size ≤ maxLen) :
    Calls Try.prog 3 #[.slice bo l.length bc, .int .i64 x, .string s] w fun en w' => en = .returned (.bool true) ∧ Below w.heap.size w w' := by
  have hbc : l.length ≤ bc ∧ bc ≤ 9223372036854775807 := by
    obtain ⟨a, c, e, g1, g2, -⟩ := hbs
    simp only [Value.slice.injEq, true_and] at e
    obtain ⟨rfl, rfl⟩ := e
    exact ⟨g1, g2⟩
  unfold maxLen at hs
  by_cases hl : (300 : Int) < l.length
  · go_enter Try.func3, Try.ntmps3
    go_wp2_with (go_at_call 11; refine (known_any _).mono ?_; rintro e w1 ⟨rfl, hb1⟩)
    go_ret
    exact ⟨rfl, hb1⟩
  by_cases hl2 : (500 : Int) < s.size
  · go_enter Try.func3, Try.ntmps3
    go_wp2_with (go_at_call 11; refine (known_any _).mono ?_; rintro e w1 ⟨rfl, hb1⟩)
    go_ret
    exact ⟨rfl, hb1⟩
  go_enter Try.func3, Try.ntmps3
  go_wp2_with fail
  refine (known_any _).mono ?_
  rintro en w1 ⟨rfl, hb1⟩
  have hs1 := hb1.size
  have hbs1 := hbs.below hb1
  go_wp2_with (at_builtin; refine wpList_append_bytes rfl _ _ rfl w.heap.size _ _ rfl (Own.empty _ _ ?a1) _ _ rfl (hbs1.below ?a2) ?a3 ?a4 ?_)
  case a1 => omega
  case a2 => exact (Below.refl _ _).alloc (Nat.le_refl _) _
  case a3 => simp; omega
  case a4 => simp; omega
  intro v7 w2 ho2 hg2
  have hB2 : Below w.heap.size w w2 := (Own.empty _ _ (by omega)).step (hb1.alloc hs1 _) hg2 (Nat.le_refl _) (by simp; omega)
  have hO2 : Own w2 w.heap.size v7 l := by simpa using ho2
  have hb2 := hbs.below hB2
  have hl9 : l.length ≤ 1099511627776 := by omega
  have hl9' : l.length ≤ 1073741824 := by omega
  have hs9 : s.size ≤ 65535 := by omega
  clear hg2 hbs1 hb1 hs1 ho2
  go_wp2_with fail
  clear hl hl2 hbc hs
  refine wp_region_any (by kernel_rfl) ?_
  change wpAny _ _ _ _ _ _ _ (World.drew _)
  refine wpAny_of_held (S := fun _ => True) _ _ _ _ ?_
  have hS : True := trivial
  refine wpAnyH_take (i := 0) (oi := ⟨some 21, _, _, _, _, _⟩) (v := ?_) rfl (by kernel_rfl) (by kernel_rfl) (by kernel_rfl) (fun _ _ _ h => h) (Or.inl ⟨by rfl, ?_⟩) hS ?_
  rotate_left
  · intro wz hSw
    clear hSw
    go_simp
    first | done | with_reducible rfl
  try simp only [Act.put, List.setIfInBounds_toArray, List.set_cons_zero, List.set_cons_succ]
  refine wpAnyH_take (i := 1) (oi := ⟨some 22, _, _, _, _, _⟩) (v := ?_) rfl (by kernel_rfl) (by kernel_rfl) (by kernel_rfl) (fun _ _ _ h => h) (Or.inl ⟨by rfl, ?_⟩) hS ?_
  rotate_left
  · intro wz hSw
    clear hSw
    go_simp
    first | done | with_reducible rfl
  try simp only [Act.put, List.setIfInBounds_toArray, List.set_cons_zero, List.set_cons_succ]
  refine wpAnyH_take (i := 4) (oi := ⟨some 25, _, _, _, _, _⟩) (v := ?_) rfl (by kernel_rfl) (by kernel_rfl) (by kernel_rfl) (fun _ _ _ h => h) (Or.inl ⟨by rfl, ?_⟩) hS ?_
  rotate_left
  · intro wz hSw
    clear hSw
    go_simp
    first | done | with_reducible rfl
  try simp only [Act.put, List.setIfInBounds_toArray, List.set_cons_zero, List.set_cons_succ]
  refine wpAnyH_take (i := 5) (oi := ⟨some 26, _, _, _, _, _⟩) (v := ?_) rfl (by kernel_rfl) (by kernel_rfl) (by kernel_rfl) (fun _ _ _ h => h) (Or.inl ⟨by rfl, ?_⟩) hS ?_
  rotate_left
  · intro wz hSw
    clear hSw
    go_simp
    first | done | with_reducible rfl
  try simp only [Act.put, List.setIfInBounds_toArray, List.set_cons_zero, List.set_cons_succ]
  refine wpAnyH_ready (rs := [2]) (by kernel_rfl) (by simp) ?_
  refine AllReadyH.cons (o := ⟨some 23, _, _, _, _, _⟩) rfl (fun K hK => ?_) AllReadyH.nil
  go_simp
  refine (int_any (.slice bo l.length bc) l x hl9 _ ?_).mono ?_
  · exact hb2
  rintro eA wA ⟨vA, rfl, hoA, hqA⟩
  replace hoA : Own wA w2.heap.size vA (l ++ le x 8) := hoA
  have hrA : Below w2.heap.size w2 wA := (Below.refl _ _).drew.trans hqA
  have hOA := hO2.below hrA
  have hBA := hB2.trans (hrA.mono hB2.size)
  have hzA := hBA.size
  have hnA := hoA.bs
  go_wp2_with fail
  refine hK.out _ _ (trivial) (fun hS => ?_)
  clear hK K
  try simp only [Act.put, List.setIfInBounds_toArray, List.set_cons_zero, List.set_cons_succ]
  have hS' : (fun w' => Bs w' vA (l ++ le x 8)) wA := hnA
  refine wpAnyH_mono (S' := (fun w' => Bs w' vA (l ++ le x 8))) (fun _ h => trivial) _ _ _ _ ?_
  clear hS
  have hS := hS'
  clear hS'
  refine wpAnyH_take (i := 3) (oi := ⟨some 24, _, _, _, _, _⟩) (v := ?_) rfl (by kernel_rfl) (by kernel_rfl) (by kernel_rfl) (fun _ _ _ h => h) (Or.inl ⟨by rfl, ?_⟩) hS ?_
  rotate_left
  · intro wz hSw; have hcz := run_conv_bytes (hSw)
    clear hSw
    go_simp
    first | done | with_reducible rfl
  try simp only [Act.put, List.setIfInBounds_toArray, List.set_cons_zero, List.set_cons_succ]
  refine wpAnyH_ready (rs := [6]) (by kernel_rfl) (by simp) ?_
  refine AllReadyH.cons (o := ⟨some 27, _, _, _, _, _⟩) rfl (fun K hK => ?_) AllReadyH.nil
  go_simp
  refine (refInt_any w.heap.size v7 l x hl9 _ ?_ ?_).mono ?_
  · exact hzA
  · exact hOA
  rintro eB wB ⟨vB, rfl, hsB⟩
  have hgB : wA.grownBy wB v7.ownBlock := hsB.grown
  have hOB := hsB.old
  have hBB := hBA.grown hgB hzA (fun q hq => (hO2.out.lt q hq).1)
  have hbB := hbs.below hBB
  have hmA : Own wB w2.heap.size vA (l ++ le x 8) := World.ownsRow.kept hoA hgB (apart hoA hO2)
  go_wp2_with fail
  refine hK.out _ _ (hmA.bs) (fun hS => ?_)
  clear hK K
  try simp only [Act.put, List.setIfInBounds_toArray, List.set_cons_zero, List.set_cons_succ]
  have hcz := run_conv_bytes hsB.own.bs
  refine wpAnyH_ready (rs := [7]) (by kernel_rfl) (by simp) ?_
  refine AllReadyH.cons (o := ⟨some 28, _, _, _, _, _⟩) rfl (fun K hK => ?_) AllReadyH.nil
  go_simp
  refine hK.out _ _ hS (fun _ => ?_)
  clear hK K hcz
  try simp only [Act.put, List.setIfInBounds_toArray, List.set_cons_zero, List.set_cons_succ]
  refine wpAnyH_take (i := 8) (oi := ⟨some 29, _, _, _, _, _⟩) (v := ?_) rfl (by kernel_rfl) (by kernel_rfl) (by kernel_rfl) (fun _ _ _ h => h) (Or.inl ⟨by rfl, ?_⟩) hS ?_
  rotate_left
  · intro wz hSw
    clear hSw
    go_simp
    first | done | with_reducible rfl
  try simp only [Act.put, List.setIfInBounds_toArray, List.set_cons_zero, List.set_cons_succ]
  refine wpAnyH_take (i := 9) (oi := ⟨some 30, _, _, _, _, _⟩) (v := ?_) rfl (by kernel_rfl) (by kernel_rfl) (by kernel_rfl) (fun _ _ _ h => h) (Or.inl ⟨by rfl, ?_⟩) hS ?_
  rotate_left
  · intro wz hSw
    clear hSw
    go_simp
    first | done | with_reducible rfl
  try simp only [Act.put, List.setIfInBounds_toArray, List.set_cons_zero, List.set_cons_succ]
  refine wpAnyH_take (i := 10) (oi := ⟨some 31, _, _, _, _, _⟩) (v := ?_) rfl (by kernel_rfl) (by kernel_rfl) (by kernel_rfl) (fun _ _ _ h => h) (Or.inl ⟨by rfl, ?_⟩) hS ?_
  rotate_left
  · intro wz hSw
    clear hSw
    go_simp
    first | done | with_reducible rfl
  try simp only [Act.put, List.setIfInBounds_toArray, List.set_cons_zero, List.set_cons_succ]
  refine wpAnyH_take (i := 11) (oi := ⟨some 32, _, _, _, _, _⟩) (v := ?_) rfl (by kernel_rfl) (by kernel_rfl) (by kernel_rfl) (fun _ _ _ h => h) (Or.inl ⟨by rfl, ?_⟩) hS ?_
  rotate_left
  · intro wz hSw
    clear hSw
    go_simp
    first | done | with_reducible rfl
  try simp only [Act.put, List.setIfInBounds_toArray, List.set_cons_zero, List.set_cons_succ]
  refine wpAnyH_take (i := 14) (oi := ⟨some 35, _, _, _, _, _⟩) (v := ?_) rfl (by kernel_rfl) (by kernel_rfl) (by kernel_rfl) (fun _ _ _ h => h) (Or.inl ⟨by rfl, ?_⟩) hS ?_
  rotate_left
  · intro wz hSw
    clear hSw
    go_simp
    first | done | with_reducible rfl
  try simp only [Act.put, List.setIfInBounds_toArray, List.set_cons_zero, List.set_cons_succ]
  refine wpAnyH_take (i := 15) (oi := ⟨some 36, _, _, _, _, _⟩) (v := ?_) rfl (by kernel_rfl) (by kernel_rfl) (by kernel_rfl) (fun _ _ _ h => h) (Or.inl ⟨by rfl, ?_⟩) hS ?_
  rotate_left
  · intro wz hSw
    clear hSw
    go_simp
    first | done | with_reducible rfl
  try simp only [Act.put, List.setIfInBounds_toArray, List.set_cons_zero, List.set_cons_succ]
  refine wpAnyH_ready (rs := [12]) (by kernel_rfl) (by simp) ?_
  refine AllReadyH.cons (o := ⟨some 33, _, _, _, _, _⟩) rfl (fun K hK => ?_) AllReadyH.nil
  go_simp
  refine (byte_any (.slice bo l.length bc) l x hl9 _ ?_).mono ?_
  · exact hbB
  rintro eC wC ⟨vC, rfl, hoC, hqC⟩
  replace hoC : Own wC wB.heap.size vC (l ++ le x 1) := hoC
  have hrC : Below wB.heap.size wB wC :=  hqC
  have hOC := hOB.below hrC
  have hBC := hBB.trans (hrC.mono hBB.size)
  have hzC := hBC.size
  have hmA2 := hmA.below hrC
  go_wp2_with fail
  refine hK.out _ _ (hmA2.bs) (fun hS => ?_)
  clear hK K
  try simp only [Act.put, List.setIfInBounds_toArray, List.set_cons_zero, List.set_cons_succ]
  have hS' : (fun w' => Bs w' vA (l ++ le x 8) ∧ Bs w' vC (l ++ le x 1)) wC := ⟨hmA2.bs, hoC.bs⟩
  refine wpAnyH_mono (S' := (fun w' => Bs w' vA (l ++ le x 8) ∧ Bs w' vC (l ++ le x 1))) (fun _ h => h.1) _ _ _ _ ?_
  clear hS
  have hS := hS'
  clear hS'
  refine wpAnyH_take (i := 13) (oi := ⟨some 34, _, _, _, _, _⟩) (v := ?_) rfl (by kernel_rfl) (by kernel_rfl) (by kernel_rfl) (fun _ _ _ h => h) (Or.inl ⟨by rfl, ?_⟩) hS ?_
  rotate_left
  · intro wz hSw; have hcz := run_conv_bytes (hSw.2)
    clear hSw
    go_simp
    first | done | with_reducible rfl
  try simp only [Act.put, List.setIfInBounds_toArray, List.set_cons_zero, List.set_cons_succ]
  refine wpAnyH_ready (rs := [16]) (by kernel_rfl) (by simp) ?_
  refine AllReadyH.cons (o := ⟨some 37, _, _, _, _, _⟩) rfl (fun K hK => ?_) AllReadyH.nil
  go_simp
  refine (refByte_any w.heap.size v7 l x hl9 _ ?_ ?_).mono ?_
  · exact hzC
  · exact hOC
  rintro eD wD ⟨vD, rfl, hsD⟩
  have hgD : wC.grownBy wD v7.ownBlock := hsD.grown
  have hOD := hsD.old
  have hBD := hBC.grown hgD hzC (fun q hq => (hOB.out.lt q hq).1)
  have hbD := hbs.below hBD
  have hmA3 : Own wD w2.heap.size vA (l ++ le x 8) := World.ownsRow.kept hmA2 hgD (apart hmA2 hO2)
  have hmC : Own wD wB.heap.size vC (l ++ le x 1) := World.ownsRow.kept hoC hgD (apart hoC hOB)
  go_wp2_with fail
  refine hK.out _ _ (⟨hmA3.bs, hmC.bs⟩) (fun hS => ?_)
  clear hK K
  try simp only [Act.put, List.setIfInBounds_toArray, List.set_cons_zero, List.set_cons_succ]
  have hcz := run_conv_bytes hsD.own.bs
  refine wpAnyH_ready (rs := [17]) (by kernel_rfl) (by simp) ?_
  refine AllReadyH.cons (o := ⟨some 38, _, _, _, _, _⟩) rfl (fun K hK => ?_) AllReadyH.nil
  go_simp
  refine hK.out _ _ hS (fun _ => ?_)
  clear hK K hcz
  try simp only [Act.put, List.setIfInBounds_toArray, List.set_cons_zero, List.set_cons_succ]
  refine wpAnyH_take (i := 18) (oi := ⟨some 39, _, _, _, _, _⟩) (v := ?_) rfl (by kernel_rfl) (by kernel_rfl) (by kernel_rfl) (fun _ _ _ h => h) (Or.inl ⟨by rfl, ?_⟩) hS ?_
  rotate_left
  · intro wz hSw
    clear hSw
    go_simp
    first | done | with_reducible rfl
  try simp only [Act.put, List.setIfInBounds_toArray, List.set_cons_zero, List.set_cons_succ]
  refine wpAnyH_take (i := 19) (oi := ⟨some 40, _, _, _, _, _⟩) (v := ?_) rfl (by kernel_rfl) (by kernel_rfl) (by kernel_rfl) (fun _ _ _ h => h) (Or.inl ⟨by rfl, ?_⟩) hS ?_
  rotate_left
  · intro wz hSw
    clear hSw
    go_simp
    first | done | with_reducible rfl
  try simp only [Act.put, List.setIfInBounds_toArray, List.set_cons_zero, List.set_cons_succ]
  refine wpAnyH_take (i := 20) (oi := ⟨some 41, _, _, _, _, _⟩) (v := ?_) rfl (by kernel_rfl) (by kernel_rfl) (by kernel_rfl) (fun _ _ _ h => h) (Or.inl ⟨by rfl, ?_⟩) hS ?_
  rotate_left
  · intro wz hSw
    clear hSw
    go_simp
    first | done | with_reducible rfl
  try simp only [Act.put, List.setIfInBounds_toArray, List.set_cons_zero, List.set_cons_succ]
  refine wpAnyH_take (i := 21) (oi := ⟨some 42, _, _, _, _, _⟩) (v := ?_) rfl (by kernel_rfl) (by kernel_rfl) (by kernel_rfl) (fun _ _ _ h => h) (Or.inl ⟨by rfl, ?_⟩) hS ?_
  rotate_left
  · intro wz hSw
    clear hSw
    go_simp
    first | done | with_reducible rfl
  try simp only [Act.put, List.setIfInBounds_toArray, List.set_cons_zero, List.set_cons_succ]
  refine wpAnyH_take (i := 22) (oi := ⟨some 43, _, _, _, _, _⟩) (v := ?_) rfl (by kernel_rfl) (by kernel_rfl) (by kernel_rfl) (fun _ _ _ h => h) (Or.inl ⟨by rfl, ?_⟩) hS ?_
  rotate_left
  · intro wz hSw
    clear hSw
    go_simp
    first | done | with_reducible rfl
  try simp only [Act.put, List.setIfInBounds_toArray, List.set_cons_zero, List.set_cons_succ]
  refine wpAnyH_take (i := 25) (oi := ⟨some 46, _, _, _, _, _⟩) (v := ?_) rfl (by kernel_rfl) (by kernel_rfl) (by kernel_rfl) (fun _ _ _ h => h) (Or.inl ⟨by rfl, ?_⟩) hS ?_
  rotate_left
  · intro wz hSw
    clear hSw
    go_simp
    first | done | with_reducible rfl
  try simp only [Act.put, List.setIfInBounds_toArray, List.set_cons_zero, List.set_cons_succ]
  refine wpAnyH_take (i := 26) (oi := ⟨some 47, _, _, _, _, _⟩) (v := ?_) rfl (by kernel_rfl) (by kernel_rfl) (by kernel_rfl) (fun _ _ _ h => h) (Or.inl ⟨by rfl, ?_⟩) hS ?_
  rotate_left
  · intro wz hSw
    clear hSw
    go_simp
    first | done | with_reducible rfl
  try simp only [Act.put, List.setIfInBounds_toArray, List.set_cons_zero, List.set_cons_succ]
  refine wpAnyH_ready (rs := [23]) (by kernel_rfl) (by simp) ?_
  refine AllReadyH.cons (o := ⟨some 44, _, _, _, _, _⟩) rfl (fun K hK => ?_) AllReadyH.nil
  go_simp
  refine (text_any (.slice bo l.length bc) l s hl9' _ ?_).mono ?_
  · exact hbD
  rintro eE wE ⟨vE, rfl, hoE, hqE⟩
  replace hoE : Own wE wD.heap.size vE (l ++ tx s) := hoE
  have hrE : Below wD.heap.size wD wE :=  hqE
  have hOE := hOD.below hrE
  have hBE := hBD.trans (hrE.mono hBD.size)
  have hzE := hBE.size
  have hmA4 := hmA3.below hrE
  have hmC2 := hmC.below hrE
  go_wp2_with fail
  refine hK.out _ _ (⟨hmA4.bs, hmC2.bs⟩) (fun hS => ?_)
  clear hK K
  try simp only [Act.put, List.setIfInBounds_toArray, List.set_cons_zero, List.set_cons_succ]
  have hS' : (fun w' => Bs w' vA (l ++ le x 8) ∧ Bs w' vC (l ++ le x 1) ∧ Bs w' vE (l ++ tx s)) wE := ⟨hmA4.bs, hmC2.bs, hoE.bs⟩
  refine wpAnyH_mono (S' := (fun w' => Bs w' vA (l ++ le x 8) ∧ Bs w' vC (l ++ le x 1) ∧ Bs w' vE (l ++ tx s))) (fun _ h => ⟨h.1, h.2.1⟩) _ _ _ _ ?_
  clear hS
  have hS := hS'
  clear hS'
  refine wpAnyH_take (i := 24) (oi := ⟨some 45, _, _, _, _, _⟩) (v := ?_) rfl (by kernel_rfl) (by kernel_rfl) (by kernel_rfl) (fun _ _ _ h => h) (Or.inl ⟨by rfl, ?_⟩) hS ?_
  rotate_left
  · intro wz hSw; have hcz := run_conv_bytes (hSw.2.2)
    clear hSw
    go_simp
    first | done | with_reducible rfl
  try simp only [Act.put, List.setIfInBounds_toArray, List.set_cons_zero, List.set_cons_succ]
  refine wpAnyH_ready (rs := [27]) (by kernel_rfl) (by simp) ?_
  refine AllReadyH.cons (o := ⟨some 48, _, _, _, _, _⟩) rfl (fun K hK => ?_) AllReadyH.nil
  go_simp
  refine (refText_any w.heap.size v7 l s hs9 hl9 _ ?_ ?_).mono ?_
  · exact hzE
  · exact hOE
  rintro eF wF ⟨vF, rfl, hsF⟩
  have hgF : wE.grownBy wF v7.ownBlock := hsF.grown
  have hOF := hsF.old
  have hBF := hBE.grown hgF hzE (fun q hq => (hOD.out.lt q hq).1)
  have hbF := hbs.below hBF
  have hmA5 : Own wF w2.heap.size vA (l ++ le x 8) := World.ownsRow.kept hmA4 hgF (apart hmA4 hO2)
  have hmC3 : Own wF wB.heap.size vC (l ++ le x 1) := World.ownsRow.kept hmC2 hgF (apart hmC2 hOB)
  have hmE : Own wF wD.heap.size vE (l ++ tx s) := World.ownsRow.kept hoE hgF (apart hoE hOD)
  go_wp2_with fail
  refine hK.out _ _ (⟨hmA5.bs, hmC3.bs, hmE.bs⟩) (fun hS => ?_)
  clear hK K
  try simp only [Act.put, List.setIfInBounds_toArray, List.set_cons_zero, List.set_cons_succ]
  have hcz := run_conv_bytes hsF.own.bs
  refine wpAnyH_ready (rs := [28]) (by kernel_rfl) (by simp) ?_
  refine AllReadyH.cons (o := ⟨some 49, _, _, _, _, _⟩) rfl (fun K hK => ?_) AllReadyH.nil
  go_simp
  refine hK.out _ _ hS (fun _ => ?_)
  clear hK K hcz
  try simp only [Act.put, List.setIfInBounds_toArray, List.set_cons_zero, List.set_cons_succ]
  refine wpAnyH_take (i := 29) (oi := ⟨some 50, _, _, _, _, _⟩) (v := ?_) rfl (by kernel_rfl) (by kernel_rfl) (by kernel_rfl) (fun _ _ _ h => h) (Or.inl ⟨by rfl, ?_⟩) hS ?_
  rotate_left
  · intro wz hSw
    clear hSw
    go_simp
    first | done | with_reducible rfl
  try simp only [Act.put, List.setIfInBounds_toArray, List.set_cons_zero, List.set_cons_succ]
  refine wpAnyH_take (i := 30) (oi := ⟨some 51, _, _, _, _, _⟩) (v := ?_) rfl (by kernel_rfl) (by kernel_rfl) (by kernel_rfl) (fun _ _ _ h => h) (Or.inl ⟨by rfl, ?_⟩) hS ?_
  rotate_left
  · intro wz hSw
    clear hSw
    go_simp
    first | done | with_reducible rfl
  try simp only [Act.put, List.setIfInBounds_toArray, List.set_cons_zero, List.set_cons_succ]
  refine wpAnyH_take (i := 31) (oi := ⟨some 6, _, _, _, _, _⟩) (v := ?_) rfl (by kernel_rfl) (by kernel_rfl) (by kernel_rfl) (fun _ _ _ h => h) (Or.inl ⟨by rfl, ?_⟩) hS ?_
  rotate_left
  · intro wz hSw
    clear hSw
    go_simp
    first | done | with_reducible rfl
  try simp only [Act.put, List.setIfInBounds_toArray, List.set_cons_zero, List.set_cons_succ]
  refine wpAnyH_done (by kernel_rfl) ?_ _
  go_wp2
  go_ret
  exact ⟨rfl, hBF⟩
end Go.Proofs.Ytkgdplbkhkafgaa
