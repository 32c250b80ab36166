/- Package value's laws: Sol. -/
import Derived.Test.YtecomfhbdonkbaaGreatDoorCl
namespace Go.Proofs.YtecomfhbdonkbaaGreatDoor
open Go.RowKit Go.Shelf Flo
set_option maxRecDepth 100000
set_option linter.unusedVariables false
set_option linter.unusedSimpArgs false

abbrev Pr2 := ByteArray × Tm
def pairC (p : Pr2) : List Value := [.string p.1, .int .i64 p.2.k, .string p.2.s, .string p.2.l, .string p.2.t]
theorem pairC_len (p : Pr2) : (pairC p).length = 5 := rfl
theorem pairC_one : ∀ p, ∀ u ∈ pairC p, u.oneCell' = true := by
  intro p u hu
  simp only [pairC, List.mem_cons, List.not_mem_nil, or_false] at hu
  rcases hu with rfl | rfl | rfl | rfl | rfl <;> rfl
theorem Tryz.infoPair : (Tryz.prog.info? 65).map (fun i => (i.zero, i.size, i.bytes)) = some (some (.agg #[.string ⟨#[]⟩, .int .i64 0, .string ⟨#[]⟩, .string ⟨#[]⟩, .string ⟨#[]⟩]), 5, 72) := by kernel_rfl
abbrev OwP := @OwG Pr2 65 pairC 5
def slt (L : List Pr2) : Slt := L.map (fun p => (p.1.data.toList, p.2))
theorem sol_of_own {z : World} {base : Nat} {sv : Value} {L : List Pr2} (h : OwP z base sv L) (hl : L.length ≤ 1000) (hs : ∀ p ∈ L, p.2.Sm) : SolAt z.heap.size z sv (slt L) := by
  have hlen : (slt L).length = L.length := by unfold slt; rw [List.length_map]
  by_cases h0 : L = []
  · subst h0
    obtain ⟨ao, cap, rfl, -⟩ := OwG.form h
    exact ⟨by simp [slt], ao, cap, rfl, fun i hi => absurd hi (by simp [slt])⟩
  · have hpos : 0 < L.length := List.length_pos_iff.2 h0
    obtain ⟨g, cap, rfl, h1, h2, h3, h4, h5, h6⟩ := OwG.at h pairC_len hpos
    refine ⟨by rw [hlen]; exact hl, some ⟨g, 0, none⟩, cap, by rw [hlen], fun i hi => ?_⟩
    have hi' : i < L.length := by rw [← hlen]; exact hi
    have hc := fun j u hu => h6 i hi' j u hu
    have e : (slt L)[i] = (L[i].1.data.toList, L[i].2) := List.getElem_map ..
    rw [e]
    refine ⟨g, 0, L[i].1, rfl, h2, rfl, ?_⟩
    rw [Nat.zero_add]
    exact ⟨hc 0 _ rfl, hc 1 _ rfl, hc 2 _ rfl, hc 3 _ rfl, hc 4 _ rfl, hs _ (List.getElem_mem hi')⟩
theorem abc_at {j : Nat} (hj : j < 3) : ∃ s : ByteArray, ∀ (v : World) (q : Nat) (ty : TypeId), Blk v q #[.string ⟨#[97]⟩, .string ⟨#[98]⟩, .string ⟨#[99]⟩] ty → v.cell? ⟨q, j, none⟩ = some (.string s) := by
  rcases (show j = 0 ∨ j = 1 ∨ j = 2 by omega) with rfl | rfl | rfl
  · exact ⟨_, fun v q ty h => h.cell 0⟩
  · exact ⟨_, fun v q ty h => h.cell 1⟩
  · exact ⟨_, fun v q ty h => h.cell 2⟩
/-- A region that is walked under a stronger condition. -/
theorem wpAnyH_mono2 {P : Program} {ops : Array Oper} {Q : Exit → Act → World → Prop} {md : Region.Mode} {S S' : World → Prop} (hS : ∀ w, S' w → S w) :
    ∀ (fuel : Nat) (listed : Array Bool) (a : Act) (w : World), wpAnyH P md ops Q S' fuel listed a w → wpAnyH P md ops Q S fuel listed a w
  | 0, _, _, _, h => h
  | fuel + 1, _, _, _, h => ⟨h.1, fun i hi => wpOp_mono (fun a' w' h' => ⟨hS _ h'.1, wpAnyH_mono2 hS fuel _ a' w' h'.2⟩) (h.2 i hi)⟩

set_option maxHeartbeats 8000000 in
theorem sol15_any (nsv : Value) (ns : List Int) (w : World) (h : IntIn w nsv ns) : Calls Tryz.prog 10 #[nsv] w fun e' w' => ∃ (sv : Value) (s : Slt), e' = .returned sv ∧ SolAt w'.heap.size w' sv s ∧ Below w.heap.size w w' := by
  obtain ⟨ao, cap, rfl⟩ := h.form
  have HI := Lib.hid h
  have HTM : Hid (∀ k, In64 k → ∃ t : Tm, t.Sm ∧ ∀ wz, Calls Tryz.prog 16 #[.int .i64 k] wz fun e w' => e = .returned (.agg #[.int .i64 t.k, .string t.s, .string t.l, .string t.t]) ∧ Below wz.heap.size wz w') := Lib.hid (fun k hk => ⟨termT k, termT_sm k, fun wz => term15_any k wz hk.1 hk.2⟩)
  clear h
  go_enter Tryz.func10, Tryz.ntmps10
  go_wp2_with fail
  go_loopw [3, 4] (fun sv i wx => ∃ (j : Nat) (L : List Pr2), i = .int .i64 (j : Int) ∧ j ≤ 3 ∧ L.length ≤ j ∧ OwP wx w.heap.size sv L ∧ (∀ p ∈ L, p.2.Sm) ∧ Below w.heap.size w wx) (fun _ i _ => 3 - (intOf i).toNat)
  case atStart => exact ⟨0, [], rfl, by decide, Nat.le_refl _, OwG.nil _ _ _ _ _, by simp, Below.refl _ _⟩
  case round =>
    obtain ⟨j, L, rfl, hj, hlj, hown, hsm, hbel⟩ := hrel
    have HO := Lib.hid hown
    have HS := Lib.hid hsm
    have HB := Lib.hid hbel
    obtain ⟨sao, scap, rfl, -⟩ := OwG.form hown
    clear hown hsm hbel
    by_cases hj3 : j < 3
    · by_cases hjn : j < ns.length
      · obtain ⟨b, o, cap', e, hb, hc⟩ := HI.out.row j hjn
        simp only [Value.slice.injEq, true_and] at e
        obtain ⟨rfl, rfl⟩ := e
        obtain ⟨x, hx⟩ : ∃ x, x = ns[j] := ⟨_, rfl⟩
        have HX := Lib.hid (show In64 x by rw [hx]; exact HI.out.rng _ (List.getElem_mem hjn))
        rw [← hx] at hc
        have hc' : wr.cell? ⟨b, o + j, none⟩ = some (.int .i64 x) := (HB.out.cell (p := ⟨b, o + j, none⟩) hb).trans hc
        have HC := Lib.hid hc'
        have HBW := Lib.hid hb
        have HCW := Lib.hid hc
        have hl3 : (j : Int) < 3 := by omega
        have hln : (j : Int) < (ns.length : Int) := by omega
        clear hx hc
        go_wp2_with fail
        · have HO0 := Lib.hid (show OwP (World.drew wr) w.heap.size (.slice sao L.length scap) L from OwG.below HO.out (below_drew15 _))
          refine wp_region_any (by kernel_rfl) ?_
          change wpAny _ _ _ _ _ _ _ (World.drew _)
          refine wpAny_of_held (S := fun z => Below w.heap.size w z) _ _ _ _ ?_
          have hS : (fun z => Below w.heap.size w z) (World.drew wr) := HB.out.trans ((below_drew15 wr).mono HB.out.size)
          generalize World.drew wr = u0 at hS HO0 ⊢
          obtain ⟨s, hss⟩ := abc_at hj3
          have HSS := Lib.hid hss
          clear hss hc'
          refine wpAnyH_take (i := 0) (oi := ⟨some 21, _, _, _, _, _⟩) (v := ?_) rfl (by kernel_rfl) (by kernel_rfl) (by kernel_rfl) (fun _ _ _ h => h) (Or.inl ⟨by simp only [Region.wanted], ?_⟩) hS ?_
          rotate_left
          · intro wz hSw
            clear hSw
            go_simp
            first | done | with_reducible rfl
          try simp only [Act.put, List.setIfInBounds_toArray, List.set_cons_zero, List.set_cons_succ]
          refine wpAnyH_take (i := 2) (oi := ⟨some 23, _, _, _, _, _⟩) (v := ?_) rfl (by kernel_rfl) (by kernel_rfl) (by kernel_rfl) (fun _ _ _ h => h) (Or.inl ⟨by simp only [Region.wanted], ?_⟩) hS ?_
          rotate_left
          · intro wz hSw
            clear hSw
            go_simp
            first | done | with_reducible rfl
          try simp only [Act.put, List.setIfInBounds_toArray, List.set_cons_zero, List.set_cons_succ]
          refine wpAnyH_take (i := 5) (oi := ⟨some 26, _, _, _, _, _⟩) (v := ?_) rfl (by kernel_rfl) (by kernel_rfl) (by kernel_rfl) (fun _ _ _ h => h) (Or.inl ⟨by simp only [Region.wanted], ?_⟩) hS ?_
          rotate_left
          · intro wz hSw
            clear hSw
            go_simp
            first | done | with_reducible rfl
          try simp only [Act.put, List.setIfInBounds_toArray, List.set_cons_zero, List.set_cons_succ]
          refine wpAnyH_take (i := 6) (oi := ⟨some 27, _, _, _, _, _⟩) (v := ?_) rfl (by kernel_rfl) (by kernel_rfl) (by kernel_rfl) (fun _ _ _ h => h) (Or.inl ⟨by simp only [Region.wanted], ?_⟩) hS ?_
          rotate_left
          · intro wz hSw
            clear hSw
            go_simp
            first | done | with_reducible rfl
          try simp only [Act.put, List.setIfInBounds_toArray, List.set_cons_zero, List.set_cons_succ]
          refine wpAnyH_take (i := 7) (oi := ⟨some 28, _, _, _, _, _⟩) (v := ?_) rfl (by kernel_rfl) (by kernel_rfl) (by kernel_rfl) (fun _ _ _ h => h) (Or.inl ⟨by simp only [Region.wanted], ?_⟩) hS ?_
          rotate_left
          · intro wz hSw
            clear hSw
            go_simp
            first | done | with_reducible rfl
          try simp only [Act.put, List.setIfInBounds_toArray, List.set_cons_zero, List.set_cons_succ]
          refine wpAnyH_take (i := 8) (oi := ⟨some 29, _, _, _, _, _⟩) (v := ?_) rfl (by kernel_rfl) (by kernel_rfl) (by kernel_rfl) (fun _ _ _ h => h) (Or.inl ⟨by simp only [Region.wanted], ?_⟩) hS ?_
          rotate_left
          · intro wz hSw; have c0 := (hSw.cell (p := ⟨b, o + j, none⟩) HBW.out).trans HCW.out
            clear hSw
            go_simp
            first | done | with_reducible rfl
          try simp only [Act.put, List.setIfInBounds_toArray, List.set_cons_zero, List.set_cons_succ]
          refine wpAnyH_ready (rs := [1, 9]) (by kernel_rfl) (by simp) ?_
          refine AllReadyH.cons (o := ⟨some 22, _, _, _, _, _⟩) rfl (fun K hK => ?_) (AllReadyH.cons (o := ⟨some 30, _, _, _, _, _⟩) rfl (fun K hK => ?_) AllReadyH.nil)
          · go_simp
            refine hK.out _ _ (hS.trans (((Below.refl _ _).alloc (Nat.le_refl _) _).mono hS.size)) (fun hS => ?_)
            clear hK K
            try simp only [Act.put, List.setIfInBounds_toArray, List.set_cons_zero, List.set_cons_succ]
            have hq := Blk.new u0 #[.string ⟨#[97]⟩, .string ⟨#[98]⟩, .string ⟨#[99]⟩] 9
            have HO1 := Lib.hid (OwG.below HO0.out ((Below.refl u0.heap.size u0).alloc (Nat.le_refl _) (.cells #[.string ⟨#[97]⟩, .string ⟨#[98]⟩, .string ⟨#[99]⟩] 9)))
            generalize World.alloc u0 _ = u1 at hS hq HO1 ⊢
            have HQO := Lib.hid (fun r (hr : (Value.slice sao L.length scap).ownBlock = some r) => (OwG.lt HO0.out r hr).2)
            have hS' : (fun z => Below w.heap.size w z ∧ Blk z u0.heap.size #[.string ⟨#[97]⟩, .string ⟨#[98]⟩, .string ⟨#[99]⟩] 9) (u1) := ⟨hS, hq⟩
            refine wpAnyH_mono2 (S' := fun z => Below w.heap.size w z ∧ Blk z u0.heap.size #[.string ⟨#[97]⟩, .string ⟨#[98]⟩, .string ⟨#[99]⟩] 9) (fun _ h => h.1) _ _ _ _ ?_
            clear hS
            have hS := hS'
            clear hS'
            clear hq
            refine wpAnyH_take (i := 3) (oi := ⟨some 24, _, _, _, _, _⟩) (v := ?_) rfl (by kernel_rfl) (by kernel_rfl) (by kernel_rfl) (fun _ _ _ h => h) (Or.inl ⟨by simp only [Region.wanted], ?_⟩) hS ?_
            rotate_left
            · intro wz hSw
              clear hSw
              go_simp
              first | done | with_reducible rfl
            try simp only [Act.put, List.setIfInBounds_toArray, List.set_cons_zero, List.set_cons_succ]
            refine wpAnyH_take (i := 4) (oi := ⟨some 25, _, _, _, _, _⟩) (v := ?_) rfl (by kernel_rfl) (by kernel_rfl) (by kernel_rfl) (fun _ _ _ h => h) (Or.inl ⟨by simp only [Region.wanted], ?_⟩) hS ?_
            rotate_left
            · intro wz hSw; have c0 := HSS.out _ _ _ hSw.2
              clear hSw
              go_simp
              first | done | with_reducible rfl
            try simp only [Act.put, List.setIfInBounds_toArray, List.set_cons_zero, List.set_cons_succ]
            refine wpAnyH_ready (rs := [9]) (by kernel_rfl) (by simp) ?_
            refine AllReadyH.cons (o := ⟨some 30, _, _, _, _, _⟩) rfl (fun K hK => ?_) AllReadyH.nil
            go_simp
            obtain ⟨t, hts, htc⟩ := HTM.out x HX.out
            have HTS := Lib.hid hts
            refine (htc _).mono ?_
            rintro e u2 ⟨rfl, hbb⟩
            have hSn : Below w.heap.size w u2 ∧ Blk u2 u0.heap.size #[.string ⟨#[97]⟩, .string ⟨#[98]⟩, .string ⟨#[99]⟩] 9 := ⟨hS.1.trans (hbb.mono hS.1.size), blk_on hS.2 hbb⟩
            have HO2 := Lib.hid (OwG.below HO1.out hbb)
            have HBB := Lib.hid hbb
            clear hbb hts htc
            go_wp2_with fail
            refine hK.out _ _ hSn (fun hS => ?_)
            clear hK K hSn
            try simp only [Act.put, List.setIfInBounds_toArray, List.set_cons_zero, List.set_cons_succ]
            refine wpAnyH_take (i := 10) (oi := ⟨some 31, _, _, _, _, _⟩) (v := ?_) rfl (by kernel_rfl) (by kernel_rfl) (by kernel_rfl) (fun _ _ _ h => h) (Or.inl ⟨by simp only [Region.wanted], ?_⟩) hS ?_
            rotate_left
            · intro wz hSw
              clear hSw
              go_simp
              first | done | with_reducible rfl
            try simp only [Act.put, List.setIfInBounds_toArray, List.set_cons_zero, List.set_cons_succ]
            refine wpAnyH_ready (rs := [11]) (by kernel_rfl) (by simp) ?_
            refine AllReadyH.cons (o := ⟨some 32, _, _, _, _, _⟩) rfl (fun K hK => ?_) AllReadyH.nil
            go_simp
            have hbx := Blk.new u2 #[.string s, .int .i64 t.k, .string t.s, .string t.l, .string t.t] 65
            have hal : Below u2.heap.size u2 (u2.alloc (.cells #[.string s, .int .i64 t.k, .string t.s, .string t.l, .string t.t] 65)) := (Below.refl _ _).alloc (Nat.le_refl _) _
            refine hK.out _ _ ⟨hS.1.trans (hal.mono hS.1.size), blk_on hS.2 hal⟩ (fun hS => ?_)
            clear hK K
            try simp only [Act.put, List.setIfInBounds_toArray, List.set_cons_zero, List.set_cons_succ]
            generalize World.alloc u2 _ = u3 at hS hbx hal ⊢
            have HO3 := Lib.hid (OwG.below HO2.out hal)
            have HBX := Lib.hid hbx
            clear hbx hal
            refine wpAnyH_ready (rs := [12]) (by kernel_rfl) (by simp) ?_
            refine AllReadyH.cons (o := ⟨some 33, _, _, _, _, _⟩) rfl (fun K hK => ?_) AllReadyH.nil
            refine step_append_g rfl _ _ 31 65 pairC 5 72 _ rfl Tryz.underlying31 Tryz.infoPair rfl (by decide) (by decide) pairC_len pairC_one w.heap.size hS.1.size (.slice sao L.length scap) L rfl HO3.out u2.heap.size rfl (⟨s, t⟩ : Pr2) HBX.out (L.length + 1) rfl (by omega) ?_
            intro g cap u4 ho hc1 hc2 hgr hsame hlt2
            have hown3 : ∀ r, (Value.slice sao L.length scap).ownBlock = some r → w.heap.size ≤ r ∧ r < u3.heap.size := OwG.lt HO3.out
            have hS4 : Below w.heap.size w u4 ∧ Blk u4 u0.heap.size #[.string ⟨#[97]⟩, .string ⟨#[98]⟩, .string ⟨#[99]⟩] 9 := ⟨hS.1.trans ⟨hgr.os, hgr.tape, hgr.output, hgr.size, fun i hi => hgr.block i (Nat.lt_of_lt_of_le hi hS.1.size) (fun e => by have := (hown3 i e.symm).1; omega)⟩, (hgr.block _ hS.2.lt (fun e => by have := HQO.out _ e.symm; omega)).trans hS.2⟩
            have HO4 := Lib.hid ho
            have HB4 := Lib.hid hS4.1
            clear ho hgr hsame hown3
            refine hK.out _ _ hS4 (fun hS => ?_)
            clear hK K hS4
            try simp only [Act.put, List.setIfInBounds_toArray, List.set_cons_zero, List.set_cons_succ]
            refine wpAnyH_take (i := 13) (oi := ⟨some 3, _, _, _, _, _⟩) (v := ?_) rfl (by kernel_rfl) (by kernel_rfl) (by kernel_rfl) (fun _ _ _ h => h) (Or.inl ⟨by simp only [Region.wanted], ?_⟩) hS ?_
            rotate_left
            · intro wz hSw
              clear hSw
              go_simp
              first | done | with_reducible rfl
            try simp only [Act.put, List.setIfInBounds_toArray, List.set_cons_zero, List.set_cons_succ]
            refine wpAnyH_done (by kernel_rfl) ?_ _
            clear hS
            go_wp2_with fail
            go_roundw
            case rel => exact ⟨j + 1, L ++ [(s, t)], by go_num, by omega, by rw [List.length_append]; show L.length + 1 ≤ j + 1; omega, HO4.out, fun p hp => by
              rcases List.mem_append.1 hp with hp | hp
              · exact HS.out p hp
              · rw [List.mem_singleton.1 hp]; exact HTS.out, HB4.out⟩
            case measure => simp [intOf]; omega
          · go_simp
            obtain ⟨t, hts, htc⟩ := HTM.out x HX.out
            have HTS := Lib.hid hts
            refine (htc _).mono ?_
            rintro e u1 ⟨rfl, hbb⟩
            have hSn : Below w.heap.size w u1 := hS.trans (hbb.mono hS.size)
            have HO1 := Lib.hid (OwG.below HO0.out hbb)
            have HBB := Lib.hid hbb
            clear hbb hts htc
            go_wp2_with fail
            refine hK.out _ _ hSn (fun hS => ?_)
            clear hK K hSn
            try simp only [Act.put, List.setIfInBounds_toArray, List.set_cons_zero, List.set_cons_succ]
            refine wpAnyH_ready (rs := [1]) (by kernel_rfl) (by simp) ?_
            refine AllReadyH.cons (o := ⟨some 22, _, _, _, _, _⟩) rfl (fun K hK => ?_) AllReadyH.nil
            go_simp
            refine hK.out _ _ (hS.trans (((Below.refl _ _).alloc (Nat.le_refl _) _).mono hS.size)) (fun hS => ?_)
            clear hK K
            try simp only [Act.put, List.setIfInBounds_toArray, List.set_cons_zero, List.set_cons_succ]
            have hq := Blk.new u1 #[.string ⟨#[97]⟩, .string ⟨#[98]⟩, .string ⟨#[99]⟩] 9
            have HO2 := Lib.hid (OwG.below HO1.out ((Below.refl u1.heap.size u1).alloc (Nat.le_refl _) (.cells #[.string ⟨#[97]⟩, .string ⟨#[98]⟩, .string ⟨#[99]⟩] 9)))
            generalize World.alloc u1 _ = u2 at hS hq HO2 ⊢
            have HQO := Lib.hid (fun r (hr : (Value.slice sao L.length scap).ownBlock = some r) => (OwG.lt HO1.out r hr).2)
            have hS' : (fun z => Below w.heap.size w z ∧ Blk z u1.heap.size #[.string ⟨#[97]⟩, .string ⟨#[98]⟩, .string ⟨#[99]⟩] 9) (u2) := ⟨hS, hq⟩
            refine wpAnyH_mono2 (S' := fun z => Below w.heap.size w z ∧ Blk z u1.heap.size #[.string ⟨#[97]⟩, .string ⟨#[98]⟩, .string ⟨#[99]⟩] 9) (fun _ h => h.1) _ _ _ _ ?_
            clear hS
            have hS := hS'
            clear hS'
            clear hq
            refine wpAnyH_take (i := 3) (oi := ⟨some 24, _, _, _, _, _⟩) (v := ?_) rfl (by kernel_rfl) (by kernel_rfl) (by kernel_rfl) (fun _ _ _ h => h) (Or.inl ⟨by simp only [Region.wanted], ?_⟩) hS ?_
            rotate_left
            · intro wz hSw
              clear hSw
              go_simp
              first | done | with_reducible rfl
            try simp only [Act.put, List.setIfInBounds_toArray, List.set_cons_zero, List.set_cons_succ]
            refine wpAnyH_take (i := 4) (oi := ⟨some 25, _, _, _, _, _⟩) (v := ?_) rfl (by kernel_rfl) (by kernel_rfl) (by kernel_rfl) (fun _ _ _ h => h) (Or.inl ⟨by simp only [Region.wanted], ?_⟩) hS ?_
            rotate_left
            · intro wz hSw; have c0 := HSS.out _ _ _ hSw.2
              clear hSw
              go_simp
              first | done | with_reducible rfl
            try simp only [Act.put, List.setIfInBounds_toArray, List.set_cons_zero, List.set_cons_succ]
            refine wpAnyH_take (i := 10) (oi := ⟨some 31, _, _, _, _, _⟩) (v := ?_) rfl (by kernel_rfl) (by kernel_rfl) (by kernel_rfl) (fun _ _ _ h => h) (Or.inl ⟨by simp only [Region.wanted], ?_⟩) hS ?_
            rotate_left
            · intro wz hSw
              clear hSw
              go_simp
              first | done | with_reducible rfl
            try simp only [Act.put, List.setIfInBounds_toArray, List.set_cons_zero, List.set_cons_succ]
            refine wpAnyH_ready (rs := [11]) (by kernel_rfl) (by simp) ?_
            refine AllReadyH.cons (o := ⟨some 32, _, _, _, _, _⟩) rfl (fun K hK => ?_) AllReadyH.nil
            go_simp
            have hbx := Blk.new u2 #[.string s, .int .i64 t.k, .string t.s, .string t.l, .string t.t] 65
            have hal : Below u2.heap.size u2 (u2.alloc (.cells #[.string s, .int .i64 t.k, .string t.s, .string t.l, .string t.t] 65)) := (Below.refl _ _).alloc (Nat.le_refl _) _
            refine hK.out _ _ ⟨hS.1.trans (hal.mono hS.1.size), blk_on hS.2 hal⟩ (fun hS => ?_)
            clear hK K
            try simp only [Act.put, List.setIfInBounds_toArray, List.set_cons_zero, List.set_cons_succ]
            generalize World.alloc u2 _ = u3 at hS hbx hal ⊢
            have HO3 := Lib.hid (OwG.below HO2.out hal)
            have HBX := Lib.hid hbx
            clear hbx hal
            refine wpAnyH_ready (rs := [12]) (by kernel_rfl) (by simp) ?_
            refine AllReadyH.cons (o := ⟨some 33, _, _, _, _, _⟩) rfl (fun K hK => ?_) AllReadyH.nil
            refine step_append_g rfl _ _ 31 65 pairC 5 72 _ rfl Tryz.underlying31 Tryz.infoPair rfl (by decide) (by decide) pairC_len pairC_one w.heap.size hS.1.size (.slice sao L.length scap) L rfl HO3.out u2.heap.size rfl (⟨s, t⟩ : Pr2) HBX.out (L.length + 1) rfl (by omega) ?_
            intro g cap u4 ho hc1 hc2 hgr hsame hlt2
            have hown3 : ∀ r, (Value.slice sao L.length scap).ownBlock = some r → w.heap.size ≤ r ∧ r < u3.heap.size := OwG.lt HO3.out
            have hS4 : Below w.heap.size w u4 ∧ Blk u4 u1.heap.size #[.string ⟨#[97]⟩, .string ⟨#[98]⟩, .string ⟨#[99]⟩] 9 := ⟨hS.1.trans ⟨hgr.os, hgr.tape, hgr.output, hgr.size, fun i hi => hgr.block i (Nat.lt_of_lt_of_le hi hS.1.size) (fun e => by have := (hown3 i e.symm).1; omega)⟩, (hgr.block _ hS.2.lt (fun e => by have := HQO.out _ e.symm; omega)).trans hS.2⟩
            have HO4 := Lib.hid ho
            have HB4 := Lib.hid hS4.1
            clear ho hgr hsame hown3
            refine hK.out _ _ hS4 (fun hS => ?_)
            clear hK K hS4
            try simp only [Act.put, List.setIfInBounds_toArray, List.set_cons_zero, List.set_cons_succ]
            refine wpAnyH_take (i := 13) (oi := ⟨some 3, _, _, _, _, _⟩) (v := ?_) rfl (by kernel_rfl) (by kernel_rfl) (by kernel_rfl) (fun _ _ _ h => h) (Or.inl ⟨by simp only [Region.wanted], ?_⟩) hS ?_
            rotate_left
            · intro wz hSw
              clear hSw
              go_simp
              first | done | with_reducible rfl
            try simp only [Act.put, List.setIfInBounds_toArray, List.set_cons_zero, List.set_cons_succ]
            refine wpAnyH_done (by kernel_rfl) ?_ _
            clear hS
            go_wp2_with fail
            go_roundw
            case rel => exact ⟨j + 1, L ++ [(s, t)], by go_num, by omega, by rw [List.length_append]; show L.length + 1 ≤ j + 1; omega, HO4.out, fun p hp => by
              rcases List.mem_append.1 hp with hp | hp
              · exact HS.out p hp
              · rw [List.mem_singleton.1 hp]; exact HTS.out, HB4.out⟩
            case measure => simp [intOf]; omega

        · exact ⟨⟨j + 1, L, by go_num, by omega, by omega, HO.out, HS.out, HB.out⟩, by simp [intOf]; omega⟩
      · have hl3 : (j : Int) < 3 := by omega
        have hln : ¬ (j : Int) < (ns.length : Int) := by omega
        go_wp2_with fail
        go_ret
        exact ⟨_, rfl, ⟨slt L, sol_of_own HO.out (by omega) HS.out⟩, HB.out⟩

    · have hl3 : ¬ (j : Int) < 3 := by omega
      go_wp2_with fail
      go_ret
      exact ⟨_, rfl, ⟨slt L, sol_of_own HO.out (by omega) HS.out⟩, HB.out⟩

end Go.Proofs.YtecomfhbdonkbaaGreatDoor
