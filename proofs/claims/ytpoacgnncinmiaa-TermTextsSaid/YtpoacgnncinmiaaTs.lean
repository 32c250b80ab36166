/- Terms: TermTexts. -/
import Derived.Test.YtpoacgnncinmiaaTl
import Derived.Test.YtpoacgnncinmiaaTr
import Derived.Test.YtpoacgnncinmiaaTm
import Derived.Test.YtpoacgnncinmiaaTn
import Derived.Deep.DeepCutAuto
namespace Go.Proofs.Ytpoacgnncinmiaa
open Go.RowKit
set_option maxRecDepth 100000

/-- A region that is walked under a stronger condition. -/
theorem wpAnyH_mono {P : Program} {ops : Array Oper} {Q : Exit → Act → World → Prop} {md : Region.Mode} {S S' : World → Prop} (hS : ∀ w, S' w → S w) :
    ∀ (fuel : Nat) (listed : Array Bool) (a : Act) (w : World), wpAnyH P md ops Q S' fuel listed a w → wpAnyH P md ops Q S fuel listed a w
  | 0, _, _, _, h => h
  | fuel + 1, _, _, _, h => ⟨h.1, fun i hi => wpOp_mono (fun a' w' h' => ⟨hS _ h'.1, wpAnyH_mono hS fuel _ a' w' h'.2⟩) (h.2 i hi)⟩

theorem few_of {x : Tm} (hx : x.Ok) (h : fewB x = true) : x.Few := by
  unfold fewB at h
  simp at h
  exact ⟨hx.k, h.1.1, h.1.2, h.2⟩
/-- What 'x, y := Good(a), Good(b)' leaves. -/
def Two (w wx : World) (s5 s6 : Value) (x y : Tm) : Prop := ∃ p q : Nat, s5 = .pointer (some ⟨p, 0, none⟩) ∧ s6 = .pointer (some ⟨q, 0, none⟩) ∧ Box wx p x ∧ Box wx q y ∧ Below w.heap.size w wx
def eqB (x y : Tm) : Bool := x.k == y.k && (x.s.toList == y.s.toList && (x.l.toList == y.l.toList && x.t.toList == y.t.toList))
theorem eqB_iff (x y : Tm) : eqB x y = true ↔ x = y := by
  obtain ⟨k, s, l, t⟩ := x
  obtain ⟨k2, s2, l2, t2⟩ := y
  unfold eqB
  simp only [Lib.toList_data, Bool.and_eq_true, beq_iff_eq, Tm.mk.injEq]
  constructor
  · rintro ⟨h1, h2, h3, h4⟩; exact ⟨h1, ba_ext h2, ba_ext h3, ba_ext h4⟩
  · rintro ⟨rfl, rfl, rfl, rfl⟩; exact ⟨rfl, rfl, rfl, rfl⟩
theorem equal_term (x y : Tm) (w : World) : (Op.equalIn 10000 23 x.val y.val).run Try.prog w = .ok (eqB x y) w := by
  obtain ⟨k, s, l, t⟩ := x
  obtain ⟨k2, s2, l2, t2⟩ := y
  unfold Tm.val eqB
  dsimp only
  cases h1 : k == k2 <;> cases h2 : s.toList == s2.toList <;> cases h3 : l.toList == l2.toList <;> cases h4 : t.toList == t2.toList
  all_goals go_simp
set_option maxHeartbeats 8000000 in
theorem texts_walk (x y : Tm) (hx : x.Ok) (hy : y.Ok) (w : World) :
    Calls Try.prog 6 #[x.val, y.val] w fun e w' => e = .returned (.bool true) ∧ Below w.heap.size w w' := by
  have hfx := few_any x
  have hfy := few_any y
  have hgx := good_any x
  have hgy := good_any y
  generalize hGX : goodT x = gx at hgx
  generalize hGY : goodT y = gy at hgy
  have hGDX : gx.Good := by rw [← hGX]; exact good_good x
  have hGDY : gy.Good := by rw [← hGY]; exact good_good y
  have htx := text_any6 gx (by have := hGDX.s; omega) (by have := hGDX.l; omega) (by have := hGDX.t; omega)
  have hty := text_any6 gy (by have := hGDY.s; omega) (by have := hGDY.l; omega) (by have := hGDY.t; omega)
  have hbx := bytes_any gx
  have hby := bytes_any gy
  obtain ⟨eqb, heq⟩ : ∃ eqb, eqb = eqB gx gy := ⟨_, rfl⟩
  have hxy : ((bl (textL gx)).toList == (bl (textL gy)).toList) = eqb := by
    rw [heq, Lib.toList_data, Lib.toList_data, bl_toList, bl_toList, Bool.eq_iff_iff, eqB_iff, beq_iff_eq]
    exact ⟨fun h => text_two hGDX hGDY h, fun h => by rw [h]⟩
  have huv : ((⟨(encT gx).toArray⟩ : ByteArray).toList == (⟨(encT gy).toArray⟩ : ByteArray).toList) = eqb := by
    rw [heq, Lib.toList_data, Lib.toList_data, Bool.eq_iff_iff, eqB_iff, beq_iff_eq]
    exact ⟨fun h => enc_two hGDX hGDY h, fun h => by rw [h]⟩
  have hst : ∀ w : World, (Op.equalIn 10000 23 gx.val gy.val).run Try.prog w = .ok eqb w := fun w => by rw [equal_term, heq]
  have HGX := Lib.hid fun h => hgx (few_of hx h)
  have HGY := Lib.hid fun h => hgy (few_of hy h)
  clear hGX hGY hgx hgy hx hy heq hGDX hGDY
  generalize hX : bl (textL gx) = X at *
  generalize hY : bl (textL gy) = Y at *
  clear hX hY
  generalize hU : (⟨(encT gx).toArray⟩ : ByteArray) = U at *
  generalize hV : (⟨(encT gy).toArray⟩ : ByteArray) = V at *
  have HU := Lib.hid hU
  have HV := Lib.hid hV
  clear hU hV
  generalize encT gx = lx at *
  generalize encT gy = ly at *
  have HXY := Lib.hid hxy
  have HUV := Lib.hid huv
  clear hxy huv
  generalize fewB x = fx at *
  generalize fewB y = fy at *
  obtain ⟨k, s, l, t⟩ := x
  obtain ⟨k2, s2, l2, t2⟩ := y
  obtain ⟨gk, gs, gl, gt⟩ := gx
  obtain ⟨hk, hs', hl, ht⟩ := gy
  unfold Tm.val at hfx hfy htx hty hbx hby hst HGX HGY ⊢
  dsimp only at hfx hfy htx hty hbx hby hst HGX HGY ⊢
  have HFX := Lib.hid hfx
  have HFY := Lib.hid hfy
  have HTX := Lib.hid htx
  have HTY := Lib.hid hty
  have HBX := Lib.hid hbx
  have HBY := Lib.hid hby
  have HST := Lib.hid hst
  clear hfx hfy htx hty hbx hby hst
  obtain ⟨W, hW⟩ : ∃ W, W = (w.alloc (.cells #[.int .i64 k, .string s, .string l, .string t] 23)).alloc (.cells #[.int .i64 k2, .string s2, .string l2, .string t2] 23) := ⟨_, rfl⟩
  have hA : Box W w.heap.size ⟨k, s, l, t⟩ ∧ Box W (w.heap.size + 1) ⟨k2, s2, l2, t2⟩ ∧ Below w.heap.size w W := by
    subst hW
    refine ⟨⟨?_, ?_, ?_, ?_⟩, ⟨?_, ?_, ?_, ?_⟩, ((Below.refl _ _).alloc (Nat.le_refl _) _).alloc (by simp) _⟩ <;> simp
  have HA := Lib.hid hA
  have HW := Lib.hid hW
  clear hA hW
  go_enter Try.func6, Try.ntmps6
  go_wp2_with fail
  simp only [← HW.out]
  refine (known_any W).mono ?_
  rintro e w1 ⟨rfl, hb⟩
  have hA1 := And.intro (HA.out.1.below hb) (And.intro (HA.out.2.1.below hb) (HA.out.2.2.trans (hb.mono HA.out.2.2.size)))
  have HA1 := Lib.hid hA1
  clear hb hA1 HA HW
  obtain ⟨c0, c1, c2, c3⟩ := HA1.out.1
  go_wp2_with fail
  refine (HFX.out _).mono ?_
  rintro e w2 ⟨rfl, hb⟩
  have hA2 := And.intro (HA1.out.1.below hb) (And.intro (HA1.out.2.1.below hb) (HA1.out.2.2.trans (hb.mono HA1.out.2.2.size)))
  have HA2 := Lib.hid hA2
  clear hb hA2 HA1 c0 c1 c2 c3
  cases fx with
  | false =>
    go_wp2_with fail
    go_ret
    exact ⟨rfl, HA2.out.2.2⟩
  | true =>
  obtain ⟨c0, c1, c2, c3⟩ := HA2.out.2.1
  go_wp2_with fail
  refine (HFY.out _).mono ?_
  rintro e w3 ⟨rfl, hb⟩
  have hA3 := And.intro (HA2.out.1.below hb) (And.intro (HA2.out.2.1.below hb) (HA2.out.2.2.trans (hb.mono HA2.out.2.2.size)))
  have HA3 := Lib.hid hA3
  clear hb hA3 HA2 c0 c1 c2 c3
  cases fy with
  | false =>
    go_wp2_with fail
    go_ret
    exact ⟨rfl, HA3.out.2.2⟩
  | true =>
  replace HGX := Lib.hid (HGX.out (by trivial))
  replace HGY := Lib.hid (HGY.out (by trivial))
  go_upto_region 5 with fail
  go_cut [5, 6] (fun s5 s6 wx => Two w wx s5 s6 ⟨gk, gs, gl, gt⟩ ⟨hk, hs', hl, ht⟩)
  case first =>
    obtain ⟨V0, hV0⟩ : ∃ V0, V0 = w3.drew := ⟨_, rfl⟩
    have hS : (fun w' : World => Box w' w.heap.size ⟨k, s, l, t⟩ ∧ Box w' (w.heap.size + 1) ⟨k2, s2, l2, t2⟩ ∧ Below w.heap.size w w') V0 := by subst hV0; exact ⟨HA3.out.1, HA3.out.2.1, HA3.out.2.2.drew⟩
    refine wp_region_any (by kernel_rfl) ?_
    change wpAny _ _ _ _ _ _ _ (World.drew _)
    rw [← hV0]
    clear hV0
    refine wpAny_of_held (S := fun w' : World => Box w' w.heap.size ⟨k, s, l, t⟩ ∧ Box w' (w.heap.size + 1) ⟨k2, s2, l2, t2⟩ ∧ Below w.heap.size w w') _ _ _ _ ?_
    try simp only [Act.put, List.setIfInBounds_toArray, List.set_cons_zero, List.set_cons_succ]
    refine wpAnyH_take (i := 0) (oi := ⟨some 17, _, _, _, _, _⟩) (v := ?_) rfl (by kernel_rfl) (by kernel_rfl) (by kernel_rfl) (fun _ _ _ h => h) (Or.inl ⟨by simp only [Region.wanted], ?_⟩) hS ?_
    rotate_left
    · intro wz hSw; obtain ⟨⟨c0, c1, c2, c3⟩, ⟨d0, d1, d2, d3⟩, -⟩ := hSw
      (try dsimp only at hSw)
      (try go_split_ands)
      go_simp
      first | done | with_reducible rfl
    try simp only [Act.put, List.setIfInBounds_toArray, List.set_cons_zero, List.set_cons_succ]
    refine wpAnyH_take (i := 2) (oi := ⟨some 19, _, _, _, _, _⟩) (v := ?_) rfl (by kernel_rfl) (by kernel_rfl) (by kernel_rfl) (fun _ _ _ h => h) (Or.inl ⟨by simp only [Region.wanted], ?_⟩) hS ?_
    rotate_left
    · intro wz hSw; obtain ⟨⟨c0, c1, c2, c3⟩, ⟨d0, d1, d2, d3⟩, -⟩ := hSw
      (try dsimp only at hSw)
      (try go_split_ands)
      go_simp
      first | done | with_reducible rfl
    try simp only [Act.put, List.setIfInBounds_toArray, List.set_cons_zero, List.set_cons_succ]
    refine wpAnyH_ready (rs := [1, 4, 5]) (by kernel_rfl) (by simp) ?_
    refine AllReadyH.cons (o := ⟨some 18, _, _, _, _, _⟩) rfl (fun K hK => ?_) (AllReadyH.cons (o := ⟨some 5, _, _, _, _, _⟩) rfl (fun K hK => ?_) (AllReadyH.cons (o := ⟨some 6, _, _, _, _, _⟩) rfl (fun K hK => ?_) (AllReadyH.nil)))
    · go_simp
      refine (HGX.out V0).mono ?_
      rintro e V1 ⟨rfl, hb⟩
      go_simp
      have hs := hS.1.below hb
      have hs2 := hS.2.1.below hb
      have hs3 := hS.2.2.trans (hb.mono hS.2.2.size)
      refine hK.out _ _ ⟨hs, hs2, hs3⟩ (fun hS => ?_)
      clear hK K hb hs hs2 hs3
      try simp only [Act.put, List.setIfInBounds_toArray, List.set_cons_zero, List.set_cons_succ]
      refine wpAnyH_ready (rs := [3, 4, 5]) (by kernel_rfl) (by simp) ?_
      refine AllReadyH.cons (o := ⟨some 20, _, _, _, _, _⟩) rfl (fun K hK => ?_) (AllReadyH.cons (o := ⟨some 5, _, _, _, _, _⟩) rfl (fun K hK => ?_) (AllReadyH.cons (o := ⟨some 6, _, _, _, _, _⟩) rfl (fun K hK => ?_) (AllReadyH.nil)))
      · go_simp
        refine (HGY.out V1).mono ?_
        rintro e V2 ⟨rfl, hb⟩
        go_simp
        have hs := hS.1.below hb
        have hs2 := hS.2.1.below hb
        have hs3 := hS.2.2.trans (hb.mono hS.2.2.size)
        refine hK.out _ _ ⟨hs, hs2, hs3⟩ (fun hS => ?_)
        clear hK K hb hs hs2 hs3
        try simp only [Act.put, List.setIfInBounds_toArray, List.set_cons_zero, List.set_cons_succ]
        refine wpAnyH_ready (rs := [4, 5]) (by kernel_rfl) (by simp) ?_
        refine AllReadyH.cons (o := ⟨some 5, _, _, _, _, _⟩) rfl (fun K hK => ?_) (AllReadyH.cons (o := ⟨some 6, _, _, _, _, _⟩) rfl (fun K hK => ?_) (AllReadyH.nil))
        · go_simp
          have hb : Below V2.heap.size V2 (V2.alloc (.cells #[.int .i64 0, .string ⟨#[]⟩, .string ⟨#[]⟩, .string ⟨#[]⟩] 23)) := (Below.refl _ _).alloc (Nat.le_refl _) _
          have hm : Mine (V2.alloc (.cells #[.int .i64 0, .string ⟨#[]⟩, .string ⟨#[]⟩, .string ⟨#[]⟩] 23)) V2.heap.size ⟨0, ⟨#[]⟩, ⟨#[]⟩, ⟨#[]⟩⟩ := Mine.new V2
          have hle := hS.2.2.size
          have hs := hS.1.below hb
          have hs2 := hS.2.1.below hb
          have hs3 := hS.2.2.trans (hb.mono hS.2.2.size)
          have hltb := hs2.lt
          have hlt2 : w.heap.size + 2 ≤ V2.heap.size := by have := hS.2.1.lt; omega
          generalize V2.alloc _ = V3 at hb hm hs hs2 hs3  hltb ⊢
          generalize V2.heap.size = p at hm hlt2  ⊢
          have HP := Lib.hid (And.intro hm hlt2)
          clear hm hlt2 hle hltb
          refine hK.out _ _ ⟨hs, hs2, hs3⟩ (fun hS => ?_)
          clear hK K hb hs hs2 hs3
          try simp only [Act.put, List.setIfInBounds_toArray, List.set_cons_zero, List.set_cons_succ]
          refine wpAnyH_ready (rs := [5]) (by kernel_rfl) (by simp) ?_
          refine AllReadyH.cons (o := ⟨some 6, _, _, _, _, _⟩) rfl (fun K hK => ?_) (AllReadyH.nil)
          · go_simp
            have hb : Below V3.heap.size V3 (V3.alloc (.cells #[.int .i64 0, .string ⟨#[]⟩, .string ⟨#[]⟩, .string ⟨#[]⟩] 23)) := (Below.refl _ _).alloc (Nat.le_refl _) _
            have hm : Mine (V3.alloc (.cells #[.int .i64 0, .string ⟨#[]⟩, .string ⟨#[]⟩, .string ⟨#[]⟩] 23)) V3.heap.size ⟨0, ⟨#[]⟩, ⟨#[]⟩, ⟨#[]⟩⟩ := Mine.new V3
            have hle := hS.2.2.size
            have hs := hS.1.below hb
            have hs2 := hS.2.1.below hb
            have hs3 := hS.2.2.trans (hb.mono hS.2.2.size)
            have hltb := hs2.lt
            have hlt2 : w.heap.size + 2 ≤ V3.heap.size := by have := hS.2.1.lt; omega
            have HP2 := Lib.hid (And.intro (HP.out.1.below hb) HP.out.2)
            have hne : p < V3.heap.size := HP.out.1.1.lt
            generalize V3.alloc _ = V4 at hb hm hs hs2 hs3 HP2 hltb ⊢
            generalize V3.heap.size = q at hm hlt2 hne ⊢
            have HQ := Lib.hid (And.intro hm hlt2)
            have HPQ : Hid (p ≠ q) := Lib.hid (by omega)
            clear hm hlt2 hle hltb hne
            clear HP
            have HP := HP2
            clear HP2
            refine hK.out _ _ ⟨hs, hs2, hs3⟩ (fun hS => ?_)
            clear hK K hb hs hs2 hs3
            try simp only [Act.put, List.setIfInBounds_toArray, List.set_cons_zero, List.set_cons_succ]
            obtain ⟨⟨p0, p1, p2, p3⟩, f0, f1, f2, f3⟩ := HP.out.1
            refine wpAnyH_ready (rs := [6]) (by kernel_rfl) (by simp) ?_
            refine AllReadyH.cons (o := ⟨none, _, _, _, _, _⟩) rfl (fun K hK => ?_) AllReadyH.nil
            go_simp
            clear p0 p1 p2 p3 f0 f1 f2 f3
            have hm := HP.out.1.set ⟨gk, gs, gl, gt⟩
            have hq := HQ.out.1.other (x := ⟨gk, gs, gl, gt⟩) HPQ.out
            have hb := HP.out.1.belowSet ⟨gk, gs, gl, gt⟩ HP.out.2
            have hs := hS.1.other (x := ⟨gk, gs, gl, gt⟩) (p := p) (by have := HP.out.2; omega)
            have hs2 := hS.2.1.other (x := ⟨gk, gs, gl, gt⟩) (p := p) (by have := HP.out.2; omega)
            have hs3 := hS.2.2.trans hb
            dsimp only at hm hq hb hs hs2 hs3
            generalize World.setCell (World.setCell (World.setCell (World.setCell V4 _ _) _ _) _ _) _ _ = U at hm hq hb hs hs2 hs3 ⊢
            refine hK.out _ _ ⟨hs, hs2, hs3⟩ (fun hS => ?_)
            clear hK K
            try simp only [Act.put, List.setIfInBounds_toArray, List.set_cons_zero, List.set_cons_succ]
            obtain ⟨⟨p0, p1, p2, p3⟩, f0, f1, f2, f3⟩ := hq
            refine wpAnyH_ready (rs := [7]) (by kernel_rfl) (by simp) ?_
            refine AllReadyH.cons (o := ⟨none, _, _, _, _, _⟩) rfl (fun K hK => ?_) AllReadyH.nil
            go_simp
            have hq : Mine U q ⟨0, ⟨#[]⟩, ⟨#[]⟩, ⟨#[]⟩⟩ := ⟨⟨p0, p1, p2, p3⟩, f0, f1, f2, f3⟩
            clear p0 p1 p2 p3 f0 f1 f2 f3
            have hm2 := hm.1.other (x := ⟨hk, hs', hl, ht⟩) HPQ.out.symm
            have hq2 := hq.set ⟨hk, hs', hl, ht⟩
            have hb2 := hq.belowSet ⟨hk, hs', hl, ht⟩ HQ.out.2
            have g1 := hS.1.other (x := ⟨hk, hs', hl, ht⟩) (p := q) (by have := HQ.out.2; omega)
            have g2 := hS.2.1.other (x := ⟨hk, hs', hl, ht⟩) (p := q) (by have := HQ.out.2; omega)
            have g3 := hS.2.2.trans hb2
            dsimp only at hm2 hq2 hb2 g1 g2 g3
            generalize World.setCell (World.setCell (World.setCell (World.setCell U _ _) _ _) _ _) _ _ = U2 at hm2 hq2 hb2 g1 g2 g3 ⊢
            refine hK.out _ _ ⟨g1, g2, g3⟩ (fun hS => ?_)
            clear hK K
            try simp only [Act.put, List.setIfInBounds_toArray, List.set_cons_zero, List.set_cons_succ]
            refine wpAnyH_done (by kernel_rfl) ?_ _
            clear hS
            go_wp2_with fail
            go_meet
            exact ⟨p, q, rfl, rfl, hm2, hq2.1, g3⟩
        · go_simp
          have hb : Below V2.heap.size V2 (V2.alloc (.cells #[.int .i64 0, .string ⟨#[]⟩, .string ⟨#[]⟩, .string ⟨#[]⟩] 23)) := (Below.refl _ _).alloc (Nat.le_refl _) _
          have hm : Mine (V2.alloc (.cells #[.int .i64 0, .string ⟨#[]⟩, .string ⟨#[]⟩, .string ⟨#[]⟩] 23)) V2.heap.size ⟨0, ⟨#[]⟩, ⟨#[]⟩, ⟨#[]⟩⟩ := Mine.new V2
          have hle := hS.2.2.size
          have hs := hS.1.below hb
          have hs2 := hS.2.1.below hb
          have hs3 := hS.2.2.trans (hb.mono hS.2.2.size)
          have hltb := hs2.lt
          have hlt2 : w.heap.size + 2 ≤ V2.heap.size := by have := hS.2.1.lt; omega
          generalize V2.alloc _ = V3 at hb hm hs hs2 hs3  hltb ⊢
          generalize V2.heap.size = q at hm hlt2  ⊢
          have HQ := Lib.hid (And.intro hm hlt2)
          clear hm hlt2 hle hltb
          refine hK.out _ _ ⟨hs, hs2, hs3⟩ (fun hS => ?_)
          clear hK K hb hs hs2 hs3
          try simp only [Act.put, List.setIfInBounds_toArray, List.set_cons_zero, List.set_cons_succ]
          refine wpAnyH_ready (rs := [4]) (by kernel_rfl) (by simp) ?_
          refine AllReadyH.cons (o := ⟨some 5, _, _, _, _, _⟩) rfl (fun K hK => ?_) (AllReadyH.nil)
          · go_simp
            have hb : Below V3.heap.size V3 (V3.alloc (.cells #[.int .i64 0, .string ⟨#[]⟩, .string ⟨#[]⟩, .string ⟨#[]⟩] 23)) := (Below.refl _ _).alloc (Nat.le_refl _) _
            have hm : Mine (V3.alloc (.cells #[.int .i64 0, .string ⟨#[]⟩, .string ⟨#[]⟩, .string ⟨#[]⟩] 23)) V3.heap.size ⟨0, ⟨#[]⟩, ⟨#[]⟩, ⟨#[]⟩⟩ := Mine.new V3
            have hle := hS.2.2.size
            have hs := hS.1.below hb
            have hs2 := hS.2.1.below hb
            have hs3 := hS.2.2.trans (hb.mono hS.2.2.size)
            have hltb := hs2.lt
            have hlt2 : w.heap.size + 2 ≤ V3.heap.size := by have := hS.2.1.lt; omega
            have HQ2 := Lib.hid (And.intro (HQ.out.1.below hb) HQ.out.2)
            have hne : q < V3.heap.size := HQ.out.1.1.lt
            generalize V3.alloc _ = V4 at hb hm hs hs2 hs3 HQ2 hltb ⊢
            generalize V3.heap.size = p at hm hlt2 hne ⊢
            have HP := Lib.hid (And.intro hm hlt2)
            have HPQ : Hid (p ≠ q) := Lib.hid (by omega)
            clear hm hlt2 hle hltb hne
            clear HQ
            have HQ := HQ2
            clear HQ2
            refine hK.out _ _ ⟨hs, hs2, hs3⟩ (fun hS => ?_)
            clear hK K hb hs hs2 hs3
            try simp only [Act.put, List.setIfInBounds_toArray, List.set_cons_zero, List.set_cons_succ]
            obtain ⟨⟨p0, p1, p2, p3⟩, f0, f1, f2, f3⟩ := HP.out.1
            refine wpAnyH_ready (rs := [6]) (by kernel_rfl) (by simp) ?_
            refine AllReadyH.cons (o := ⟨none, _, _, _, _, _⟩) rfl (fun K hK => ?_) AllReadyH.nil
            go_simp
            clear p0 p1 p2 p3 f0 f1 f2 f3
            have hm := HP.out.1.set ⟨gk, gs, gl, gt⟩
            have hq := HQ.out.1.other (x := ⟨gk, gs, gl, gt⟩) HPQ.out
            have hb := HP.out.1.belowSet ⟨gk, gs, gl, gt⟩ HP.out.2
            have hs := hS.1.other (x := ⟨gk, gs, gl, gt⟩) (p := p) (by have := HP.out.2; omega)
            have hs2 := hS.2.1.other (x := ⟨gk, gs, gl, gt⟩) (p := p) (by have := HP.out.2; omega)
            have hs3 := hS.2.2.trans hb
            dsimp only at hm hq hb hs hs2 hs3
            generalize World.setCell (World.setCell (World.setCell (World.setCell V4 _ _) _ _) _ _) _ _ = U at hm hq hb hs hs2 hs3 ⊢
            refine hK.out _ _ ⟨hs, hs2, hs3⟩ (fun hS => ?_)
            clear hK K
            try simp only [Act.put, List.setIfInBounds_toArray, List.set_cons_zero, List.set_cons_succ]
            obtain ⟨⟨p0, p1, p2, p3⟩, f0, f1, f2, f3⟩ := hq
            refine wpAnyH_ready (rs := [7]) (by kernel_rfl) (by simp) ?_
            refine AllReadyH.cons (o := ⟨none, _, _, _, _, _⟩) rfl (fun K hK => ?_) AllReadyH.nil
            go_simp
            have hq : Mine U q ⟨0, ⟨#[]⟩, ⟨#[]⟩, ⟨#[]⟩⟩ := ⟨⟨p0, p1, p2, p3⟩, f0, f1, f2, f3⟩
            clear p0 p1 p2 p3 f0 f1 f2 f3
            have hm2 := hm.1.other (x := ⟨hk, hs', hl, ht⟩) HPQ.out.symm
            have hq2 := hq.set ⟨hk, hs', hl, ht⟩
            have hb2 := hq.belowSet ⟨hk, hs', hl, ht⟩ HQ.out.2
            have g1 := hS.1.other (x := ⟨hk, hs', hl, ht⟩) (p := q) (by have := HQ.out.2; omega)
            have g2 := hS.2.1.other (x := ⟨hk, hs', hl, ht⟩) (p := q) (by have := HQ.out.2; omega)
            have g3 := hS.2.2.trans hb2
            dsimp only at hm2 hq2 hb2 g1 g2 g3
            generalize World.setCell (World.setCell (World.setCell (World.setCell U _ _) _ _) _ _) _ _ = U2 at hm2 hq2 hb2 g1 g2 g3 ⊢
            refine hK.out _ _ ⟨g1, g2, g3⟩ (fun hS => ?_)
            clear hK K
            try simp only [Act.put, List.setIfInBounds_toArray, List.set_cons_zero, List.set_cons_succ]
            refine wpAnyH_done (by kernel_rfl) ?_ _
            clear hS
            go_wp2_with fail
            go_meet
            exact ⟨p, q, rfl, rfl, hm2, hq2.1, g3⟩
      · go_simp
        have hb : Below V1.heap.size V1 (V1.alloc (.cells #[.int .i64 0, .string ⟨#[]⟩, .string ⟨#[]⟩, .string ⟨#[]⟩] 23)) := (Below.refl _ _).alloc (Nat.le_refl _) _
        have hm : Mine (V1.alloc (.cells #[.int .i64 0, .string ⟨#[]⟩, .string ⟨#[]⟩, .string ⟨#[]⟩] 23)) V1.heap.size ⟨0, ⟨#[]⟩, ⟨#[]⟩, ⟨#[]⟩⟩ := Mine.new V1
        have hle := hS.2.2.size
        have hs := hS.1.below hb
        have hs2 := hS.2.1.below hb
        have hs3 := hS.2.2.trans (hb.mono hS.2.2.size)
        have hltb := hs2.lt
        have hlt2 : w.heap.size + 2 ≤ V1.heap.size := by have := hS.2.1.lt; omega
        generalize V1.alloc _ = V2 at hb hm hs hs2 hs3  hltb ⊢
        generalize V1.heap.size = p at hm hlt2  ⊢
        have HP := Lib.hid (And.intro hm hlt2)
        clear hm hlt2 hle hltb
        refine hK.out _ _ ⟨hs, hs2, hs3⟩ (fun hS => ?_)
        clear hK K hb hs hs2 hs3
        try simp only [Act.put, List.setIfInBounds_toArray, List.set_cons_zero, List.set_cons_succ]
        refine wpAnyH_ready (rs := [3, 5]) (by kernel_rfl) (by simp) ?_
        refine AllReadyH.cons (o := ⟨some 20, _, _, _, _, _⟩) rfl (fun K hK => ?_) (AllReadyH.cons (o := ⟨some 6, _, _, _, _, _⟩) rfl (fun K hK => ?_) (AllReadyH.nil))
        · go_simp
          refine (HGY.out V2).mono ?_
          rintro e V3 ⟨rfl, hb⟩
          go_simp
          have hs := hS.1.below hb
          have hs2 := hS.2.1.below hb
          have hs3 := hS.2.2.trans (hb.mono hS.2.2.size)
          have HP2 := Lib.hid (And.intro (HP.out.1.below hb) HP.out.2)
          clear HP
          have HP := HP2
          clear HP2
          refine hK.out _ _ ⟨hs, hs2, hs3⟩ (fun hS => ?_)
          clear hK K hb hs hs2 hs3
          try simp only [Act.put, List.setIfInBounds_toArray, List.set_cons_zero, List.set_cons_succ]
          refine wpAnyH_ready (rs := [5]) (by kernel_rfl) (by simp) ?_
          refine AllReadyH.cons (o := ⟨some 6, _, _, _, _, _⟩) rfl (fun K hK => ?_) (AllReadyH.nil)
          · go_simp
            have hb : Below V3.heap.size V3 (V3.alloc (.cells #[.int .i64 0, .string ⟨#[]⟩, .string ⟨#[]⟩, .string ⟨#[]⟩] 23)) := (Below.refl _ _).alloc (Nat.le_refl _) _
            have hm : Mine (V3.alloc (.cells #[.int .i64 0, .string ⟨#[]⟩, .string ⟨#[]⟩, .string ⟨#[]⟩] 23)) V3.heap.size ⟨0, ⟨#[]⟩, ⟨#[]⟩, ⟨#[]⟩⟩ := Mine.new V3
            have hle := hS.2.2.size
            have hs := hS.1.below hb
            have hs2 := hS.2.1.below hb
            have hs3 := hS.2.2.trans (hb.mono hS.2.2.size)
            have hltb := hs2.lt
            have hlt2 : w.heap.size + 2 ≤ V3.heap.size := by have := hS.2.1.lt; omega
            have HP2 := Lib.hid (And.intro (HP.out.1.below hb) HP.out.2)
            have hne : p < V3.heap.size := HP.out.1.1.lt
            generalize V3.alloc _ = V4 at hb hm hs hs2 hs3 HP2 hltb ⊢
            generalize V3.heap.size = q at hm hlt2 hne ⊢
            have HQ := Lib.hid (And.intro hm hlt2)
            have HPQ : Hid (p ≠ q) := Lib.hid (by omega)
            clear hm hlt2 hle hltb hne
            clear HP
            have HP := HP2
            clear HP2
            refine hK.out _ _ ⟨hs, hs2, hs3⟩ (fun hS => ?_)
            clear hK K hb hs hs2 hs3
            try simp only [Act.put, List.setIfInBounds_toArray, List.set_cons_zero, List.set_cons_succ]
            obtain ⟨⟨p0, p1, p2, p3⟩, f0, f1, f2, f3⟩ := HP.out.1
            refine wpAnyH_ready (rs := [6]) (by kernel_rfl) (by simp) ?_
            refine AllReadyH.cons (o := ⟨none, _, _, _, _, _⟩) rfl (fun K hK => ?_) AllReadyH.nil
            go_simp
            clear p0 p1 p2 p3 f0 f1 f2 f3
            have hm := HP.out.1.set ⟨gk, gs, gl, gt⟩
            have hq := HQ.out.1.other (x := ⟨gk, gs, gl, gt⟩) HPQ.out
            have hb := HP.out.1.belowSet ⟨gk, gs, gl, gt⟩ HP.out.2
            have hs := hS.1.other (x := ⟨gk, gs, gl, gt⟩) (p := p) (by have := HP.out.2; omega)
            have hs2 := hS.2.1.other (x := ⟨gk, gs, gl, gt⟩) (p := p) (by have := HP.out.2; omega)
            have hs3 := hS.2.2.trans hb
            dsimp only at hm hq hb hs hs2 hs3
            generalize World.setCell (World.setCell (World.setCell (World.setCell V4 _ _) _ _) _ _) _ _ = U at hm hq hb hs hs2 hs3 ⊢
            refine hK.out _ _ ⟨hs, hs2, hs3⟩ (fun hS => ?_)
            clear hK K
            try simp only [Act.put, List.setIfInBounds_toArray, List.set_cons_zero, List.set_cons_succ]
            obtain ⟨⟨p0, p1, p2, p3⟩, f0, f1, f2, f3⟩ := hq
            refine wpAnyH_ready (rs := [7]) (by kernel_rfl) (by simp) ?_
            refine AllReadyH.cons (o := ⟨none, _, _, _, _, _⟩) rfl (fun K hK => ?_) AllReadyH.nil
            go_simp
            have hq : Mine U q ⟨0, ⟨#[]⟩, ⟨#[]⟩, ⟨#[]⟩⟩ := ⟨⟨p0, p1, p2, p3⟩, f0, f1, f2, f3⟩
            clear p0 p1 p2 p3 f0 f1 f2 f3
            have hm2 := hm.1.other (x := ⟨hk, hs', hl, ht⟩) HPQ.out.symm
            have hq2 := hq.set ⟨hk, hs', hl, ht⟩
            have hb2 := hq.belowSet ⟨hk, hs', hl, ht⟩ HQ.out.2
            have g1 := hS.1.other (x := ⟨hk, hs', hl, ht⟩) (p := q) (by have := HQ.out.2; omega)
            have g2 := hS.2.1.other (x := ⟨hk, hs', hl, ht⟩) (p := q) (by have := HQ.out.2; omega)
            have g3 := hS.2.2.trans hb2
            dsimp only at hm2 hq2 hb2 g1 g2 g3
            generalize World.setCell (World.setCell (World.setCell (World.setCell U _ _) _ _) _ _) _ _ = U2 at hm2 hq2 hb2 g1 g2 g3 ⊢
            refine hK.out _ _ ⟨g1, g2, g3⟩ (fun hS => ?_)
            clear hK K
            try simp only [Act.put, List.setIfInBounds_toArray, List.set_cons_zero, List.set_cons_succ]
            refine wpAnyH_done (by kernel_rfl) ?_ _
            clear hS
            go_wp2_with fail
            go_meet
            exact ⟨p, q, rfl, rfl, hm2, hq2.1, g3⟩
        · go_simp
          have hb : Below V2.heap.size V2 (V2.alloc (.cells #[.int .i64 0, .string ⟨#[]⟩, .string ⟨#[]⟩, .string ⟨#[]⟩] 23)) := (Below.refl _ _).alloc (Nat.le_refl _) _
          have hm : Mine (V2.alloc (.cells #[.int .i64 0, .string ⟨#[]⟩, .string ⟨#[]⟩, .string ⟨#[]⟩] 23)) V2.heap.size ⟨0, ⟨#[]⟩, ⟨#[]⟩, ⟨#[]⟩⟩ := Mine.new V2
          have hle := hS.2.2.size
          have hs := hS.1.below hb
          have hs2 := hS.2.1.below hb
          have hs3 := hS.2.2.trans (hb.mono hS.2.2.size)
          have hltb := hs2.lt
          have hlt2 : w.heap.size + 2 ≤ V2.heap.size := by have := hS.2.1.lt; omega
          have HP2 := Lib.hid (And.intro (HP.out.1.below hb) HP.out.2)
          have hne : p < V2.heap.size := HP.out.1.1.lt
          generalize V2.alloc _ = V3 at hb hm hs hs2 hs3 HP2 hltb ⊢
          generalize V2.heap.size = q at hm hlt2 hne ⊢
          have HQ := Lib.hid (And.intro hm hlt2)
          have HPQ : Hid (p ≠ q) := Lib.hid (by omega)
          clear hm hlt2 hle hltb hne
          clear HP
          have HP := HP2
          clear HP2
          refine hK.out _ _ ⟨hs, hs2, hs3⟩ (fun hS => ?_)
          clear hK K hb hs hs2 hs3
          try simp only [Act.put, List.setIfInBounds_toArray, List.set_cons_zero, List.set_cons_succ]
          refine wpAnyH_ready (rs := [3]) (by kernel_rfl) (by simp) ?_
          refine AllReadyH.cons (o := ⟨some 20, _, _, _, _, _⟩) rfl (fun K hK => ?_) (AllReadyH.nil)
          · go_simp
            refine (HGY.out V3).mono ?_
            rintro e V4 ⟨rfl, hb⟩
            go_simp
            have hs := hS.1.below hb
            have hs2 := hS.2.1.below hb
            have hs3 := hS.2.2.trans (hb.mono hS.2.2.size)
            have HP2 := Lib.hid (And.intro (HP.out.1.below hb) HP.out.2)
            have HQ2 := Lib.hid (And.intro (HQ.out.1.below hb) HQ.out.2)
            clear HP
            have HP := HP2
            clear HP2
            clear HQ
            have HQ := HQ2
            clear HQ2
            refine hK.out _ _ ⟨hs, hs2, hs3⟩ (fun hS => ?_)
            clear hK K hb hs hs2 hs3
            try simp only [Act.put, List.setIfInBounds_toArray, List.set_cons_zero, List.set_cons_succ]
            obtain ⟨⟨p0, p1, p2, p3⟩, f0, f1, f2, f3⟩ := HP.out.1
            refine wpAnyH_ready (rs := [6]) (by kernel_rfl) (by simp) ?_
            refine AllReadyH.cons (o := ⟨none, _, _, _, _, _⟩) rfl (fun K hK => ?_) AllReadyH.nil
            go_simp
            clear p0 p1 p2 p3 f0 f1 f2 f3
            have hm := HP.out.1.set ⟨gk, gs, gl, gt⟩
            have hq := HQ.out.1.other (x := ⟨gk, gs, gl, gt⟩) HPQ.out
            have hb := HP.out.1.belowSet ⟨gk, gs, gl, gt⟩ HP.out.2
            have hs := hS.1.other (x := ⟨gk, gs, gl, gt⟩) (p := p) (by have := HP.out.2; omega)
            have hs2 := hS.2.1.other (x := ⟨gk, gs, gl, gt⟩) (p := p) (by have := HP.out.2; omega)
            have hs3 := hS.2.2.trans hb
            dsimp only at hm hq hb hs hs2 hs3
            generalize World.setCell (World.setCell (World.setCell (World.setCell V4 _ _) _ _) _ _) _ _ = U at hm hq hb hs hs2 hs3 ⊢
            refine hK.out _ _ ⟨hs, hs2, hs3⟩ (fun hS => ?_)
            clear hK K
            try simp only [Act.put, List.setIfInBounds_toArray, List.set_cons_zero, List.set_cons_succ]
            obtain ⟨⟨p0, p1, p2, p3⟩, f0, f1, f2, f3⟩ := hq
            refine wpAnyH_ready (rs := [7]) (by kernel_rfl) (by simp) ?_
            refine AllReadyH.cons (o := ⟨none, _, _, _, _, _⟩) rfl (fun K hK => ?_) AllReadyH.nil
            go_simp
            have hq : Mine U q ⟨0, ⟨#[]⟩, ⟨#[]⟩, ⟨#[]⟩⟩ := ⟨⟨p0, p1, p2, p3⟩, f0, f1, f2, f3⟩
            clear p0 p1 p2 p3 f0 f1 f2 f3
            have hm2 := hm.1.other (x := ⟨hk, hs', hl, ht⟩) HPQ.out.symm
            have hq2 := hq.set ⟨hk, hs', hl, ht⟩
            have hb2 := hq.belowSet ⟨hk, hs', hl, ht⟩ HQ.out.2
            have g1 := hS.1.other (x := ⟨hk, hs', hl, ht⟩) (p := q) (by have := HQ.out.2; omega)
            have g2 := hS.2.1.other (x := ⟨hk, hs', hl, ht⟩) (p := q) (by have := HQ.out.2; omega)
            have g3 := hS.2.2.trans hb2
            dsimp only at hm2 hq2 hb2 g1 g2 g3
            generalize World.setCell (World.setCell (World.setCell (World.setCell U _ _) _ _) _ _) _ _ = U2 at hm2 hq2 hb2 g1 g2 g3 ⊢
            refine hK.out _ _ ⟨g1, g2, g3⟩ (fun hS => ?_)
            clear hK K
            try simp only [Act.put, List.setIfInBounds_toArray, List.set_cons_zero, List.set_cons_succ]
            refine wpAnyH_done (by kernel_rfl) ?_ _
            clear hS
            go_wp2_with fail
            go_meet
            exact ⟨p, q, rfl, rfl, hm2, hq2.1, g3⟩
      · go_simp
        have hb : Below V1.heap.size V1 (V1.alloc (.cells #[.int .i64 0, .string ⟨#[]⟩, .string ⟨#[]⟩, .string ⟨#[]⟩] 23)) := (Below.refl _ _).alloc (Nat.le_refl _) _
        have hm : Mine (V1.alloc (.cells #[.int .i64 0, .string ⟨#[]⟩, .string ⟨#[]⟩, .string ⟨#[]⟩] 23)) V1.heap.size ⟨0, ⟨#[]⟩, ⟨#[]⟩, ⟨#[]⟩⟩ := Mine.new V1
        have hle := hS.2.2.size
        have hs := hS.1.below hb
        have hs2 := hS.2.1.below hb
        have hs3 := hS.2.2.trans (hb.mono hS.2.2.size)
        have hltb := hs2.lt
        have hlt2 : w.heap.size + 2 ≤ V1.heap.size := by have := hS.2.1.lt; omega
        generalize V1.alloc _ = V2 at hb hm hs hs2 hs3  hltb ⊢
        generalize V1.heap.size = q at hm hlt2  ⊢
        have HQ := Lib.hid (And.intro hm hlt2)
        clear hm hlt2 hle hltb
        refine hK.out _ _ ⟨hs, hs2, hs3⟩ (fun hS => ?_)
        clear hK K hb hs hs2 hs3
        try simp only [Act.put, List.setIfInBounds_toArray, List.set_cons_zero, List.set_cons_succ]
        refine wpAnyH_ready (rs := [3, 4]) (by kernel_rfl) (by simp) ?_
        refine AllReadyH.cons (o := ⟨some 20, _, _, _, _, _⟩) rfl (fun K hK => ?_) (AllReadyH.cons (o := ⟨some 5, _, _, _, _, _⟩) rfl (fun K hK => ?_) (AllReadyH.nil))
        · go_simp
          refine (HGY.out V2).mono ?_
          rintro e V3 ⟨rfl, hb⟩
          go_simp
          have hs := hS.1.below hb
          have hs2 := hS.2.1.below hb
          have hs3 := hS.2.2.trans (hb.mono hS.2.2.size)
          have HQ2 := Lib.hid (And.intro (HQ.out.1.below hb) HQ.out.2)
          clear HQ
          have HQ := HQ2
          clear HQ2
          refine hK.out _ _ ⟨hs, hs2, hs3⟩ (fun hS => ?_)
          clear hK K hb hs hs2 hs3
          try simp only [Act.put, List.setIfInBounds_toArray, List.set_cons_zero, List.set_cons_succ]
          refine wpAnyH_ready (rs := [4]) (by kernel_rfl) (by simp) ?_
          refine AllReadyH.cons (o := ⟨some 5, _, _, _, _, _⟩) rfl (fun K hK => ?_) (AllReadyH.nil)
          · go_simp
            have hb : Below V3.heap.size V3 (V3.alloc (.cells #[.int .i64 0, .string ⟨#[]⟩, .string ⟨#[]⟩, .string ⟨#[]⟩] 23)) := (Below.refl _ _).alloc (Nat.le_refl _) _
            have hm : Mine (V3.alloc (.cells #[.int .i64 0, .string ⟨#[]⟩, .string ⟨#[]⟩, .string ⟨#[]⟩] 23)) V3.heap.size ⟨0, ⟨#[]⟩, ⟨#[]⟩, ⟨#[]⟩⟩ := Mine.new V3
            have hle := hS.2.2.size
            have hs := hS.1.below hb
            have hs2 := hS.2.1.below hb
            have hs3 := hS.2.2.trans (hb.mono hS.2.2.size)
            have hltb := hs2.lt
            have hlt2 : w.heap.size + 2 ≤ V3.heap.size := by have := hS.2.1.lt; omega
            have HQ2 := Lib.hid (And.intro (HQ.out.1.below hb) HQ.out.2)
            have hne : q < V3.heap.size := HQ.out.1.1.lt
            generalize V3.alloc _ = V4 at hb hm hs hs2 hs3 HQ2 hltb ⊢
            generalize V3.heap.size = p at hm hlt2 hne ⊢
            have HP := Lib.hid (And.intro hm hlt2)
            have HPQ : Hid (p ≠ q) := Lib.hid (by omega)
            clear hm hlt2 hle hltb hne
            clear HQ
            have HQ := HQ2
            clear HQ2
            refine hK.out _ _ ⟨hs, hs2, hs3⟩ (fun hS => ?_)
            clear hK K hb hs hs2 hs3
            try simp only [Act.put, List.setIfInBounds_toArray, List.set_cons_zero, List.set_cons_succ]
            obtain ⟨⟨p0, p1, p2, p3⟩, f0, f1, f2, f3⟩ := HP.out.1
            refine wpAnyH_ready (rs := [6]) (by kernel_rfl) (by simp) ?_
            refine AllReadyH.cons (o := ⟨none, _, _, _, _, _⟩) rfl (fun K hK => ?_) AllReadyH.nil
            go_simp
            clear p0 p1 p2 p3 f0 f1 f2 f3
            have hm := HP.out.1.set ⟨gk, gs, gl, gt⟩
            have hq := HQ.out.1.other (x := ⟨gk, gs, gl, gt⟩) HPQ.out
            have hb := HP.out.1.belowSet ⟨gk, gs, gl, gt⟩ HP.out.2
            have hs := hS.1.other (x := ⟨gk, gs, gl, gt⟩) (p := p) (by have := HP.out.2; omega)
            have hs2 := hS.2.1.other (x := ⟨gk, gs, gl, gt⟩) (p := p) (by have := HP.out.2; omega)
            have hs3 := hS.2.2.trans hb
            dsimp only at hm hq hb hs hs2 hs3
            generalize World.setCell (World.setCell (World.setCell (World.setCell V4 _ _) _ _) _ _) _ _ = U at hm hq hb hs hs2 hs3 ⊢
            refine hK.out _ _ ⟨hs, hs2, hs3⟩ (fun hS => ?_)
            clear hK K
            try simp only [Act.put, List.setIfInBounds_toArray, List.set_cons_zero, List.set_cons_succ]
            obtain ⟨⟨p0, p1, p2, p3⟩, f0, f1, f2, f3⟩ := hq
            refine wpAnyH_ready (rs := [7]) (by kernel_rfl) (by simp) ?_
            refine AllReadyH.cons (o := ⟨none, _, _, _, _, _⟩) rfl (fun K hK => ?_) AllReadyH.nil
            go_simp
            have hq : Mine U q ⟨0, ⟨#[]⟩, ⟨#[]⟩, ⟨#[]⟩⟩ := ⟨⟨p0, p1, p2, p3⟩, f0, f1, f2, f3⟩
            clear p0 p1 p2 p3 f0 f1 f2 f3
            have hm2 := hm.1.other (x := ⟨hk, hs', hl, ht⟩) HPQ.out.symm
            have hq2 := hq.set ⟨hk, hs', hl, ht⟩
            have hb2 := hq.belowSet ⟨hk, hs', hl, ht⟩ HQ.out.2
            have g1 := hS.1.other (x := ⟨hk, hs', hl, ht⟩) (p := q) (by have := HQ.out.2; omega)
            have g2 := hS.2.1.other (x := ⟨hk, hs', hl, ht⟩) (p := q) (by have := HQ.out.2; omega)
            have g3 := hS.2.2.trans hb2
            dsimp only at hm2 hq2 hb2 g1 g2 g3
            generalize World.setCell (World.setCell (World.setCell (World.setCell U _ _) _ _) _ _) _ _ = U2 at hm2 hq2 hb2 g1 g2 g3 ⊢
            refine hK.out _ _ ⟨g1, g2, g3⟩ (fun hS => ?_)
            clear hK K
            try simp only [Act.put, List.setIfInBounds_toArray, List.set_cons_zero, List.set_cons_succ]
            refine wpAnyH_done (by kernel_rfl) ?_ _
            clear hS
            go_wp2_with fail
            go_meet
            exact ⟨p, q, rfl, rfl, hm2, hq2.1, g3⟩
        · go_simp
          have hb : Below V2.heap.size V2 (V2.alloc (.cells #[.int .i64 0, .string ⟨#[]⟩, .string ⟨#[]⟩, .string ⟨#[]⟩] 23)) := (Below.refl _ _).alloc (Nat.le_refl _) _
          have hm : Mine (V2.alloc (.cells #[.int .i64 0, .string ⟨#[]⟩, .string ⟨#[]⟩, .string ⟨#[]⟩] 23)) V2.heap.size ⟨0, ⟨#[]⟩, ⟨#[]⟩, ⟨#[]⟩⟩ := Mine.new V2
          have hle := hS.2.2.size
          have hs := hS.1.below hb
          have hs2 := hS.2.1.below hb
          have hs3 := hS.2.2.trans (hb.mono hS.2.2.size)
          have hltb := hs2.lt
          have hlt2 : w.heap.size + 2 ≤ V2.heap.size := by have := hS.2.1.lt; omega
          have HQ2 := Lib.hid (And.intro (HQ.out.1.below hb) HQ.out.2)
          have hne : q < V2.heap.size := HQ.out.1.1.lt
          generalize V2.alloc _ = V3 at hb hm hs hs2 hs3 HQ2 hltb ⊢
          generalize V2.heap.size = p at hm hlt2 hne ⊢
          have HP := Lib.hid (And.intro hm hlt2)
          have HPQ : Hid (p ≠ q) := Lib.hid (by omega)
          clear hm hlt2 hle hltb hne
          clear HQ
          have HQ := HQ2
          clear HQ2
          refine hK.out _ _ ⟨hs, hs2, hs3⟩ (fun hS => ?_)
          clear hK K hb hs hs2 hs3
          try simp only [Act.put, List.setIfInBounds_toArray, List.set_cons_zero, List.set_cons_succ]
          refine wpAnyH_ready (rs := [3]) (by kernel_rfl) (by simp) ?_
          refine AllReadyH.cons (o := ⟨some 20, _, _, _, _, _⟩) rfl (fun K hK => ?_) (AllReadyH.nil)
          · go_simp
            refine (HGY.out V3).mono ?_
            rintro e V4 ⟨rfl, hb⟩
            go_simp
            have hs := hS.1.below hb
            have hs2 := hS.2.1.below hb
            have hs3 := hS.2.2.trans (hb.mono hS.2.2.size)
            have HP2 := Lib.hid (And.intro (HP.out.1.below hb) HP.out.2)
            have HQ2 := Lib.hid (And.intro (HQ.out.1.below hb) HQ.out.2)
            clear HP
            have HP := HP2
            clear HP2
            clear HQ
            have HQ := HQ2
            clear HQ2
            refine hK.out _ _ ⟨hs, hs2, hs3⟩ (fun hS => ?_)
            clear hK K hb hs hs2 hs3
            try simp only [Act.put, List.setIfInBounds_toArray, List.set_cons_zero, List.set_cons_succ]
            obtain ⟨⟨p0, p1, p2, p3⟩, f0, f1, f2, f3⟩ := HP.out.1
            refine wpAnyH_ready (rs := [6]) (by kernel_rfl) (by simp) ?_
            refine AllReadyH.cons (o := ⟨none, _, _, _, _, _⟩) rfl (fun K hK => ?_) AllReadyH.nil
            go_simp
            clear p0 p1 p2 p3 f0 f1 f2 f3
            have hm := HP.out.1.set ⟨gk, gs, gl, gt⟩
            have hq := HQ.out.1.other (x := ⟨gk, gs, gl, gt⟩) HPQ.out
            have hb := HP.out.1.belowSet ⟨gk, gs, gl, gt⟩ HP.out.2
            have hs := hS.1.other (x := ⟨gk, gs, gl, gt⟩) (p := p) (by have := HP.out.2; omega)
            have hs2 := hS.2.1.other (x := ⟨gk, gs, gl, gt⟩) (p := p) (by have := HP.out.2; omega)
            have hs3 := hS.2.2.trans hb
            dsimp only at hm hq hb hs hs2 hs3
            generalize World.setCell (World.setCell (World.setCell (World.setCell V4 _ _) _ _) _ _) _ _ = U at hm hq hb hs hs2 hs3 ⊢
            refine hK.out _ _ ⟨hs, hs2, hs3⟩ (fun hS => ?_)
            clear hK K
            try simp only [Act.put, List.setIfInBounds_toArray, List.set_cons_zero, List.set_cons_succ]
            obtain ⟨⟨p0, p1, p2, p3⟩, f0, f1, f2, f3⟩ := hq
            refine wpAnyH_ready (rs := [7]) (by kernel_rfl) (by simp) ?_
            refine AllReadyH.cons (o := ⟨none, _, _, _, _, _⟩) rfl (fun K hK => ?_) AllReadyH.nil
            go_simp
            have hq : Mine U q ⟨0, ⟨#[]⟩, ⟨#[]⟩, ⟨#[]⟩⟩ := ⟨⟨p0, p1, p2, p3⟩, f0, f1, f2, f3⟩
            clear p0 p1 p2 p3 f0 f1 f2 f3
            have hm2 := hm.1.other (x := ⟨hk, hs', hl, ht⟩) HPQ.out.symm
            have hq2 := hq.set ⟨hk, hs', hl, ht⟩
            have hb2 := hq.belowSet ⟨hk, hs', hl, ht⟩ HQ.out.2
            have g1 := hS.1.other (x := ⟨hk, hs', hl, ht⟩) (p := q) (by have := HQ.out.2; omega)
            have g2 := hS.2.1.other (x := ⟨hk, hs', hl, ht⟩) (p := q) (by have := HQ.out.2; omega)
            have g3 := hS.2.2.trans hb2
            dsimp only at hm2 hq2 hb2 g1 g2 g3
            generalize World.setCell (World.setCell (World.setCell (World.setCell U _ _) _ _) _ _) _ _ = U2 at hm2 hq2 hb2 g1 g2 g3 ⊢
            refine hK.out _ _ ⟨g1, g2, g3⟩ (fun hS => ?_)
            clear hK K
            try simp only [Act.put, List.setIfInBounds_toArray, List.set_cons_zero, List.set_cons_succ]
            refine wpAnyH_done (by kernel_rfl) ?_ _
            clear hS
            go_wp2_with fail
            go_meet
            exact ⟨p, q, rfl, rfl, hm2, hq2.1, g3⟩
    · go_simp
      have hb : Below V0.heap.size V0 (V0.alloc (.cells #[.int .i64 0, .string ⟨#[]⟩, .string ⟨#[]⟩, .string ⟨#[]⟩] 23)) := (Below.refl _ _).alloc (Nat.le_refl _) _
      have hm : Mine (V0.alloc (.cells #[.int .i64 0, .string ⟨#[]⟩, .string ⟨#[]⟩, .string ⟨#[]⟩] 23)) V0.heap.size ⟨0, ⟨#[]⟩, ⟨#[]⟩, ⟨#[]⟩⟩ := Mine.new V0
      have hle := hS.2.2.size
      have hs := hS.1.below hb
      have hs2 := hS.2.1.below hb
      have hs3 := hS.2.2.trans (hb.mono hS.2.2.size)
      have hltb := hs2.lt
      have hlt2 : w.heap.size + 2 ≤ V0.heap.size := by have := hS.2.1.lt; omega
      generalize V0.alloc _ = V1 at hb hm hs hs2 hs3  hltb ⊢
      generalize V0.heap.size = p at hm hlt2  ⊢
      have HP := Lib.hid (And.intro hm hlt2)
      clear hm hlt2 hle hltb
      refine hK.out _ _ ⟨hs, hs2, hs3⟩ (fun hS => ?_)
      clear hK K hb hs hs2 hs3
      try simp only [Act.put, List.setIfInBounds_toArray, List.set_cons_zero, List.set_cons_succ]
      refine wpAnyH_ready (rs := [1, 5]) (by kernel_rfl) (by simp) ?_
      refine AllReadyH.cons (o := ⟨some 18, _, _, _, _, _⟩) rfl (fun K hK => ?_) (AllReadyH.cons (o := ⟨some 6, _, _, _, _, _⟩) rfl (fun K hK => ?_) (AllReadyH.nil))
      · go_simp
        refine (HGX.out V1).mono ?_
        rintro e V2 ⟨rfl, hb⟩
        go_simp
        have hs := hS.1.below hb
        have hs2 := hS.2.1.below hb
        have hs3 := hS.2.2.trans (hb.mono hS.2.2.size)
        have HP2 := Lib.hid (And.intro (HP.out.1.below hb) HP.out.2)
        clear HP
        have HP := HP2
        clear HP2
        refine hK.out _ _ ⟨hs, hs2, hs3⟩ (fun hS => ?_)
        clear hK K hb hs hs2 hs3
        try simp only [Act.put, List.setIfInBounds_toArray, List.set_cons_zero, List.set_cons_succ]
        refine wpAnyH_ready (rs := [3, 5]) (by kernel_rfl) (by simp) ?_
        refine AllReadyH.cons (o := ⟨some 20, _, _, _, _, _⟩) rfl (fun K hK => ?_) (AllReadyH.cons (o := ⟨some 6, _, _, _, _, _⟩) rfl (fun K hK => ?_) (AllReadyH.nil))
        · go_simp
          refine (HGY.out V2).mono ?_
          rintro e V3 ⟨rfl, hb⟩
          go_simp
          have hs := hS.1.below hb
          have hs2 := hS.2.1.below hb
          have hs3 := hS.2.2.trans (hb.mono hS.2.2.size)
          have HP2 := Lib.hid (And.intro (HP.out.1.below hb) HP.out.2)
          clear HP
          have HP := HP2
          clear HP2
          refine hK.out _ _ ⟨hs, hs2, hs3⟩ (fun hS => ?_)
          clear hK K hb hs hs2 hs3
          try simp only [Act.put, List.setIfInBounds_toArray, List.set_cons_zero, List.set_cons_succ]
          refine wpAnyH_ready (rs := [5]) (by kernel_rfl) (by simp) ?_
          refine AllReadyH.cons (o := ⟨some 6, _, _, _, _, _⟩) rfl (fun K hK => ?_) (AllReadyH.nil)
          · go_simp
            have hb : Below V3.heap.size V3 (V3.alloc (.cells #[.int .i64 0, .string ⟨#[]⟩, .string ⟨#[]⟩, .string ⟨#[]⟩] 23)) := (Below.refl _ _).alloc (Nat.le_refl _) _
            have hm : Mine (V3.alloc (.cells #[.int .i64 0, .string ⟨#[]⟩, .string ⟨#[]⟩, .string ⟨#[]⟩] 23)) V3.heap.size ⟨0, ⟨#[]⟩, ⟨#[]⟩, ⟨#[]⟩⟩ := Mine.new V3
            have hle := hS.2.2.size
            have hs := hS.1.below hb
            have hs2 := hS.2.1.below hb
            have hs3 := hS.2.2.trans (hb.mono hS.2.2.size)
            have hltb := hs2.lt
            have hlt2 : w.heap.size + 2 ≤ V3.heap.size := by have := hS.2.1.lt; omega
            have HP2 := Lib.hid (And.intro (HP.out.1.below hb) HP.out.2)
            have hne : p < V3.heap.size := HP.out.1.1.lt
            generalize V3.alloc _ = V4 at hb hm hs hs2 hs3 HP2 hltb ⊢
            generalize V3.heap.size = q at hm hlt2 hne ⊢
            have HQ := Lib.hid (And.intro hm hlt2)
            have HPQ : Hid (p ≠ q) := Lib.hid (by omega)
            clear hm hlt2 hle hltb hne
            clear HP
            have HP := HP2
            clear HP2
            refine hK.out _ _ ⟨hs, hs2, hs3⟩ (fun hS => ?_)
            clear hK K hb hs hs2 hs3
            try simp only [Act.put, List.setIfInBounds_toArray, List.set_cons_zero, List.set_cons_succ]
            obtain ⟨⟨p0, p1, p2, p3⟩, f0, f1, f2, f3⟩ := HP.out.1
            refine wpAnyH_ready (rs := [6]) (by kernel_rfl) (by simp) ?_
            refine AllReadyH.cons (o := ⟨none, _, _, _, _, _⟩) rfl (fun K hK => ?_) AllReadyH.nil
            go_simp
            clear p0 p1 p2 p3 f0 f1 f2 f3
            have hm := HP.out.1.set ⟨gk, gs, gl, gt⟩
            have hq := HQ.out.1.other (x := ⟨gk, gs, gl, gt⟩) HPQ.out
            have hb := HP.out.1.belowSet ⟨gk, gs, gl, gt⟩ HP.out.2
            have hs := hS.1.other (x := ⟨gk, gs, gl, gt⟩) (p := p) (by have := HP.out.2; omega)
            have hs2 := hS.2.1.other (x := ⟨gk, gs, gl, gt⟩) (p := p) (by have := HP.out.2; omega)
            have hs3 := hS.2.2.trans hb
            dsimp only at hm hq hb hs hs2 hs3
            generalize World.setCell (World.setCell (World.setCell (World.setCell V4 _ _) _ _) _ _) _ _ = U at hm hq hb hs hs2 hs3 ⊢
            refine hK.out _ _ ⟨hs, hs2, hs3⟩ (fun hS => ?_)
            clear hK K
            try simp only [Act.put, List.setIfInBounds_toArray, List.set_cons_zero, List.set_cons_succ]
            obtain ⟨⟨p0, p1, p2, p3⟩, f0, f1, f2, f3⟩ := hq
            refine wpAnyH_ready (rs := [7]) (by kernel_rfl) (by simp) ?_
            refine AllReadyH.cons (o := ⟨none, _, _, _, _, _⟩) rfl (fun K hK => ?_) AllReadyH.nil
            go_simp
            have hq : Mine U q ⟨0, ⟨#[]⟩, ⟨#[]⟩, ⟨#[]⟩⟩ := ⟨⟨p0, p1, p2, p3⟩, f0, f1, f2, f3⟩
            clear p0 p1 p2 p3 f0 f1 f2 f3
            have hm2 := hm.1.other (x := ⟨hk, hs', hl, ht⟩) HPQ.out.symm
            have hq2 := hq.set ⟨hk, hs', hl, ht⟩
            have hb2 := hq.belowSet ⟨hk, hs', hl, ht⟩ HQ.out.2
            have g1 := hS.1.other (x := ⟨hk, hs', hl, ht⟩) (p := q) (by have := HQ.out.2; omega)
            have g2 := hS.2.1.other (x := ⟨hk, hs', hl, ht⟩) (p := q) (by have := HQ.out.2; omega)
            have g3 := hS.2.2.trans hb2
            dsimp only at hm2 hq2 hb2 g1 g2 g3
            generalize World.setCell (World.setCell (World.setCell (World.setCell U _ _) _ _) _ _) _ _ = U2 at hm2 hq2 hb2 g1 g2 g3 ⊢
            refine hK.out _ _ ⟨g1, g2, g3⟩ (fun hS => ?_)
            clear hK K
            try simp only [Act.put, List.setIfInBounds_toArray, List.set_cons_zero, List.set_cons_succ]
            refine wpAnyH_done (by kernel_rfl) ?_ _
            clear hS
            go_wp2_with fail
            go_meet
            exact ⟨p, q, rfl, rfl, hm2, hq2.1, g3⟩
        · go_simp
          have hb : Below V2.heap.size V2 (V2.alloc (.cells #[.int .i64 0, .string ⟨#[]⟩, .string ⟨#[]⟩, .string ⟨#[]⟩] 23)) := (Below.refl _ _).alloc (Nat.le_refl _) _
          have hm : Mine (V2.alloc (.cells #[.int .i64 0, .string ⟨#[]⟩, .string ⟨#[]⟩, .string ⟨#[]⟩] 23)) V2.heap.size ⟨0, ⟨#[]⟩, ⟨#[]⟩, ⟨#[]⟩⟩ := Mine.new V2
          have hle := hS.2.2.size
          have hs := hS.1.below hb
          have hs2 := hS.2.1.below hb
          have hs3 := hS.2.2.trans (hb.mono hS.2.2.size)
          have hltb := hs2.lt
          have hlt2 : w.heap.size + 2 ≤ V2.heap.size := by have := hS.2.1.lt; omega
          have HP2 := Lib.hid (And.intro (HP.out.1.below hb) HP.out.2)
          have hne : p < V2.heap.size := HP.out.1.1.lt
          generalize V2.alloc _ = V3 at hb hm hs hs2 hs3 HP2 hltb ⊢
          generalize V2.heap.size = q at hm hlt2 hne ⊢
          have HQ := Lib.hid (And.intro hm hlt2)
          have HPQ : Hid (p ≠ q) := Lib.hid (by omega)
          clear hm hlt2 hle hltb hne
          clear HP
          have HP := HP2
          clear HP2
          refine hK.out _ _ ⟨hs, hs2, hs3⟩ (fun hS => ?_)
          clear hK K hb hs hs2 hs3
          try simp only [Act.put, List.setIfInBounds_toArray, List.set_cons_zero, List.set_cons_succ]
          refine wpAnyH_ready (rs := [3]) (by kernel_rfl) (by simp) ?_
          refine AllReadyH.cons (o := ⟨some 20, _, _, _, _, _⟩) rfl (fun K hK => ?_) (AllReadyH.nil)
          · go_simp
            refine (HGY.out V3).mono ?_
            rintro e V4 ⟨rfl, hb⟩
            go_simp
            have hs := hS.1.below hb
            have hs2 := hS.2.1.below hb
            have hs3 := hS.2.2.trans (hb.mono hS.2.2.size)
            have HP2 := Lib.hid (And.intro (HP.out.1.below hb) HP.out.2)
            have HQ2 := Lib.hid (And.intro (HQ.out.1.below hb) HQ.out.2)
            clear HP
            have HP := HP2
            clear HP2
            clear HQ
            have HQ := HQ2
            clear HQ2
            refine hK.out _ _ ⟨hs, hs2, hs3⟩ (fun hS => ?_)
            clear hK K hb hs hs2 hs3
            try simp only [Act.put, List.setIfInBounds_toArray, List.set_cons_zero, List.set_cons_succ]
            obtain ⟨⟨p0, p1, p2, p3⟩, f0, f1, f2, f3⟩ := HP.out.1
            refine wpAnyH_ready (rs := [6]) (by kernel_rfl) (by simp) ?_
            refine AllReadyH.cons (o := ⟨none, _, _, _, _, _⟩) rfl (fun K hK => ?_) AllReadyH.nil
            go_simp
            clear p0 p1 p2 p3 f0 f1 f2 f3
            have hm := HP.out.1.set ⟨gk, gs, gl, gt⟩
            have hq := HQ.out.1.other (x := ⟨gk, gs, gl, gt⟩) HPQ.out
            have hb := HP.out.1.belowSet ⟨gk, gs, gl, gt⟩ HP.out.2
            have hs := hS.1.other (x := ⟨gk, gs, gl, gt⟩) (p := p) (by have := HP.out.2; omega)
            have hs2 := hS.2.1.other (x := ⟨gk, gs, gl, gt⟩) (p := p) (by have := HP.out.2; omega)
            have hs3 := hS.2.2.trans hb
            dsimp only at hm hq hb hs hs2 hs3
            generalize World.setCell (World.setCell (World.setCell (World.setCell V4 _ _) _ _) _ _) _ _ = U at hm hq hb hs hs2 hs3 ⊢
            refine hK.out _ _ ⟨hs, hs2, hs3⟩ (fun hS => ?_)
            clear hK K
            try simp only [Act.put, List.setIfInBounds_toArray, List.set_cons_zero, List.set_cons_succ]
            obtain ⟨⟨p0, p1, p2, p3⟩, f0, f1, f2, f3⟩ := hq
            refine wpAnyH_ready (rs := [7]) (by kernel_rfl) (by simp) ?_
            refine AllReadyH.cons (o := ⟨none, _, _, _, _, _⟩) rfl (fun K hK => ?_) AllReadyH.nil
            go_simp
            have hq : Mine U q ⟨0, ⟨#[]⟩, ⟨#[]⟩, ⟨#[]⟩⟩ := ⟨⟨p0, p1, p2, p3⟩, f0, f1, f2, f3⟩
            clear p0 p1 p2 p3 f0 f1 f2 f3
            have hm2 := hm.1.other (x := ⟨hk, hs', hl, ht⟩) HPQ.out.symm
            have hq2 := hq.set ⟨hk, hs', hl, ht⟩
            have hb2 := hq.belowSet ⟨hk, hs', hl, ht⟩ HQ.out.2
            have g1 := hS.1.other (x := ⟨hk, hs', hl, ht⟩) (p := q) (by have := HQ.out.2; omega)
            have g2 := hS.2.1.other (x := ⟨hk, hs', hl, ht⟩) (p := q) (by have := HQ.out.2; omega)
            have g3 := hS.2.2.trans hb2
            dsimp only at hm2 hq2 hb2 g1 g2 g3
            generalize World.setCell (World.setCell (World.setCell (World.setCell U _ _) _ _) _ _) _ _ = U2 at hm2 hq2 hb2 g1 g2 g3 ⊢
            refine hK.out _ _ ⟨g1, g2, g3⟩ (fun hS => ?_)
            clear hK K
            try simp only [Act.put, List.setIfInBounds_toArray, List.set_cons_zero, List.set_cons_succ]
            refine wpAnyH_done (by kernel_rfl) ?_ _
            clear hS
            go_wp2_with fail
            go_meet
            exact ⟨p, q, rfl, rfl, hm2, hq2.1, g3⟩
      · go_simp
        have hb : Below V1.heap.size V1 (V1.alloc (.cells #[.int .i64 0, .string ⟨#[]⟩, .string ⟨#[]⟩, .string ⟨#[]⟩] 23)) := (Below.refl _ _).alloc (Nat.le_refl _) _
        have hm : Mine (V1.alloc (.cells #[.int .i64 0, .string ⟨#[]⟩, .string ⟨#[]⟩, .string ⟨#[]⟩] 23)) V1.heap.size ⟨0, ⟨#[]⟩, ⟨#[]⟩, ⟨#[]⟩⟩ := Mine.new V1
        have hle := hS.2.2.size
        have hs := hS.1.below hb
        have hs2 := hS.2.1.below hb
        have hs3 := hS.2.2.trans (hb.mono hS.2.2.size)
        have hltb := hs2.lt
        have hlt2 : w.heap.size + 2 ≤ V1.heap.size := by have := hS.2.1.lt; omega
        have HP2 := Lib.hid (And.intro (HP.out.1.below hb) HP.out.2)
        have hne : p < V1.heap.size := HP.out.1.1.lt
        generalize V1.alloc _ = V2 at hb hm hs hs2 hs3 HP2 hltb ⊢
        generalize V1.heap.size = q at hm hlt2 hne ⊢
        have HQ := Lib.hid (And.intro hm hlt2)
        have HPQ : Hid (p ≠ q) := Lib.hid (by omega)
        clear hm hlt2 hle hltb hne
        clear HP
        have HP := HP2
        clear HP2
        refine hK.out _ _ ⟨hs, hs2, hs3⟩ (fun hS => ?_)
        clear hK K hb hs hs2 hs3
        try simp only [Act.put, List.setIfInBounds_toArray, List.set_cons_zero, List.set_cons_succ]
        refine wpAnyH_ready (rs := [1]) (by kernel_rfl) (by simp) ?_
        refine AllReadyH.cons (o := ⟨some 18, _, _, _, _, _⟩) rfl (fun K hK => ?_) (AllReadyH.nil)
        · go_simp
          refine (HGX.out V2).mono ?_
          rintro e V3 ⟨rfl, hb⟩
          go_simp
          have hs := hS.1.below hb
          have hs2 := hS.2.1.below hb
          have hs3 := hS.2.2.trans (hb.mono hS.2.2.size)
          have HP2 := Lib.hid (And.intro (HP.out.1.below hb) HP.out.2)
          have HQ2 := Lib.hid (And.intro (HQ.out.1.below hb) HQ.out.2)
          clear HP
          have HP := HP2
          clear HP2
          clear HQ
          have HQ := HQ2
          clear HQ2
          refine hK.out _ _ ⟨hs, hs2, hs3⟩ (fun hS => ?_)
          clear hK K hb hs hs2 hs3
          try simp only [Act.put, List.setIfInBounds_toArray, List.set_cons_zero, List.set_cons_succ]
          refine wpAnyH_ready (rs := [3]) (by kernel_rfl) (by simp) ?_
          refine AllReadyH.cons (o := ⟨some 20, _, _, _, _, _⟩) rfl (fun K hK => ?_) (AllReadyH.nil)
          · go_simp
            refine (HGY.out V3).mono ?_
            rintro e V4 ⟨rfl, hb⟩
            go_simp
            have hs := hS.1.below hb
            have hs2 := hS.2.1.below hb
            have hs3 := hS.2.2.trans (hb.mono hS.2.2.size)
            have HP2 := Lib.hid (And.intro (HP.out.1.below hb) HP.out.2)
            have HQ2 := Lib.hid (And.intro (HQ.out.1.below hb) HQ.out.2)
            clear HP
            have HP := HP2
            clear HP2
            clear HQ
            have HQ := HQ2
            clear HQ2
            refine hK.out _ _ ⟨hs, hs2, hs3⟩ (fun hS => ?_)
            clear hK K hb hs hs2 hs3
            try simp only [Act.put, List.setIfInBounds_toArray, List.set_cons_zero, List.set_cons_succ]
            obtain ⟨⟨p0, p1, p2, p3⟩, f0, f1, f2, f3⟩ := HP.out.1
            refine wpAnyH_ready (rs := [6]) (by kernel_rfl) (by simp) ?_
            refine AllReadyH.cons (o := ⟨none, _, _, _, _, _⟩) rfl (fun K hK => ?_) AllReadyH.nil
            go_simp
            clear p0 p1 p2 p3 f0 f1 f2 f3
            have hm := HP.out.1.set ⟨gk, gs, gl, gt⟩
            have hq := HQ.out.1.other (x := ⟨gk, gs, gl, gt⟩) HPQ.out
            have hb := HP.out.1.belowSet ⟨gk, gs, gl, gt⟩ HP.out.2
            have hs := hS.1.other (x := ⟨gk, gs, gl, gt⟩) (p := p) (by have := HP.out.2; omega)
            have hs2 := hS.2.1.other (x := ⟨gk, gs, gl, gt⟩) (p := p) (by have := HP.out.2; omega)
            have hs3 := hS.2.2.trans hb
            dsimp only at hm hq hb hs hs2 hs3
            generalize World.setCell (World.setCell (World.setCell (World.setCell V4 _ _) _ _) _ _) _ _ = U at hm hq hb hs hs2 hs3 ⊢
            refine hK.out _ _ ⟨hs, hs2, hs3⟩ (fun hS => ?_)
            clear hK K
            try simp only [Act.put, List.setIfInBounds_toArray, List.set_cons_zero, List.set_cons_succ]
            obtain ⟨⟨p0, p1, p2, p3⟩, f0, f1, f2, f3⟩ := hq
            refine wpAnyH_ready (rs := [7]) (by kernel_rfl) (by simp) ?_
            refine AllReadyH.cons (o := ⟨none, _, _, _, _, _⟩) rfl (fun K hK => ?_) AllReadyH.nil
            go_simp
            have hq : Mine U q ⟨0, ⟨#[]⟩, ⟨#[]⟩, ⟨#[]⟩⟩ := ⟨⟨p0, p1, p2, p3⟩, f0, f1, f2, f3⟩
            clear p0 p1 p2 p3 f0 f1 f2 f3
            have hm2 := hm.1.other (x := ⟨hk, hs', hl, ht⟩) HPQ.out.symm
            have hq2 := hq.set ⟨hk, hs', hl, ht⟩
            have hb2 := hq.belowSet ⟨hk, hs', hl, ht⟩ HQ.out.2
            have g1 := hS.1.other (x := ⟨hk, hs', hl, ht⟩) (p := q) (by have := HQ.out.2; omega)
            have g2 := hS.2.1.other (x := ⟨hk, hs', hl, ht⟩) (p := q) (by have := HQ.out.2; omega)
            have g3 := hS.2.2.trans hb2
            dsimp only at hm2 hq2 hb2 g1 g2 g3
            generalize World.setCell (World.setCell (World.setCell (World.setCell U _ _) _ _) _ _) _ _ = U2 at hm2 hq2 hb2 g1 g2 g3 ⊢
            refine hK.out _ _ ⟨g1, g2, g3⟩ (fun hS => ?_)
            clear hK K
            try simp only [Act.put, List.setIfInBounds_toArray, List.set_cons_zero, List.set_cons_succ]
            refine wpAnyH_done (by kernel_rfl) ?_ _
            clear hS
            go_wp2_with fail
            go_meet
            exact ⟨p, q, rfl, rfl, hm2, hq2.1, g3⟩
    · go_simp
      have hb : Below V0.heap.size V0 (V0.alloc (.cells #[.int .i64 0, .string ⟨#[]⟩, .string ⟨#[]⟩, .string ⟨#[]⟩] 23)) := (Below.refl _ _).alloc (Nat.le_refl _) _
      have hm : Mine (V0.alloc (.cells #[.int .i64 0, .string ⟨#[]⟩, .string ⟨#[]⟩, .string ⟨#[]⟩] 23)) V0.heap.size ⟨0, ⟨#[]⟩, ⟨#[]⟩, ⟨#[]⟩⟩ := Mine.new V0
      have hle := hS.2.2.size
      have hs := hS.1.below hb
      have hs2 := hS.2.1.below hb
      have hs3 := hS.2.2.trans (hb.mono hS.2.2.size)
      have hltb := hs2.lt
      have hlt2 : w.heap.size + 2 ≤ V0.heap.size := by have := hS.2.1.lt; omega
      generalize V0.alloc _ = V1 at hb hm hs hs2 hs3  hltb ⊢
      generalize V0.heap.size = q at hm hlt2  ⊢
      have HQ := Lib.hid (And.intro hm hlt2)
      clear hm hlt2 hle hltb
      refine hK.out _ _ ⟨hs, hs2, hs3⟩ (fun hS => ?_)
      clear hK K hb hs hs2 hs3
      try simp only [Act.put, List.setIfInBounds_toArray, List.set_cons_zero, List.set_cons_succ]
      refine wpAnyH_ready (rs := [1, 4]) (by kernel_rfl) (by simp) ?_
      refine AllReadyH.cons (o := ⟨some 18, _, _, _, _, _⟩) rfl (fun K hK => ?_) (AllReadyH.cons (o := ⟨some 5, _, _, _, _, _⟩) rfl (fun K hK => ?_) (AllReadyH.nil))
      · go_simp
        refine (HGX.out V1).mono ?_
        rintro e V2 ⟨rfl, hb⟩
        go_simp
        have hs := hS.1.below hb
        have hs2 := hS.2.1.below hb
        have hs3 := hS.2.2.trans (hb.mono hS.2.2.size)
        have HQ2 := Lib.hid (And.intro (HQ.out.1.below hb) HQ.out.2)
        clear HQ
        have HQ := HQ2
        clear HQ2
        refine hK.out _ _ ⟨hs, hs2, hs3⟩ (fun hS => ?_)
        clear hK K hb hs hs2 hs3
        try simp only [Act.put, List.setIfInBounds_toArray, List.set_cons_zero, List.set_cons_succ]
        refine wpAnyH_ready (rs := [3, 4]) (by kernel_rfl) (by simp) ?_
        refine AllReadyH.cons (o := ⟨some 20, _, _, _, _, _⟩) rfl (fun K hK => ?_) (AllReadyH.cons (o := ⟨some 5, _, _, _, _, _⟩) rfl (fun K hK => ?_) (AllReadyH.nil))
        · go_simp
          refine (HGY.out V2).mono ?_
          rintro e V3 ⟨rfl, hb⟩
          go_simp
          have hs := hS.1.below hb
          have hs2 := hS.2.1.below hb
          have hs3 := hS.2.2.trans (hb.mono hS.2.2.size)
          have HQ2 := Lib.hid (And.intro (HQ.out.1.below hb) HQ.out.2)
          clear HQ
          have HQ := HQ2
          clear HQ2
          refine hK.out _ _ ⟨hs, hs2, hs3⟩ (fun hS => ?_)
          clear hK K hb hs hs2 hs3
          try simp only [Act.put, List.setIfInBounds_toArray, List.set_cons_zero, List.set_cons_succ]
          refine wpAnyH_ready (rs := [4]) (by kernel_rfl) (by simp) ?_
          refine AllReadyH.cons (o := ⟨some 5, _, _, _, _, _⟩) rfl (fun K hK => ?_) (AllReadyH.nil)
          · go_simp
            have hb : Below V3.heap.size V3 (V3.alloc (.cells #[.int .i64 0, .string ⟨#[]⟩, .string ⟨#[]⟩, .string ⟨#[]⟩] 23)) := (Below.refl _ _).alloc (Nat.le_refl _) _
            have hm : Mine (V3.alloc (.cells #[.int .i64 0, .string ⟨#[]⟩, .string ⟨#[]⟩, .string ⟨#[]⟩] 23)) V3.heap.size ⟨0, ⟨#[]⟩, ⟨#[]⟩, ⟨#[]⟩⟩ := Mine.new V3
            have hle := hS.2.2.size
            have hs := hS.1.below hb
            have hs2 := hS.2.1.below hb
            have hs3 := hS.2.2.trans (hb.mono hS.2.2.size)
            have hltb := hs2.lt
            have hlt2 : w.heap.size + 2 ≤ V3.heap.size := by have := hS.2.1.lt; omega
            have HQ2 := Lib.hid (And.intro (HQ.out.1.below hb) HQ.out.2)
            have hne : q < V3.heap.size := HQ.out.1.1.lt
            generalize V3.alloc _ = V4 at hb hm hs hs2 hs3 HQ2 hltb ⊢
            generalize V3.heap.size = p at hm hlt2 hne ⊢
            have HP := Lib.hid (And.intro hm hlt2)
            have HPQ : Hid (p ≠ q) := Lib.hid (by omega)
            clear hm hlt2 hle hltb hne
            clear HQ
            have HQ := HQ2
            clear HQ2
            refine hK.out _ _ ⟨hs, hs2, hs3⟩ (fun hS => ?_)
            clear hK K hb hs hs2 hs3
            try simp only [Act.put, List.setIfInBounds_toArray, List.set_cons_zero, List.set_cons_succ]
            obtain ⟨⟨p0, p1, p2, p3⟩, f0, f1, f2, f3⟩ := HP.out.1
            refine wpAnyH_ready (rs := [6]) (by kernel_rfl) (by simp) ?_
            refine AllReadyH.cons (o := ⟨none, _, _, _, _, _⟩) rfl (fun K hK => ?_) AllReadyH.nil
            go_simp
            clear p0 p1 p2 p3 f0 f1 f2 f3
            have hm := HP.out.1.set ⟨gk, gs, gl, gt⟩
            have hq := HQ.out.1.other (x := ⟨gk, gs, gl, gt⟩) HPQ.out
            have hb := HP.out.1.belowSet ⟨gk, gs, gl, gt⟩ HP.out.2
            have hs := hS.1.other (x := ⟨gk, gs, gl, gt⟩) (p := p) (by have := HP.out.2; omega)
            have hs2 := hS.2.1.other (x := ⟨gk, gs, gl, gt⟩) (p := p) (by have := HP.out.2; omega)
            have hs3 := hS.2.2.trans hb
            dsimp only at hm hq hb hs hs2 hs3
            generalize World.setCell (World.setCell (World.setCell (World.setCell V4 _ _) _ _) _ _) _ _ = U at hm hq hb hs hs2 hs3 ⊢
            refine hK.out _ _ ⟨hs, hs2, hs3⟩ (fun hS => ?_)
            clear hK K
            try simp only [Act.put, List.setIfInBounds_toArray, List.set_cons_zero, List.set_cons_succ]
            obtain ⟨⟨p0, p1, p2, p3⟩, f0, f1, f2, f3⟩ := hq
            refine wpAnyH_ready (rs := [7]) (by kernel_rfl) (by simp) ?_
            refine AllReadyH.cons (o := ⟨none, _, _, _, _, _⟩) rfl (fun K hK => ?_) AllReadyH.nil
            go_simp
            have hq : Mine U q ⟨0, ⟨#[]⟩, ⟨#[]⟩, ⟨#[]⟩⟩ := ⟨⟨p0, p1, p2, p3⟩, f0, f1, f2, f3⟩
            clear p0 p1 p2 p3 f0 f1 f2 f3
            have hm2 := hm.1.other (x := ⟨hk, hs', hl, ht⟩) HPQ.out.symm
            have hq2 := hq.set ⟨hk, hs', hl, ht⟩
            have hb2 := hq.belowSet ⟨hk, hs', hl, ht⟩ HQ.out.2
            have g1 := hS.1.other (x := ⟨hk, hs', hl, ht⟩) (p := q) (by have := HQ.out.2; omega)
            have g2 := hS.2.1.other (x := ⟨hk, hs', hl, ht⟩) (p := q) (by have := HQ.out.2; omega)
            have g3 := hS.2.2.trans hb2
            dsimp only at hm2 hq2 hb2 g1 g2 g3
            generalize World.setCell (World.setCell (World.setCell (World.setCell U _ _) _ _) _ _) _ _ = U2 at hm2 hq2 hb2 g1 g2 g3 ⊢
            refine hK.out _ _ ⟨g1, g2, g3⟩ (fun hS => ?_)
            clear hK K
            try simp only [Act.put, List.setIfInBounds_toArray, List.set_cons_zero, List.set_cons_succ]
            refine wpAnyH_done (by kernel_rfl) ?_ _
            clear hS
            go_wp2_with fail
            go_meet
            exact ⟨p, q, rfl, rfl, hm2, hq2.1, g3⟩
        · go_simp
          have hb : Below V2.heap.size V2 (V2.alloc (.cells #[.int .i64 0, .string ⟨#[]⟩, .string ⟨#[]⟩, .string ⟨#[]⟩] 23)) := (Below.refl _ _).alloc (Nat.le_refl _) _
          have hm : Mine (V2.alloc (.cells #[.int .i64 0, .string ⟨#[]⟩, .string ⟨#[]⟩, .string ⟨#[]⟩] 23)) V2.heap.size ⟨0, ⟨#[]⟩, ⟨#[]⟩, ⟨#[]⟩⟩ := Mine.new V2
          have hle := hS.2.2.size
          have hs := hS.1.below hb
          have hs2 := hS.2.1.below hb
          have hs3 := hS.2.2.trans (hb.mono hS.2.2.size)
          have hltb := hs2.lt
          have hlt2 : w.heap.size + 2 ≤ V2.heap.size := by have := hS.2.1.lt; omega
          have HQ2 := Lib.hid (And.intro (HQ.out.1.below hb) HQ.out.2)
          have hne : q < V2.heap.size := HQ.out.1.1.lt
          generalize V2.alloc _ = V3 at hb hm hs hs2 hs3 HQ2 hltb ⊢
          generalize V2.heap.size = p at hm hlt2 hne ⊢
          have HP := Lib.hid (And.intro hm hlt2)
          have HPQ : Hid (p ≠ q) := Lib.hid (by omega)
          clear hm hlt2 hle hltb hne
          clear HQ
          have HQ := HQ2
          clear HQ2
          refine hK.out _ _ ⟨hs, hs2, hs3⟩ (fun hS => ?_)
          clear hK K hb hs hs2 hs3
          try simp only [Act.put, List.setIfInBounds_toArray, List.set_cons_zero, List.set_cons_succ]
          refine wpAnyH_ready (rs := [3]) (by kernel_rfl) (by simp) ?_
          refine AllReadyH.cons (o := ⟨some 20, _, _, _, _, _⟩) rfl (fun K hK => ?_) (AllReadyH.nil)
          · go_simp
            refine (HGY.out V3).mono ?_
            rintro e V4 ⟨rfl, hb⟩
            go_simp
            have hs := hS.1.below hb
            have hs2 := hS.2.1.below hb
            have hs3 := hS.2.2.trans (hb.mono hS.2.2.size)
            have HP2 := Lib.hid (And.intro (HP.out.1.below hb) HP.out.2)
            have HQ2 := Lib.hid (And.intro (HQ.out.1.below hb) HQ.out.2)
            clear HP
            have HP := HP2
            clear HP2
            clear HQ
            have HQ := HQ2
            clear HQ2
            refine hK.out _ _ ⟨hs, hs2, hs3⟩ (fun hS => ?_)
            clear hK K hb hs hs2 hs3
            try simp only [Act.put, List.setIfInBounds_toArray, List.set_cons_zero, List.set_cons_succ]
            obtain ⟨⟨p0, p1, p2, p3⟩, f0, f1, f2, f3⟩ := HP.out.1
            refine wpAnyH_ready (rs := [6]) (by kernel_rfl) (by simp) ?_
            refine AllReadyH.cons (o := ⟨none, _, _, _, _, _⟩) rfl (fun K hK => ?_) AllReadyH.nil
            go_simp
            clear p0 p1 p2 p3 f0 f1 f2 f3
            have hm := HP.out.1.set ⟨gk, gs, gl, gt⟩
            have hq := HQ.out.1.other (x := ⟨gk, gs, gl, gt⟩) HPQ.out
            have hb := HP.out.1.belowSet ⟨gk, gs, gl, gt⟩ HP.out.2
            have hs := hS.1.other (x := ⟨gk, gs, gl, gt⟩) (p := p) (by have := HP.out.2; omega)
            have hs2 := hS.2.1.other (x := ⟨gk, gs, gl, gt⟩) (p := p) (by have := HP.out.2; omega)
            have hs3 := hS.2.2.trans hb
            dsimp only at hm hq hb hs hs2 hs3
            generalize World.setCell (World.setCell (World.setCell (World.setCell V4 _ _) _ _) _ _) _ _ = U at hm hq hb hs hs2 hs3 ⊢
            refine hK.out _ _ ⟨hs, hs2, hs3⟩ (fun hS => ?_)
            clear hK K
            try simp only [Act.put, List.setIfInBounds_toArray, List.set_cons_zero, List.set_cons_succ]
            obtain ⟨⟨p0, p1, p2, p3⟩, f0, f1, f2, f3⟩ := hq
            refine wpAnyH_ready (rs := [7]) (by kernel_rfl) (by simp) ?_
            refine AllReadyH.cons (o := ⟨none, _, _, _, _, _⟩) rfl (fun K hK => ?_) AllReadyH.nil
            go_simp
            have hq : Mine U q ⟨0, ⟨#[]⟩, ⟨#[]⟩, ⟨#[]⟩⟩ := ⟨⟨p0, p1, p2, p3⟩, f0, f1, f2, f3⟩
            clear p0 p1 p2 p3 f0 f1 f2 f3
            have hm2 := hm.1.other (x := ⟨hk, hs', hl, ht⟩) HPQ.out.symm
            have hq2 := hq.set ⟨hk, hs', hl, ht⟩
            have hb2 := hq.belowSet ⟨hk, hs', hl, ht⟩ HQ.out.2
            have g1 := hS.1.other (x := ⟨hk, hs', hl, ht⟩) (p := q) (by have := HQ.out.2; omega)
            have g2 := hS.2.1.other (x := ⟨hk, hs', hl, ht⟩) (p := q) (by have := HQ.out.2; omega)
            have g3 := hS.2.2.trans hb2
            dsimp only at hm2 hq2 hb2 g1 g2 g3
            generalize World.setCell (World.setCell (World.setCell (World.setCell U _ _) _ _) _ _) _ _ = U2 at hm2 hq2 hb2 g1 g2 g3 ⊢
            refine hK.out _ _ ⟨g1, g2, g3⟩ (fun hS => ?_)
            clear hK K
            try simp only [Act.put, List.setIfInBounds_toArray, List.set_cons_zero, List.set_cons_succ]
            refine wpAnyH_done (by kernel_rfl) ?_ _
            clear hS
            go_wp2_with fail
            go_meet
            exact ⟨p, q, rfl, rfl, hm2, hq2.1, g3⟩
      · go_simp
        have hb : Below V1.heap.size V1 (V1.alloc (.cells #[.int .i64 0, .string ⟨#[]⟩, .string ⟨#[]⟩, .string ⟨#[]⟩] 23)) := (Below.refl _ _).alloc (Nat.le_refl _) _
        have hm : Mine (V1.alloc (.cells #[.int .i64 0, .string ⟨#[]⟩, .string ⟨#[]⟩, .string ⟨#[]⟩] 23)) V1.heap.size ⟨0, ⟨#[]⟩, ⟨#[]⟩, ⟨#[]⟩⟩ := Mine.new V1
        have hle := hS.2.2.size
        have hs := hS.1.below hb
        have hs2 := hS.2.1.below hb
        have hs3 := hS.2.2.trans (hb.mono hS.2.2.size)
        have hltb := hs2.lt
        have hlt2 : w.heap.size + 2 ≤ V1.heap.size := by have := hS.2.1.lt; omega
        have HQ2 := Lib.hid (And.intro (HQ.out.1.below hb) HQ.out.2)
        have hne : q < V1.heap.size := HQ.out.1.1.lt
        generalize V1.alloc _ = V2 at hb hm hs hs2 hs3 HQ2 hltb ⊢
        generalize V1.heap.size = p at hm hlt2 hne ⊢
        have HP := Lib.hid (And.intro hm hlt2)
        have HPQ : Hid (p ≠ q) := Lib.hid (by omega)
        clear hm hlt2 hle hltb hne
        clear HQ
        have HQ := HQ2
        clear HQ2
        refine hK.out _ _ ⟨hs, hs2, hs3⟩ (fun hS => ?_)
        clear hK K hb hs hs2 hs3
        try simp only [Act.put, List.setIfInBounds_toArray, List.set_cons_zero, List.set_cons_succ]
        refine wpAnyH_ready (rs := [1]) (by kernel_rfl) (by simp) ?_
        refine AllReadyH.cons (o := ⟨some 18, _, _, _, _, _⟩) rfl (fun K hK => ?_) (AllReadyH.nil)
        · go_simp
          refine (HGX.out V2).mono ?_
          rintro e V3 ⟨rfl, hb⟩
          go_simp
          have hs := hS.1.below hb
          have hs2 := hS.2.1.below hb
          have hs3 := hS.2.2.trans (hb.mono hS.2.2.size)
          have HP2 := Lib.hid (And.intro (HP.out.1.below hb) HP.out.2)
          have HQ2 := Lib.hid (And.intro (HQ.out.1.below hb) HQ.out.2)
          clear HP
          have HP := HP2
          clear HP2
          clear HQ
          have HQ := HQ2
          clear HQ2
          refine hK.out _ _ ⟨hs, hs2, hs3⟩ (fun hS => ?_)
          clear hK K hb hs hs2 hs3
          try simp only [Act.put, List.setIfInBounds_toArray, List.set_cons_zero, List.set_cons_succ]
          refine wpAnyH_ready (rs := [3]) (by kernel_rfl) (by simp) ?_
          refine AllReadyH.cons (o := ⟨some 20, _, _, _, _, _⟩) rfl (fun K hK => ?_) (AllReadyH.nil)
          · go_simp
            refine (HGY.out V3).mono ?_
            rintro e V4 ⟨rfl, hb⟩
            go_simp
            have hs := hS.1.below hb
            have hs2 := hS.2.1.below hb
            have hs3 := hS.2.2.trans (hb.mono hS.2.2.size)
            have HP2 := Lib.hid (And.intro (HP.out.1.below hb) HP.out.2)
            have HQ2 := Lib.hid (And.intro (HQ.out.1.below hb) HQ.out.2)
            clear HP
            have HP := HP2
            clear HP2
            clear HQ
            have HQ := HQ2
            clear HQ2
            refine hK.out _ _ ⟨hs, hs2, hs3⟩ (fun hS => ?_)
            clear hK K hb hs hs2 hs3
            try simp only [Act.put, List.setIfInBounds_toArray, List.set_cons_zero, List.set_cons_succ]
            obtain ⟨⟨p0, p1, p2, p3⟩, f0, f1, f2, f3⟩ := HP.out.1
            refine wpAnyH_ready (rs := [6]) (by kernel_rfl) (by simp) ?_
            refine AllReadyH.cons (o := ⟨none, _, _, _, _, _⟩) rfl (fun K hK => ?_) AllReadyH.nil
            go_simp
            clear p0 p1 p2 p3 f0 f1 f2 f3
            have hm := HP.out.1.set ⟨gk, gs, gl, gt⟩
            have hq := HQ.out.1.other (x := ⟨gk, gs, gl, gt⟩) HPQ.out
            have hb := HP.out.1.belowSet ⟨gk, gs, gl, gt⟩ HP.out.2
            have hs := hS.1.other (x := ⟨gk, gs, gl, gt⟩) (p := p) (by have := HP.out.2; omega)
            have hs2 := hS.2.1.other (x := ⟨gk, gs, gl, gt⟩) (p := p) (by have := HP.out.2; omega)
            have hs3 := hS.2.2.trans hb
            dsimp only at hm hq hb hs hs2 hs3
            generalize World.setCell (World.setCell (World.setCell (World.setCell V4 _ _) _ _) _ _) _ _ = U at hm hq hb hs hs2 hs3 ⊢
            refine hK.out _ _ ⟨hs, hs2, hs3⟩ (fun hS => ?_)
            clear hK K
            try simp only [Act.put, List.setIfInBounds_toArray, List.set_cons_zero, List.set_cons_succ]
            obtain ⟨⟨p0, p1, p2, p3⟩, f0, f1, f2, f3⟩ := hq
            refine wpAnyH_ready (rs := [7]) (by kernel_rfl) (by simp) ?_
            refine AllReadyH.cons (o := ⟨none, _, _, _, _, _⟩) rfl (fun K hK => ?_) AllReadyH.nil
            go_simp
            have hq : Mine U q ⟨0, ⟨#[]⟩, ⟨#[]⟩, ⟨#[]⟩⟩ := ⟨⟨p0, p1, p2, p3⟩, f0, f1, f2, f3⟩
            clear p0 p1 p2 p3 f0 f1 f2 f3
            have hm2 := hm.1.other (x := ⟨hk, hs', hl, ht⟩) HPQ.out.symm
            have hq2 := hq.set ⟨hk, hs', hl, ht⟩
            have hb2 := hq.belowSet ⟨hk, hs', hl, ht⟩ HQ.out.2
            have g1 := hS.1.other (x := ⟨hk, hs', hl, ht⟩) (p := q) (by have := HQ.out.2; omega)
            have g2 := hS.2.1.other (x := ⟨hk, hs', hl, ht⟩) (p := q) (by have := HQ.out.2; omega)
            have g3 := hS.2.2.trans hb2
            dsimp only at hm2 hq2 hb2 g1 g2 g3
            generalize World.setCell (World.setCell (World.setCell (World.setCell U _ _) _ _) _ _) _ _ = U2 at hm2 hq2 hb2 g1 g2 g3 ⊢
            refine hK.out _ _ ⟨g1, g2, g3⟩ (fun hS => ?_)
            clear hK K
            try simp only [Act.put, List.setIfInBounds_toArray, List.set_cons_zero, List.set_cons_succ]
            refine wpAnyH_done (by kernel_rfl) ?_ _
            clear hS
            go_wp2_with fail
            go_meet
            exact ⟨p, q, rfl, rfl, hm2, hq2.1, g3⟩
  case rest =>
    obtain ⟨p, q, rfl, rfl, hp, hq, hb⟩ := hcut
    have hS : (fun w' : World => Box w' p ⟨gk, gs, gl, gt⟩ ∧ Box w' q ⟨hk, hs', hl, ht⟩ ∧ Below w.heap.size w w') wc := ⟨hp, hq, hb⟩
    clear hp hq hb
    have hxy := HXY.out
    have huv := HUV.out
    have hst := HST.out
    cases eqb
    all_goals
      go_wp2_with fail
      obtain ⟨V0, hV0⟩ : ∃ V0, V0 = wc.drew := ⟨_, rfl⟩
      have hS : (fun w' : World => Box w' p ⟨gk, gs, gl, gt⟩ ∧ Box w' q ⟨hk, hs', hl, ht⟩ ∧ Below w.heap.size w w') V0 := by subst hV0; exact ⟨hS.1, hS.2.1, hS.2.2.drew⟩
      refine wp_region_any (by kernel_rfl) ?_
      change wpAny _ _ _ _ _ _ _ (World.drew _)
      rw [← hV0]
      clear hV0
      refine wpAny_of_held (S := fun w' : World => Box w' p ⟨gk, gs, gl, gt⟩ ∧ Box w' q ⟨hk, hs', hl, ht⟩ ∧ Below w.heap.size w w') _ _ _ _ ?_
      try simp only [Act.put, List.setIfInBounds_toArray, List.set_cons_zero, List.set_cons_succ]
      refine wpAnyH_take (i := 0) (oi := ⟨some 21, _, _, _, _, _⟩) (v := ?_) rfl (by kernel_rfl) (by kernel_rfl) (by kernel_rfl) (fun _ _ _ h => h) (Or.inl ⟨by simp only [Region.wanted], ?_⟩) hS ?_
      rotate_left
      · intro wz hSw; obtain ⟨⟨c0, c1, c2, c3⟩, ⟨d0, d1, d2, d3⟩, -⟩ := hSw
        (try dsimp only at hSw)
        (try go_split_ands)
        go_simp
        first | done | with_reducible rfl
      try simp only [Act.put, List.setIfInBounds_toArray, List.set_cons_zero, List.set_cons_succ]
      refine wpAnyH_take (i := 2) (oi := ⟨some 23, _, _, _, _, _⟩) (v := ?_) rfl (by kernel_rfl) (by kernel_rfl) (by kernel_rfl) (fun _ _ _ h => h) (Or.inl ⟨by simp only [Region.wanted], ?_⟩) hS ?_
      rotate_left
      · intro wz hSw; obtain ⟨⟨c0, c1, c2, c3⟩, ⟨d0, d1, d2, d3⟩, -⟩ := hSw
        (try dsimp only at hSw)
        (try go_split_ands)
        go_simp
        first | done | with_reducible rfl
      try simp only [Act.put, List.setIfInBounds_toArray, List.set_cons_zero, List.set_cons_succ]
      refine wpAnyH_take (i := 5) (oi := ⟨some 26, _, _, _, _, _⟩) (v := ?_) rfl (by kernel_rfl) (by kernel_rfl) (by kernel_rfl) (fun _ _ _ h => h) (Or.inl ⟨by simp only [Region.wanted], ?_⟩) hS ?_
      rotate_left
      · intro wz hSw; obtain ⟨⟨c0, c1, c2, c3⟩, ⟨d0, d1, d2, d3⟩, -⟩ := hSw
        (try dsimp only at hSw)
        (try go_split_ands)
        go_simp
        first | done | with_reducible rfl
      try simp only [Act.put, List.setIfInBounds_toArray, List.set_cons_zero, List.set_cons_succ]
      refine wpAnyH_take (i := 6) (oi := ⟨some 27, _, _, _, _, _⟩) (v := ?_) rfl (by kernel_rfl) (by kernel_rfl) (by kernel_rfl) (fun _ _ _ h => h) (Or.inl ⟨by simp only [Region.wanted], ?_⟩) hS ?_
      rotate_left
      · intro wz hSw; obtain ⟨⟨c0, c1, c2, c3⟩, ⟨d0, d1, d2, d3⟩, -⟩ := hSw
        (try dsimp only at hSw)
        (try go_split_ands)
        go_simp
        first | done | with_reducible rfl
      try simp only [Act.put, List.setIfInBounds_toArray, List.set_cons_zero, List.set_cons_succ]
      refine wpAnyH_take (i := 7) (oi := ⟨some 28, _, _, _, _, _⟩) (v := ?_) rfl (by kernel_rfl) (by kernel_rfl) (by kernel_rfl) (fun _ _ _ h => h) (Or.inl ⟨by simp only [Region.wanted], ?_⟩) hS ?_
      rotate_left
      · intro wz hSw
        clear hSw
        go_simp
        first | done | with_reducible rfl
      try simp only [Act.put, List.setIfInBounds_toArray, List.set_cons_zero, List.set_cons_succ]
      refine wpAnyH_ready (rs := [1]) (by kernel_rfl) (by simp) ?_
      refine AllReadyH.cons (o := ⟨some 22, _, _, _, _, _⟩) rfl (fun K hK => ?_) AllReadyH.nil
      go_simp
      refine (HTX.out _).mono ?_
      rintro e V1 ⟨rfl, hb1⟩
      go_simp
      refine hK.out _ _ (⟨hS.1.below hb1, hS.2.1.below hb1, hS.2.2.trans (hb1.mono hS.2.2.size)⟩) (fun hS => ?_)
      clear hK K
      try simp only [Act.put, List.setIfInBounds_toArray, List.set_cons_zero, List.set_cons_succ]
      clear hb1
      refine wpAnyH_ready (rs := [3]) (by kernel_rfl) (by simp) ?_
      refine AllReadyH.cons (o := ⟨some 24, _, _, _, _, _⟩) rfl (fun K hK => ?_) AllReadyH.nil
      go_simp
      refine (HTY.out _).mono ?_
      rintro e V2 ⟨rfl, hb1⟩
      go_simp
      refine hK.out _ _ (⟨hS.1.below hb1, hS.2.1.below hb1, hS.2.2.trans (hb1.mono hS.2.2.size)⟩) (fun hS => ?_)
      clear hK K
      try simp only [Act.put, List.setIfInBounds_toArray, List.set_cons_zero, List.set_cons_succ]
      clear hb1
      refine wpAnyH_take (i := 4) (oi := ⟨some 25, _, _, _, _, _⟩) (v := ?_) rfl (by kernel_rfl) (by kernel_rfl) (by kernel_rfl) (fun _ _ _ h => h) (Or.inl ⟨by simp only [Region.wanted], ?_⟩) hS ?_
      rotate_left
      · intro wz hSw
        clear hSw
        go_simp
        first | done | with_reducible rfl
      try simp only [Act.put, List.setIfInBounds_toArray, List.set_cons_zero, List.set_cons_succ]
      refine wpAnyH_take (i := 8) (oi := ⟨some 29, _, _, _, _, _⟩) (v := ?_) rfl (by kernel_rfl) (by kernel_rfl) (by kernel_rfl) (fun _ _ _ h => h) (Or.inl ⟨by simp only [Region.wanted], ?_⟩) hS ?_
      rotate_left
      · intro wz hSw
        clear hSw
        go_simp
        first | done | with_reducible rfl
      try simp only [Act.put, List.setIfInBounds_toArray, List.set_cons_zero, List.set_cons_succ]
      refine wpAnyH_take (i := 9) (oi := ⟨some 30, _, _, _, _, _⟩) (v := ?_) rfl (by kernel_rfl) (by kernel_rfl) (by kernel_rfl) (fun _ _ _ h => h) (Or.inl ⟨by simp only [Region.wanted], ?_⟩) hS ?_
      rotate_left
      · intro wz hSw
        clear hSw
        go_simp
        first | done | with_reducible rfl
      try simp only [Act.put, List.setIfInBounds_toArray, List.set_cons_zero, List.set_cons_succ]
      refine wpAnyH_take (i := 10) (oi := ⟨some 31, _, _, _, _, _⟩) (v := ?_) rfl (by kernel_rfl) (by kernel_rfl) (by kernel_rfl) (fun _ _ _ h => h) (Or.inl ⟨by rfl, ?_⟩) hS ?_
      rotate_left
      · intro wz hSw; obtain ⟨⟨c0, c1, c2, c3⟩, ⟨d0, d1, d2, d3⟩, -⟩ := hSw
        (try dsimp only at hSw)
        (try go_split_ands)
        go_simp
        first | done | with_reducible rfl
      try simp only [Act.put, List.setIfInBounds_toArray, List.set_cons_zero, List.set_cons_succ]
      refine wpAnyH_take (i := 13) (oi := ⟨some 34, _, _, _, _, _⟩) (v := ?_) rfl (by kernel_rfl) (by kernel_rfl) (by kernel_rfl) (fun _ _ _ h => h) (Or.inl ⟨by rfl, ?_⟩) hS ?_
      rotate_left
      · intro wz hSw; obtain ⟨⟨c0, c1, c2, c3⟩, ⟨d0, d1, d2, d3⟩, -⟩ := hSw
        (try dsimp only at hSw)
        (try go_split_ands)
        go_simp
        first | done | with_reducible rfl
      try simp only [Act.put, List.setIfInBounds_toArray, List.set_cons_zero, List.set_cons_succ]
      refine wpAnyH_take (i := 17) (oi := ⟨some 38, _, _, _, _, _⟩) (v := ?_) rfl (by kernel_rfl) (by kernel_rfl) (by kernel_rfl) (fun _ _ _ h => h) (Or.inl ⟨by rfl, ?_⟩) hS ?_
      rotate_left
      · intro wz hSw; obtain ⟨⟨c0, c1, c2, c3⟩, ⟨d0, d1, d2, d3⟩, -⟩ := hSw
        (try dsimp only at hSw)
        (try go_split_ands)
        go_simp
        first | done | with_reducible rfl
      try simp only [Act.put, List.setIfInBounds_toArray, List.set_cons_zero, List.set_cons_succ]
      refine wpAnyH_take (i := 18) (oi := ⟨some 39, _, _, _, _, _⟩) (v := ?_) rfl (by kernel_rfl) (by kernel_rfl) (by kernel_rfl) (fun _ _ _ h => h) (Or.inl ⟨by rfl, ?_⟩) hS ?_
      rotate_left
      · intro wz hSw; obtain ⟨⟨c0, c1, c2, c3⟩, ⟨d0, d1, d2, d3⟩, -⟩ := hSw
        (try dsimp only at hSw)
        (try go_split_ands)
        go_simp
        first | done | with_reducible rfl
      try simp only [Act.put, List.setIfInBounds_toArray, List.set_cons_zero, List.set_cons_succ]
      refine wpAnyH_take (i := 19) (oi := ⟨some 40, _, _, _, _, _⟩) (v := ?_) rfl (by kernel_rfl) (by kernel_rfl) (by kernel_rfl) (fun _ _ _ h => h) (Or.inl ⟨by rfl, ?_⟩) hS ?_
      rotate_left
      · intro wz hSw
        clear hSw
        go_simp
        first | done | with_reducible rfl
      try simp only [Act.put, List.setIfInBounds_toArray, List.set_cons_zero, List.set_cons_succ]
      refine wpAnyH_ready (rs := [11]) (by kernel_rfl) (by simp) ?_
      refine AllReadyH.cons (o := ⟨some 32, _, _, _, _, _⟩) rfl (fun K hK => ?_) AllReadyH.nil
      go_simp
      refine (HBX.out _).mono ?_
      rintro e V3 ⟨v1, rfl, ho1, hb1⟩
      obtain ⟨ao1, cap1, rfl, -⟩ := id ho1.bs
      have HO1 := Lib.hid ho1.bs
      clear ho1
      go_simp
      refine hK.out _ _ (⟨hS.1.below hb1, hS.2.1.below hb1, hS.2.2.trans (hb1.mono hS.2.2.size)⟩) (fun hS => ?_)
      clear hK K
      try simp only [Act.put, List.setIfInBounds_toArray, List.set_cons_zero, List.set_cons_succ]
      clear hb1
      have hS' : (fun w' : World => (Box w' p ⟨gk, gs, gl, gt⟩ ∧ Box w' q ⟨hk, hs', hl, ht⟩ ∧ Below w.heap.size w w') ∧ Bs w' (.slice ao1 lx.length cap1) lx) (_) := ⟨hS, HO1.out⟩
      refine wpAnyH_mono (S' := fun w' : World => (Box w' p ⟨gk, gs, gl, gt⟩ ∧ Box w' q ⟨hk, hs', hl, ht⟩ ∧ Below w.heap.size w w') ∧ Bs w' (.slice ao1 lx.length cap1) lx) (fun _ h => h.1) _ _ _ _ ?_
      clear hS
      have hS := hS'
      clear hS'
      refine wpAnyH_take (i := 12) (oi := ⟨some 33, _, _, _, _, _⟩) (v := ?_) rfl (by kernel_rfl) (by kernel_rfl) (by kernel_rfl) (fun _ _ _ h => h) (Or.inl ⟨by rfl, ?_⟩) hS ?_
      rotate_left
      · intro wz hSw; obtain ⟨⟨⟨c0, c1, c2, c3⟩, ⟨d0, d1, d2, d3⟩, -⟩, hB1⟩ := hSw; have hcv := run_conv_bytes hB1; rw [HU.out] at hcv
        (try dsimp only at hSw)
        (try go_split_ands)
        go_simp
        first | done | with_reducible rfl
      try simp only [Act.put, List.setIfInBounds_toArray, List.set_cons_zero, List.set_cons_succ]
      refine wpAnyH_ready (rs := [14]) (by kernel_rfl) (by simp) ?_
      refine AllReadyH.cons (o := ⟨some 35, _, _, _, _, _⟩) rfl (fun K hK => ?_) AllReadyH.nil
      go_simp
      refine (HBY.out _).mono ?_
      rintro e V4 ⟨v2, rfl, ho2, hb1⟩
      obtain ⟨ao2, cap2, rfl, -⟩ := id ho2.bs
      have HO2 := Lib.hid ho2.bs
      clear ho2
      go_simp
      refine hK.out _ _ (⟨⟨hS.1.1.below hb1, hS.1.2.1.below hb1, hS.1.2.2.trans (hb1.mono hS.1.2.2.size)⟩, hS.2.below hb1⟩) (fun hS => ?_)
      clear hK K
      try simp only [Act.put, List.setIfInBounds_toArray, List.set_cons_zero, List.set_cons_succ]
      clear hb1
      have hS' : (fun w' : World => (Box w' p ⟨gk, gs, gl, gt⟩ ∧ Box w' q ⟨hk, hs', hl, ht⟩ ∧ Below w.heap.size w w') ∧ Bs w' (.slice ao1 lx.length cap1) lx ∧ Bs w' (.slice ao2 ly.length cap2) ly) (_) := ⟨hS.1, hS.2, HO2.out⟩
      refine wpAnyH_mono (S' := fun w' : World => (Box w' p ⟨gk, gs, gl, gt⟩ ∧ Box w' q ⟨hk, hs', hl, ht⟩ ∧ Below w.heap.size w w') ∧ Bs w' (.slice ao1 lx.length cap1) lx ∧ Bs w' (.slice ao2 ly.length cap2) ly) (fun _ h => ⟨h.1, h.2.1⟩) _ _ _ _ ?_
      clear hS
      have hS := hS'
      clear hS'
      refine wpAnyH_take (i := 15) (oi := ⟨some 36, _, _, _, _, _⟩) (v := ?_) rfl (by kernel_rfl) (by kernel_rfl) (by kernel_rfl) (fun _ _ _ h => h) (Or.inl ⟨by rfl, ?_⟩) hS ?_
      rotate_left
      · intro wz hSw; obtain ⟨⟨⟨c0, c1, c2, c3⟩, ⟨d0, d1, d2, d3⟩, -⟩, hB1, hB2⟩ := hSw; have hcv := run_conv_bytes hB2; rw [HV.out] at hcv
        (try dsimp only at hSw)
        (try go_split_ands)
        go_simp
        first | done | with_reducible rfl
      try simp only [Act.put, List.setIfInBounds_toArray, List.set_cons_zero, List.set_cons_succ]
      refine wpAnyH_take (i := 16) (oi := ⟨some 37, _, _, _, _, _⟩) (v := ?_) rfl (by kernel_rfl) (by kernel_rfl) (by kernel_rfl) (fun _ _ _ h => h) (Or.inl ⟨by rfl, ?_⟩) hS ?_
      rotate_left
      · intro wz hSw
        clear hSw
        go_simp
        first | done | with_reducible rfl
      try simp only [Act.put, List.setIfInBounds_toArray, List.set_cons_zero, List.set_cons_succ]
      refine wpAnyH_take (i := 20) (oi := ⟨some 41, _, _, _, _, _⟩) (v := ?_) rfl (by kernel_rfl) (by kernel_rfl) (by kernel_rfl) (fun _ _ _ h => h) (Or.inl ⟨by rfl, ?_⟩) hS ?_
      rotate_left
      · intro wz hSw
        clear hSw
        go_simp
        first | done | with_reducible rfl
      try simp only [Act.put, List.setIfInBounds_toArray, List.set_cons_zero, List.set_cons_succ]
      refine wpAnyH_take (i := 21) (oi := ⟨some 42, _, _, _, _, _⟩) (v := ?_) rfl (by kernel_rfl) (by kernel_rfl) (by kernel_rfl) (fun _ _ _ h => h) (Or.inl ⟨by simp only [Region.wanted], ?_⟩) hS ?_
      rotate_left
      · intro wz hSw
        clear hSw
        go_simp
        first | done | with_reducible rfl
      try simp only [Act.put, List.setIfInBounds_toArray, List.set_cons_zero, List.set_cons_succ]
      refine wpAnyH_take (i := 22) (oi := ⟨some 4, _, _, _, _, _⟩) (v := ?_) rfl (by kernel_rfl) (by kernel_rfl) (by kernel_rfl) (fun _ _ _ h => h) (Or.inl ⟨by simp only [Region.wanted], ?_⟩) hS ?_
      rotate_left
      · intro wz hSw
        clear hSw
        go_simp
        first | done | with_reducible rfl
      try simp only [Act.put, List.setIfInBounds_toArray, List.set_cons_zero, List.set_cons_succ]
      refine wpAnyH_done (by kernel_rfl) ?_ _
      have HBEL := Lib.hid hS.1.2.2
      clear hS
      go_wp2_with fail
      go_ret
      exact ⟨rfl, HBEL.out⟩
end Go.Proofs.Ytpoacgnncinmiaa
