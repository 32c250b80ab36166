/- Terms: TermKinds. -/
import Derived.Test.YtpoacgnncinmiaaTl
import Derived.Test.YtpoacgnncinmiaaTi
import Derived.Test.YtpoacgnncinmiaaTm
import Derived.Test.YtpoacgnncinmiaaTn
import Derived.Deep.DeepCutAuto
namespace Go.Proofs.Ytpoacgnncinmiaa
open Go.RowKit
set_option maxRecDepth 100000

theorem goodT_k (x : Tm) : (goodT x).k = 1 ∨ (goodT x).k = 2 ∨ (goodT x).k = 3 := by
  unfold goodT
  repeat' split
  all_goals simp
theorem few_of {x : Tm} (hx : x.Ok) (h : fewB x = true) : x.Few := by
  unfold fewB at h
  simp at h
  exact ⟨hx.k, h.1.1, h.1.2, h.2⟩
/-- What 'x, y := Good(a), Good(b)' leaves. -/
def Two (w wx : World) (s5 s6 : Value) (x y : Tm) : Prop := ∃ p q : Nat, s5 = .pointer (some ⟨p, 0, none⟩) ∧ s6 = .pointer (some ⟨q, 0, none⟩) ∧ Box wx p x ∧ Box wx q y ∧ Below w.heap.size w wx

set_option maxHeartbeats 8000000 in
theorem kinds_walk (x y : Tm) (hx : x.Ok) (hy : y.Ok) (w : World) :
    Calls Try.prog 9 #[x.val, y.val] w fun e w' => e = .returned (.bool true) ∧ Below w.heap.size w w' := by
  have hfx := few_any x
  have hfy := few_any y
  have hgx := good_any x
  have hgy := good_any y
  generalize hGX : goodT x = gx at hgx
  generalize hGY : goodT y = gy at hgy
  have hcmp := compare_any gx gy
  have hkx := goodT_k x
  have hky := goodT_k y
  rw [hGX] at hkx
  rw [hGY] at hky
  have HGX := Lib.hid fun h => hgx (few_of hx h)
  have HGY := Lib.hid fun h => hgy (few_of hy h)
  clear hGX hGY hgx hgy hx hy
  generalize fewB x = fx at *
  generalize fewB y = fy at *
  obtain ⟨k, s, l, t⟩ := x
  obtain ⟨k2, s2, l2, t2⟩ := y
  obtain ⟨gk, gs, gl, gt⟩ := gx
  obtain ⟨hk, hs', hl, ht⟩ := gy
  unfold Tm.val at hfx hfy hcmp HGX HGY ⊢
  dsimp only at hfx hfy hcmp HGX HGY hkx hky ⊢
  have HFX := Lib.hid hfx
  have HFY := Lib.hid hfy
  have HCMP := Lib.hid hcmp
  have HKX := Lib.hid hkx
  have HKY := Lib.hid hky
  clear hfx hfy hcmp hkx hky
  obtain ⟨W, hW⟩ : ∃ W, W = (w.alloc (.cells #[.int .i64 k, .string s, .string l, .string t] 23)).alloc (.cells #[.int .i64 k2, .string s2, .string l2, .string t2] 23) := ⟨_, rfl⟩
  have hA : Box W w.heap.size ⟨k, s, l, t⟩ ∧ Box W (w.heap.size + 1) ⟨k2, s2, l2, t2⟩ ∧ Below w.heap.size w W := by
    subst hW
    refine ⟨⟨?_, ?_, ?_, ?_⟩, ⟨?_, ?_, ?_, ?_⟩, ((Below.refl _ _).alloc (Nat.le_refl _) _).alloc (by simp) _⟩ <;> simp
  have HA := Lib.hid hA
  have HW := Lib.hid hW
  clear hA hW
  go_enter Try.func9, Try.ntmps9
  go_wp2_with fail
  simp only [← HW.out]
  refine (known_any W).mono ?_
  rintro e w1 ⟨rfl, hb⟩
  have hA1 := And.intro (HA.out.1.below hb) (And.intro (HA.out.2.1.below hb) (HA.out.2.2.trans (hb.mono HA.out.2.2.size)))
  have HA1 := Lib.hid hA1
  clear hb hA1 HA HW
  obtain ⟨c0, c1, c2, c3⟩ := HA1.out.1
  go_wp2_with fail
  refine (HFX.out _).mono ?_
  rintro e w2 ⟨rfl, hb⟩
  have hA2 := And.intro (HA1.out.1.below hb) (And.intro (HA1.out.2.1.below hb) (HA1.out.2.2.trans (hb.mono HA1.out.2.2.size)))
  have HA2 := Lib.hid hA2
  clear hb hA2 HA1 c0 c1 c2 c3
  cases fx with
  | false =>
    go_wp2_with fail
    go_ret
    exact ⟨rfl, HA2.out.2.2⟩
  | true =>
  obtain ⟨c0, c1, c2, c3⟩ := HA2.out.2.1
  go_wp2_with fail
  refine (HFY.out _).mono ?_
  rintro e w3 ⟨rfl, hb⟩
  have hA3 := And.intro (HA2.out.1.below hb) (And.intro (HA2.out.2.1.below hb) (HA2.out.2.2.trans (hb.mono HA2.out.2.2.size)))
  have HA3 := Lib.hid hA3
  clear hb hA3 HA2 c0 c1 c2 c3
  cases fy with
  | false =>
    go_wp2_with fail
    go_ret
    exact ⟨rfl, HA3.out.2.2⟩
  | true =>
  replace HGX := Lib.hid (HGX.out (by trivial))
  replace HGY := Lib.hid (HGY.out (by trivial))
  go_upto_region 5 with fail
  go_cut [5, 6] (fun s5 s6 wx => Two w wx s5 s6 ⟨gk, gs, gl, gt⟩ ⟨hk, hs', hl, ht⟩)
  case first =>
    obtain ⟨V0, hV0⟩ : ∃ V0, V0 = w3.drew := ⟨_, rfl⟩
    have hS : (fun w' : World => Box w' w.heap.size ⟨k, s, l, t⟩ ∧ Box w' (w.heap.size + 1) ⟨k2, s2, l2, t2⟩ ∧ Below w.heap.size w w') V0 := by subst hV0; exact ⟨HA3.out.1, HA3.out.2.1, HA3.out.2.2.drew⟩
    refine wp_region_any (by kernel_rfl) ?_
    change wpAny _ _ _ _ _ _ _ (World.drew _)
    rw [← hV0]
    clear hV0
    refine wpAny_of_held (S := fun w' : World => Box w' w.heap.size ⟨k, s, l, t⟩ ∧ Box w' (w.heap.size + 1) ⟨k2, s2, l2, t2⟩ ∧ Below w.heap.size w w') _ _ _ _ ?_
    try simp only [Act.put, List.setIfInBounds_toArray, List.set_cons_zero, List.set_cons_succ]
    refine wpAnyH_take (i := 0) (oi := ⟨some 19, _, _, _, _, _⟩) (v := ?_) rfl (by kernel_rfl) (by kernel_rfl) (by kernel_rfl) (fun _ _ _ h => h) (Or.inl ⟨by simp only [Region.wanted], ?_⟩) hS ?_
    rotate_left
    · intro wz hSw; obtain ⟨⟨c0, c1, c2, c3⟩, ⟨d0, d1, d2, d3⟩, -⟩ := hSw
      (try dsimp only at hSw)
      (try go_split_ands)
      go_simp
      first | done | with_reducible rfl
    try simp only [Act.put, List.setIfInBounds_toArray, List.set_cons_zero, List.set_cons_succ]
    refine wpAnyH_take (i := 2) (oi := ⟨some 21, _, _, _, _, _⟩) (v := ?_) rfl (by kernel_rfl) (by kernel_rfl) (by kernel_rfl) (fun _ _ _ h => h) (Or.inl ⟨by simp only [Region.wanted], ?_⟩) hS ?_
    rotate_left
    · intro wz hSw; obtain ⟨⟨c0, c1, c2, c3⟩, ⟨d0, d1, d2, d3⟩, -⟩ := hSw
      (try dsimp only at hSw)
      (try go_split_ands)
      go_simp
      first | done | with_reducible rfl
    try simp only [Act.put, List.setIfInBounds_toArray, List.set_cons_zero, List.set_cons_succ]
    refine wpAnyH_ready (rs := [1, 4, 5]) (by kernel_rfl) (by simp) ?_
    refine AllReadyH.cons (o := ⟨some 20, _, _, _, _, _⟩) rfl (fun K hK => ?_) (AllReadyH.cons (o := ⟨some 5, _, _, _, _, _⟩) rfl (fun K hK => ?_) (AllReadyH.cons (o := ⟨some 6, _, _, _, _, _⟩) rfl (fun K hK => ?_) (AllReadyH.nil)))
    · go_simp
      refine (HGX.out V0).mono ?_
      rintro e V1 ⟨rfl, hb⟩
      go_simp
      have hs := hS.1.below hb
      have hs2 := hS.2.1.below hb
      have hs3 := hS.2.2.trans (hb.mono hS.2.2.size)
      refine hK.out _ _ ⟨hs, hs2, hs3⟩ (fun hS => ?_)
      clear hK K hb hs hs2 hs3
      try simp only [Act.put, List.setIfInBounds_toArray, List.set_cons_zero, List.set_cons_succ]
      refine wpAnyH_ready (rs := [3, 4, 5]) (by kernel_rfl) (by simp) ?_
      refine AllReadyH.cons (o := ⟨some 22, _, _, _, _, _⟩) rfl (fun K hK => ?_) (AllReadyH.cons (o := ⟨some 5, _, _, _, _, _⟩) rfl (fun K hK => ?_) (AllReadyH.cons (o := ⟨some 6, _, _, _, _, _⟩) rfl (fun K hK => ?_) (AllReadyH.nil)))
      · go_simp
        refine (HGY.out V1).mono ?_
        rintro e V2 ⟨rfl, hb⟩
        go_simp
        have hs := hS.1.below hb
        have hs2 := hS.2.1.below hb
        have hs3 := hS.2.2.trans (hb.mono hS.2.2.size)
        refine hK.out _ _ ⟨hs, hs2, hs3⟩ (fun hS => ?_)
        clear hK K hb hs hs2 hs3
        try simp only [Act.put, List.setIfInBounds_toArray, List.set_cons_zero, List.set_cons_succ]
        refine wpAnyH_ready (rs := [4, 5]) (by kernel_rfl) (by simp) ?_
        refine AllReadyH.cons (o := ⟨some 5, _, _, _, _, _⟩) rfl (fun K hK => ?_) (AllReadyH.cons (o := ⟨some 6, _, _, _, _, _⟩) rfl (fun K hK => ?_) (AllReadyH.nil))
        · go_simp
          have hb : Below V2.heap.size V2 (V2.alloc (.cells #[.int .i64 0, .string ⟨#[]⟩, .string ⟨#[]⟩, .string ⟨#[]⟩] 23)) := (Below.refl _ _).alloc (Nat.le_refl _) _
          have hm : Mine (V2.alloc (.cells #[.int .i64 0, .string ⟨#[]⟩, .string ⟨#[]⟩, .string ⟨#[]⟩] 23)) V2.heap.size ⟨0, ⟨#[]⟩, ⟨#[]⟩, ⟨#[]⟩⟩ := Mine.new V2
          have hle := hS.2.2.size
          have hs := hS.1.below hb
          have hs2 := hS.2.1.below hb
          have hs3 := hS.2.2.trans (hb.mono hS.2.2.size)
          have hltb := hs2.lt
          have hlt2 : w.heap.size + 2 ≤ V2.heap.size := by have := hS.2.1.lt; omega
          generalize V2.alloc _ = V3 at hb hm hs hs2 hs3  hltb ⊢
          generalize V2.heap.size = p at hm hlt2  ⊢
          have HP := Lib.hid (And.intro hm hlt2)
          clear hm hlt2 hle hltb
          refine hK.out _ _ ⟨hs, hs2, hs3⟩ (fun hS => ?_)
          clear hK K hb hs hs2 hs3
          try simp only [Act.put, List.setIfInBounds_toArray, List.set_cons_zero, List.set_cons_succ]
          refine wpAnyH_ready (rs := [5]) (by kernel_rfl) (by simp) ?_
          refine AllReadyH.cons (o := ⟨some 6, _, _, _, _, _⟩) rfl (fun K hK => ?_) (AllReadyH.nil)
          · go_simp
            have hb : Below V3.heap.size V3 (V3.alloc (.cells #[.int .i64 0, .string ⟨#[]⟩, .string ⟨#[]⟩, .string ⟨#[]⟩] 23)) := (Below.refl _ _).alloc (Nat.le_refl _) _
            have hm : Mine (V3.alloc (.cells #[.int .i64 0, .string ⟨#[]⟩, .string ⟨#[]⟩, .string ⟨#[]⟩] 23)) V3.heap.size ⟨0, ⟨#[]⟩, ⟨#[]⟩, ⟨#[]⟩⟩ := Mine.new V3
            have hle := hS.2.2.size
            have hs := hS.1.below hb
            have hs2 := hS.2.1.below hb
            have hs3 := hS.2.2.trans (hb.mono hS.2.2.size)
            have hltb := hs2.lt
            have hlt2 : w.heap.size + 2 ≤ V3.heap.size := by have := hS.2.1.lt; omega
            have HP2 := Lib.hid (And.intro (HP.out.1.below hb) HP.out.2)
            have hne : p < V3.heap.size := HP.out.1.1.lt
            generalize V3.alloc _ = V4 at hb hm hs hs2 hs3 HP2 hltb ⊢
            generalize V3.heap.size = q at hm hlt2 hne ⊢
            have HQ := Lib.hid (And.intro hm hlt2)
            have HPQ : Hid (p ≠ q) := Lib.hid (by omega)
            clear hm hlt2 hle hltb hne
            clear HP
            have HP := HP2
            clear HP2
            refine hK.out _ _ ⟨hs, hs2, hs3⟩ (fun hS => ?_)
            clear hK K hb hs hs2 hs3
            try simp only [Act.put, List.setIfInBounds_toArray, List.set_cons_zero, List.set_cons_succ]
            obtain ⟨⟨p0, p1, p2, p3⟩, f0, f1, f2, f3⟩ := HP.out.1
            refine wpAnyH_ready (rs := [6]) (by kernel_rfl) (by simp) ?_
            refine AllReadyH.cons (o := ⟨none, _, _, _, _, _⟩) rfl (fun K hK => ?_) AllReadyH.nil
            go_simp
            clear p0 p1 p2 p3 f0 f1 f2 f3
            have hm := HP.out.1.set ⟨gk, gs, gl, gt⟩
            have hq := HQ.out.1.other (x := ⟨gk, gs, gl, gt⟩) HPQ.out
            have hb := HP.out.1.belowSet ⟨gk, gs, gl, gt⟩ HP.out.2
            have hs := hS.1.other (x := ⟨gk, gs, gl, gt⟩) (p := p) (by have := HP.out.2; omega)
            have hs2 := hS.2.1.other (x := ⟨gk, gs, gl, gt⟩) (p := p) (by have := HP.out.2; omega)
            have hs3 := hS.2.2.trans hb
            dsimp only at hm hq hb hs hs2 hs3
            generalize World.setCell (World.setCell (World.setCell (World.setCell V4 _ _) _ _) _ _) _ _ = U at hm hq hb hs hs2 hs3 ⊢
            refine hK.out _ _ ⟨hs, hs2, hs3⟩ (fun hS => ?_)
            clear hK K
            try simp only [Act.put, List.setIfInBounds_toArray, List.set_cons_zero, List.set_cons_succ]
            obtain ⟨⟨p0, p1, p2, p3⟩, f0, f1, f2, f3⟩ := hq
            refine wpAnyH_ready (rs := [7]) (by kernel_rfl) (by simp) ?_
            refine AllReadyH.cons (o := ⟨none, _, _, _, _, _⟩) rfl (fun K hK => ?_) AllReadyH.nil
            go_simp
            have hq : Mine U q ⟨0, ⟨#[]⟩, ⟨#[]⟩, ⟨#[]⟩⟩ := ⟨⟨p0, p1, p2, p3⟩, f0, f1, f2, f3⟩
            clear p0 p1 p2 p3 f0 f1 f2 f3
            have hm2 := hm.1.other (x := ⟨hk, hs', hl, ht⟩) HPQ.out.symm
            have hq2 := hq.set ⟨hk, hs', hl, ht⟩
            have hb2 := hq.belowSet ⟨hk, hs', hl, ht⟩ HQ.out.2
            have g1 := hS.1.other (x := ⟨hk, hs', hl, ht⟩) (p := q) (by have := HQ.out.2; omega)
            have g2 := hS.2.1.other (x := ⟨hk, hs', hl, ht⟩) (p := q) (by have := HQ.out.2; omega)
            have g3 := hS.2.2.trans hb2
            dsimp only at hm2 hq2 hb2 g1 g2 g3
            generalize World.setCell (World.setCell (World.setCell (World.setCell U _ _) _ _) _ _) _ _ = U2 at hm2 hq2 hb2 g1 g2 g3 ⊢
            refine hK.out _ _ ⟨g1, g2, g3⟩ (fun hS => ?_)
            clear hK K
            try simp only [Act.put, List.setIfInBounds_toArray, List.set_cons_zero, List.set_cons_succ]
            refine wpAnyH_done (by kernel_rfl) ?_ _
            clear hS
            go_wp2_with fail
            go_meet
            exact ⟨p, q, rfl, rfl, hm2, hq2.1, g3⟩
        · go_simp
          have hb : Below V2.heap.size V2 (V2.alloc (.cells #[.int .i64 0, .string ⟨#[]⟩, .string ⟨#[]⟩, .string ⟨#[]⟩] 23)) := (Below.refl _ _).alloc (Nat.le_refl _) _
          have hm : Mine (V2.alloc (.cells #[.int .i64 0, .string ⟨#[]⟩, .string ⟨#[]⟩, .string ⟨#[]⟩] 23)) V2.heap.size ⟨0, ⟨#[]⟩, ⟨#[]⟩, ⟨#[]⟩⟩ := Mine.new V2
          have hle := hS.2.2.size
          have hs := hS.1.below hb
          have hs2 := hS.2.1.below hb
          have hs3 := hS.2.2.trans (hb.mono hS.2.2.size)
          have hltb := hs2.lt
          have hlt2 : w.heap.size + 2 ≤ V2.heap.size := by have := hS.2.1.lt; omega
          generalize V2.alloc _ = V3 at hb hm hs hs2 hs3  hltb ⊢
          generalize V2.heap.size = q at hm hlt2  ⊢
          have HQ := Lib.hid (And.intro hm hlt2)
          clear hm hlt2 hle hltb
          refine hK.out _ _ ⟨hs, hs2, hs3⟩ (fun hS => ?_)
          clear hK K hb hs hs2 hs3
          try simp only [Act.put, List.setIfInBounds_toArray, List.set_cons_zero, List.set_cons_succ]
          refine wpAnyH_ready (rs := [4]) (by kernel_rfl) (by simp) ?_
          refine AllReadyH.cons (o := ⟨some 5, _, _, _, _, _⟩) rfl (fun K hK => ?_) (AllReadyH.nil)
          · go_simp
            have hb : Below V3.heap.size V3 (V3.alloc (.cells #[.int .i64 0, .string ⟨#[]⟩, .string ⟨#[]⟩, .string ⟨#[]⟩] 23)) := (Below.refl _ _).alloc (Nat.le_refl _) _
            have hm : Mine (V3.alloc (.cells #[.int .i64 0, .string ⟨#[]⟩, .string ⟨#[]⟩, .string ⟨#[]⟩] 23)) V3.heap.size ⟨0, ⟨#[]⟩, ⟨#[]⟩, ⟨#[]⟩⟩ := Mine.new V3
            have hle := hS.2.2.size
            have hs := hS.1.below hb
            have hs2 := hS.2.1.below hb
            have hs3 := hS.2.2.trans (hb.mono hS.2.2.size)
            have hltb := hs2.lt
            have hlt2 : w.heap.size + 2 ≤ V3.heap.size := by have := hS.2.1.lt; omega
            have HQ2 := Lib.hid (And.intro (HQ.out.1.below hb) HQ.out.2)
            have hne : q < V3.heap.size := HQ.out.1.1.lt
            generalize V3.alloc _ = V4 at hb hm hs hs2 hs3 HQ2 hltb ⊢
            generalize V3.heap.size = p at hm hlt2 hne ⊢
            have HP := Lib.hid (And.intro hm hlt2)
            have HPQ : Hid (p ≠ q) := Lib.hid (by omega)
            clear hm hlt2 hle hltb hne
            clear HQ
            have HQ := HQ2
            clear HQ2
            refine hK.out _ _ ⟨hs, hs2, hs3⟩ (fun hS => ?_)
            clear hK K hb hs hs2 hs3
            try simp only [Act.put, List.setIfInBounds_toArray, List.set_cons_zero, List.set_cons_succ]
            obtain ⟨⟨p0, p1, p2, p3⟩, f0, f1, f2, f3⟩ := HP.out.1
            refine wpAnyH_ready (rs := [6]) (by kernel_rfl) (by simp) ?_
            refine AllReadyH.cons (o := ⟨none, _, _, _, _, _⟩) rfl (fun K hK => ?_) AllReadyH.nil
            go_simp
            clear p0 p1 p2 p3 f0 f1 f2 f3
            have hm := HP.out.1.set ⟨gk, gs, gl, gt⟩
            have hq := HQ.out.1.other (x := ⟨gk, gs, gl, gt⟩) HPQ.out
            have hb := HP.out.1.belowSet ⟨gk, gs, gl, gt⟩ HP.out.2
            have hs := hS.1.other (x := ⟨gk, gs, gl, gt⟩) (p := p) (by have := HP.out.2; omega)
            have hs2 := hS.2.1.other (x := ⟨gk, gs, gl, gt⟩) (p := p) (by have := HP.out.2; omega)
            have hs3 := hS.2.2.trans hb
            dsimp only at hm hq hb hs hs2 hs3
            generalize World.setCell (World.setCell (World.setCell (World.setCell V4 _ _) _ _) _ _) _ _ = U at hm hq hb hs hs2 hs3 ⊢
            refine hK.out _ _ ⟨hs, hs2, hs3⟩ (fun hS => ?_)
            clear hK K
            try simp only [Act.put, List.setIfInBounds_toArray, List.set_cons_zero, List.set_cons_succ]
            obtain ⟨⟨p0, p1, p2, p3⟩, f0, f1, f2, f3⟩ := hq
            refine wpAnyH_ready (rs := [7]) (by kernel_rfl) (by simp) ?_
            refine AllReadyH.cons (o := ⟨none, _, _, _, _, _⟩) rfl (fun K hK => ?_) AllReadyH.nil
            go_simp
            have hq : Mine U q ⟨0, ⟨#[]⟩, ⟨#[]⟩, ⟨#[]⟩⟩ := ⟨⟨p0, p1, p2, p3⟩, f0, f1, f2, f3⟩
            clear p0 p1 p2 p3 f0 f1 f2 f3
            have hm2 := hm.1.other (x := ⟨hk, hs', hl, ht⟩) HPQ.out.symm
            have hq2 := hq.set ⟨hk, hs', hl, ht⟩
            have hb2 := hq.belowSet ⟨hk, hs', hl, ht⟩ HQ.out.2
            have g1 := hS.1.other (x := ⟨hk, hs', hl, ht⟩) (p := q) (by have := HQ.out.2; omega)
            have g2 := hS.2.1.other (x := ⟨hk, hs', hl, ht⟩) (p := q) (by have := HQ.out.2; omega)
            have g3 := hS.2.2.trans hb2
            dsimp only at hm2 hq2 hb2 g1 g2 g3
            generalize World.setCell (World.setCell (World.setCell (World.setCell U _ _) _ _) _ _) _ _ = U2 at hm2 hq2 hb2 g1 g2 g3 ⊢
            refine hK.out _ _ ⟨g1, g2, g3⟩ (fun hS => ?_)
            clear hK K
            try simp only [Act.put, List.setIfInBounds_toArray, List.set_cons_zero, List.set_cons_succ]
            refine wpAnyH_done (by kernel_rfl) ?_ _
            clear hS
            go_wp2_with fail
            go_meet
            exact ⟨p, q, rfl, rfl, hm2, hq2.1, g3⟩
      · go_simp
        have hb : Below V1.heap.size V1 (V1.alloc (.cells #[.int .i64 0, .string ⟨#[]⟩, .string ⟨#[]⟩, .string ⟨#[]⟩] 23)) := (Below.refl _ _).alloc (Nat.le_refl _) _
        have hm : Mine (V1.alloc (.cells #[.int .i64 0, .string ⟨#[]⟩, .string ⟨#[]⟩, .string ⟨#[]⟩] 23)) V1.heap.size ⟨0, ⟨#[]⟩, ⟨#[]⟩, ⟨#[]⟩⟩ := Mine.new V1
        have hle := hS.2.2.size
        have hs := hS.1.below hb
        have hs2 := hS.2.1.below hb
        have hs3 := hS.2.2.trans (hb.mono hS.2.2.size)
        have hltb := hs2.lt
        have hlt2 : w.heap.size + 2 ≤ V1.heap.size := by have := hS.2.1.lt; omega
        generalize V1.alloc _ = V2 at hb hm hs hs2 hs3  hltb ⊢
        generalize V1.heap.size = p at hm hlt2  ⊢
        have HP := Lib.hid (And.intro hm hlt2)
        clear hm hlt2 hle hltb
        refine hK.out _ _ ⟨hs, hs2, hs3⟩ (fun hS => ?_)
        clear hK K hb hs hs2 hs3
        try simp only [Act.put, List.setIfInBounds_toArray, List.set_cons_zero, List.set_cons_succ]
        refine wpAnyH_ready (rs := [3, 5]) (by kernel_rfl) (by simp) ?_
        refine AllReadyH.cons (o := ⟨some 22, _, _, _, _, _⟩) rfl (fun K hK => ?_) (AllReadyH.cons (o := ⟨some 6, _, _, _, _, _⟩) rfl (fun K hK => ?_) (AllReadyH.nil))
        · go_simp
          refine (HGY.out V2).mono ?_
          rintro e V3 ⟨rfl, hb⟩
          go_simp
          have hs := hS.1.below hb
          have hs2 := hS.2.1.below hb
          have hs3 := hS.2.2.trans (hb.mono hS.2.2.size)
          have HP2 := Lib.hid (And.intro (HP.out.1.below hb) HP.out.2)
          clear HP
          have HP := HP2
          clear HP2
          refine hK.out _ _ ⟨hs, hs2, hs3⟩ (fun hS => ?_)
          clear hK K hb hs hs2 hs3
          try simp only [Act.put, List.setIfInBounds_toArray, List.set_cons_zero, List.set_cons_succ]
          refine wpAnyH_ready (rs := [5]) (by kernel_rfl) (by simp) ?_
          refine AllReadyH.cons (o := ⟨some 6, _, _, _, _, _⟩) rfl (fun K hK => ?_) (AllReadyH.nil)
          · go_simp
            have hb : Below V3.heap.size V3 (V3.alloc (.cells #[.int .i64 0, .string ⟨#[]⟩, .string ⟨#[]⟩, .string ⟨#[]⟩] 23)) := (Below.refl _ _).alloc (Nat.le_refl _) _
            have hm : Mine (V3.alloc (.cells #[.int .i64 0, .string ⟨#[]⟩, .string ⟨#[]⟩, .string ⟨#[]⟩] 23)) V3.heap.size ⟨0, ⟨#[]⟩, ⟨#[]⟩, ⟨#[]⟩⟩ := Mine.new V3
            have hle := hS.2.2.size
            have hs := hS.1.below hb
            have hs2 := hS.2.1.below hb
            have hs3 := hS.2.2.trans (hb.mono hS.2.2.size)
            have hltb := hs2.lt
            have hlt2 : w.heap.size + 2 ≤ V3.heap.size := by have := hS.2.1.lt; omega
            have HP2 := Lib.hid (And.intro (HP.out.1.below hb) HP.out.2)
            have hne : p < V3.heap.size := HP.out.1.1.lt
            generalize V3.alloc _ = V4 at hb hm hs hs2 hs3 HP2 hltb ⊢
            generalize V3.heap.size = q at hm hlt2 hne ⊢
            have HQ := Lib.hid (And.intro hm hlt2)
            have HPQ : Hid (p ≠ q) := Lib.hid (by omega)
            clear hm hlt2 hle hltb hne
            clear HP
            have HP := HP2
            clear HP2
            refine hK.out _ _ ⟨hs, hs2, hs3⟩ (fun hS => ?_)
            clear hK K hb hs hs2 hs3
            try simp only [Act.put, List.setIfInBounds_toArray, List.set_cons_zero, List.set_cons_succ]
            obtain ⟨⟨p0, p1, p2, p3⟩, f0, f1, f2, f3⟩ := HP.out.1
            refine wpAnyH_ready (rs := [6]) (by kernel_rfl) (by simp) ?_
            refine AllReadyH.cons (o := ⟨none, _, _, _, _, _⟩) rfl (fun K hK => ?_) AllReadyH.nil
            go_simp
            clear p0 p1 p2 p3 f0 f1 f2 f3
            have hm := HP.out.1.set ⟨gk, gs, gl, gt⟩
            have hq := HQ.out.1.other (x := ⟨gk, gs, gl, gt⟩) HPQ.out
            have hb := HP.out.1.belowSet ⟨gk, gs, gl, gt⟩ HP.out.2
            have hs := hS.1.other (x := ⟨gk, gs, gl, gt⟩) (p := p) (by have := HP.out.2; omega)
            have hs2 := hS.2.1.other (x := ⟨gk, gs, gl, gt⟩) (p := p) (by have := HP.out.2; omega)
            have hs3 := hS.2.2.trans hb
            dsimp only at hm hq hb hs hs2 hs3
            generalize World.setCell (World.setCell (World.setCell (World.setCell V4 _ _) _ _) _ _) _ _ = U at hm hq hb hs hs2 hs3 ⊢
            refine hK.out _ _ ⟨hs, hs2, hs3⟩ (fun hS => ?_)
            clear hK K
            try simp only [Act.put, List.setIfInBounds_toArray, List.set_cons_zero, List.set_cons_succ]
            obtain ⟨⟨p0, p1, p2, p3⟩, f0, f1, f2, f3⟩ := hq
            refine wpAnyH_ready (rs := [7]) (by kernel_rfl) (by simp) ?_
            refine AllReadyH.cons (o := ⟨none, _, _, _, _, _⟩) rfl (fun K hK => ?_) AllReadyH.nil
            go_simp
            have hq : Mine U q ⟨0, ⟨#[]⟩, ⟨#[]⟩, ⟨#[]⟩⟩ := ⟨⟨p0, p1, p2, p3⟩, f0, f1, f2, f3⟩
            clear p0 p1 p2 p3 f0 f1 f2 f3
            have hm2 := hm.1.other (x := ⟨hk, hs', hl, ht⟩) HPQ.out.symm
            have hq2 := hq.set ⟨hk, hs', hl, ht⟩
            have hb2 := hq.belowSet ⟨hk, hs', hl, ht⟩ HQ.out.2
            have g1 := hS.1.other (x := ⟨hk, hs', hl, ht⟩) (p := q) (by have := HQ.out.2; omega)
            have g2 := hS.2.1.other (x := ⟨hk, hs', hl, ht⟩) (p := q) (by have := HQ.out.2; omega)
            have g3 := hS.2.2.trans hb2
            dsimp only at hm2 hq2 hb2 g1 g2 g3
            generalize World.setCell (World.setCell (World.setCell (World.setCell U _ _) _ _) _ _) _ _ = U2 at hm2 hq2 hb2 g1 g2 g3 ⊢
            refine hK.out _ _ ⟨g1, g2, g3⟩ (fun hS => ?_)
            clear hK K
            try simp only [Act.put, List.setIfInBounds_toArray, List.set_cons_zero, List.set_cons_succ]
            refine wpAnyH_done (by kernel_rfl) ?_ _
            clear hS
            go_wp2_with fail
            go_meet
            exact ⟨p, q, rfl, rfl, hm2, hq2.1, g3⟩
        · go_simp
          have hb : Below V2.heap.size V2 (V2.alloc (.cells #[.int .i64 0, .string ⟨#[]⟩, .string ⟨#[]⟩, .string ⟨#[]⟩] 23)) := (Below.refl _ _).alloc (Nat.le_refl _) _
          have hm : Mine (V2.alloc (.cells #[.int .i64 0, .string ⟨#[]⟩, .string ⟨#[]⟩, .string ⟨#[]⟩] 23)) V2.heap.size ⟨0, ⟨#[]⟩, ⟨#[]⟩, ⟨#[]⟩⟩ := Mine.new V2
          have hle := hS.2.2.size
          have hs := hS.1.below hb
          have hs2 := hS.2.1.below hb
          have hs3 := hS.2.2.trans (hb.mono hS.2.2.size)
          have hltb := hs2.lt
          have hlt2 : w.heap.size + 2 ≤ V2.heap.size := by have := hS.2.1.lt; omega
          have HP2 := Lib.hid (And.intro (HP.out.1.below hb) HP.out.2)
          have hne : p < V2.heap.size := HP.out.1.1.lt
          generalize V2.alloc _ = V3 at hb hm hs hs2 hs3 HP2 hltb ⊢
          generalize V2.heap.size = q at hm hlt2 hne ⊢
          have HQ := Lib.hid (And.intro hm hlt2)
          have HPQ : Hid (p ≠ q) := Lib.hid (by omega)
          clear hm hlt2 hle hltb hne
          clear HP
          have HP := HP2
          clear HP2
          refine hK.out _ _ ⟨hs, hs2, hs3⟩ (fun hS => ?_)
          clear hK K hb hs hs2 hs3
          try simp only [Act.put, List.setIfInBounds_toArray, List.set_cons_zero, List.set_cons_succ]
          refine wpAnyH_ready (rs := [3]) (by kernel_rfl) (by simp) ?_
          refine AllReadyH.cons (o := ⟨some 22, _, _, _, _, _⟩) rfl (fun K hK => ?_) (AllReadyH.nil)
          · go_simp
            refine (HGY.out V3).mono ?_
            rintro e V4 ⟨rfl, hb⟩
            go_simp
            have hs := hS.1.below hb
            have hs2 := hS.2.1.below hb
            have hs3 := hS.2.2.trans (hb.mono hS.2.2.size)
            have HP2 := Lib.hid (And.intro (HP.out.1.below hb) HP.out.2)
            have HQ2 := Lib.hid (And.intro (HQ.out.1.below hb) HQ.out.2)
            clear HP
            have HP := HP2
            clear HP2
            clear HQ
            have HQ := HQ2
            clear HQ2
            refine hK.out _ _ ⟨hs, hs2, hs3⟩ (fun hS => ?_)
            clear hK K hb hs hs2 hs3
            try simp only [Act.put, List.setIfInBounds_toArray, List.set_cons_zero, List.set_cons_succ]
            obtain ⟨⟨p0, p1, p2, p3⟩, f0, f1, f2, f3⟩ := HP.out.1
            refine wpAnyH_ready (rs := [6]) (by kernel_rfl) (by simp) ?_
            refine AllReadyH.cons (o := ⟨none, _, _, _, _, _⟩) rfl (fun K hK => ?_) AllReadyH.nil
            go_simp
            clear p0 p1 p2 p3 f0 f1 f2 f3
            have hm := HP.out.1.set ⟨gk, gs, gl, gt⟩
            have hq := HQ.out.1.other (x := ⟨gk, gs, gl, gt⟩) HPQ.out
            have hb := HP.out.1.belowSet ⟨gk, gs, gl, gt⟩ HP.out.2
            have hs := hS.1.other (x := ⟨gk, gs, gl, gt⟩) (p := p) (by have := HP.out.2; omega)
            have hs2 := hS.2.1.other (x := ⟨gk, gs, gl, gt⟩) (p := p) (by have := HP.out.2; omega)
            have hs3 := hS.2.2.trans hb
            dsimp only at hm hq hb hs hs2 hs3
            generalize World.setCell (World.setCell (World.setCell (World.setCell V4 _ _) _ _) _ _) _ _ = U at hm hq hb hs hs2 hs3 ⊢
            refine hK.out _ _ ⟨hs, hs2, hs3⟩ (fun hS => ?_)
            clear hK K
            try simp only [Act.put, List.setIfInBounds_toArray, List.set_cons_zero, List.set_cons_succ]
            obtain ⟨⟨p0, p1, p2, p3⟩, f0, f1, f2, f3⟩ := hq
            refine wpAnyH_ready (rs := [7]) (by kernel_rfl) (by simp) ?_
            refine AllReadyH.cons (o := ⟨none, _, _, _, _, _⟩) rfl (fun K hK => ?_) AllReadyH.nil
            go_simp
            have hq : Mine U q ⟨0, ⟨#[]⟩, ⟨#[]⟩, ⟨#[]⟩⟩ := ⟨⟨p0, p1, p2, p3⟩, f0, f1, f2, f3⟩
            clear p0 p1 p2 p3 f0 f1 f2 f3
            have hm2 := hm.1.other (x := ⟨hk, hs', hl, ht⟩) HPQ.out.symm
            have hq2 := hq.set ⟨hk, hs', hl, ht⟩
            have hb2 := hq.belowSet ⟨hk, hs', hl, ht⟩ HQ.out.2
            have g1 := hS.1.other (x := ⟨hk, hs', hl, ht⟩) (p := q) (by have := HQ.out.2; omega)
            have g2 := hS.2.1.other (x := ⟨hk, hs', hl, ht⟩) (p := q) (by have := HQ.out.2; omega)
            have g3 := hS.2.2.trans hb2
            dsimp only at hm2 hq2 hb2 g1 g2 g3
            generalize World.setCell (World.setCell (World.setCell (World.setCell U _ _) _ _) _ _) _ _ = U2 at hm2 hq2 hb2 g1 g2 g3 ⊢
            refine hK.out _ _ ⟨g1, g2, g3⟩ (fun hS => ?_)
            clear hK K
            try simp only [Act.put, List.setIfInBounds_toArray, List.set_cons_zero, List.set_cons_succ]
            refine wpAnyH_done (by kernel_rfl) ?_ _
            clear hS
            go_wp2_with fail
            go_meet
            exact ⟨p, q, rfl, rfl, hm2, hq2.1, g3⟩
      · go_simp
        have hb : Below V1.heap.size V1 (V1.alloc (.cells #[.int .i64 0, .string ⟨#[]⟩, .string ⟨#[]⟩, .string ⟨#[]⟩] 23)) := (Below.refl _ _).alloc (Nat.le_refl _) _
        have hm : Mine (V1.alloc (.cells #[.int .i64 0, .string ⟨#[]⟩, .string ⟨#[]⟩, .string ⟨#[]⟩] 23)) V1.heap.size ⟨0, ⟨#[]⟩, ⟨#[]⟩, ⟨#[]⟩⟩ := Mine.new V1
        have hle := hS.2.2.size
        have hs := hS.1.below hb
        have hs2 := hS.2.1.below hb
        have hs3 := hS.2.2.trans (hb.mono hS.2.2.size)
        have hltb := hs2.lt
        have hlt2 : w.heap.size + 2 ≤ V1.heap.size := by have := hS.2.1.lt; omega
        generalize V1.alloc _ = V2 at hb hm hs hs2 hs3  hltb ⊢
        generalize V1.heap.size = q at hm hlt2  ⊢
        have HQ := Lib.hid (And.intro hm hlt2)
        clear hm hlt2 hle hltb
        refine hK.out _ _ ⟨hs, hs2, hs3⟩ (fun hS => ?_)
        clear hK K hb hs hs2 hs3
        try simp only [Act.put, List.setIfInBounds_toArray, List.set_cons_zero, List.set_cons_succ]
        refine wpAnyH_ready (rs := [3, 4]) (by kernel_rfl) (by simp) ?_
        refine AllReadyH.cons (o := ⟨some 22, _, _, _, _, _⟩) rfl (fun K hK => ?_) (AllReadyH.cons (o := ⟨some 5, _, _, _, _, _⟩) rfl (fun K hK => ?_) (AllReadyH.nil))
        · go_simp
          refine (HGY.out V2).mono ?_
          rintro e V3 ⟨rfl, hb⟩
          go_simp
          have hs := hS.1.below hb
          have hs2 := hS.2.1.below hb
          have hs3 := hS.2.2.trans (hb.mono hS.2.2.size)
          have HQ2 := Lib.hid (And.intro (HQ.out.1.below hb) HQ.out.2)
          clear HQ
          have HQ := HQ2
          clear HQ2
          refine hK.out _ _ ⟨hs, hs2, hs3⟩ (fun hS => ?_)
          clear hK K hb hs hs2 hs3
          try simp only [Act.put, List.setIfInBounds_toArray, List.set_cons_zero, List.set_cons_succ]
          refine wpAnyH_ready (rs := [4]) (by kernel_rfl) (by simp) ?_
          refine AllReadyH.cons (o := ⟨some 5, _, _, _, _, _⟩) rfl (fun K hK => ?_) (AllReadyH.nil)
          · go_simp
            have hb : Below V3.heap.size V3 (V3.alloc (.cells #[.int .i64 0, .string ⟨#[]⟩, .string ⟨#[]⟩, .string ⟨#[]⟩] 23)) := (Below.refl _ _).alloc (Nat.le_refl _) _
            have hm : Mine (V3.alloc (.cells #[.int .i64 0, .string ⟨#[]⟩, .string ⟨#[]⟩, .string ⟨#[]⟩] 23)) V3.heap.size ⟨0, ⟨#[]⟩, ⟨#[]⟩, ⟨#[]⟩⟩ := Mine.new V3
            have hle := hS.2.2.size
            have hs := hS.1.below hb
            have hs2 := hS.2.1.below hb
            have hs3 := hS.2.2.trans (hb.mono hS.2.2.size)
            have hltb := hs2.lt
            have hlt2 : w.heap.size + 2 ≤ V3.heap.size := by have := hS.2.1.lt; omega
            have HQ2 := Lib.hid (And.intro (HQ.out.1.below hb) HQ.out.2)
            have hne : q < V3.heap.size := HQ.out.1.1.lt
            generalize V3.alloc _ = V4 at hb hm hs hs2 hs3 HQ2 hltb ⊢
            generalize V3.heap.size = p at hm hlt2 hne ⊢
            have HP := Lib.hid (And.intro hm hlt2)
            have HPQ : Hid (p ≠ q) := Lib.hid (by omega)
            clear hm hlt2 hle hltb hne
            clear HQ
            have HQ := HQ2
            clear HQ2
            refine hK.out _ _ ⟨hs, hs2, hs3⟩ (fun hS => ?_)
            clear hK K hb hs hs2 hs3
            try simp only [Act.put, List.setIfInBounds_toArray, List.set_cons_zero, List.set_cons_succ]
            obtain ⟨⟨p0, p1, p2, p3⟩, f0, f1, f2, f3⟩ := HP.out.1
            refine wpAnyH_ready (rs := [6]) (by kernel_rfl) (by simp) ?_
            refine AllReadyH.cons (o := ⟨none, _, _, _, _, _⟩) rfl (fun K hK => ?_) AllReadyH.nil
            go_simp
            clear p0 p1 p2 p3 f0 f1 f2 f3
            have hm := HP.out.1.set ⟨gk, gs, gl, gt⟩
            have hq := HQ.out.1.other (x := ⟨gk, gs, gl, gt⟩) HPQ.out
            have hb := HP.out.1.belowSet ⟨gk, gs, gl, gt⟩ HP.out.2
            have hs := hS.1.other (x := ⟨gk, gs, gl, gt⟩) (p := p) (by have := HP.out.2; omega)
            have hs2 := hS.2.1.other (x := ⟨gk, gs, gl, gt⟩) (p := p) (by have := HP.out.2; omega)
            have hs3 := hS.2.2.trans hb
            dsimp only at hm hq hb hs hs2 hs3
            generalize World.setCell (World.setCell (World.setCell (World.setCell V4 _ _) _ _) _ _) _ _ = U at hm hq hb hs hs2 hs3 ⊢
            refine hK.out _ _ ⟨hs, hs2, hs3⟩ (fun hS => ?_)
            clear hK K
            try simp only [Act.put, List.setIfInBounds_toArray, List.set_cons_zero, List.set_cons_succ]
            obtain ⟨⟨p0, p1, p2, p3⟩, f0, f1, f2, f3⟩ := hq
            refine wpAnyH_ready (rs := [7]) (by kernel_rfl) (by simp) ?_
            refine AllReadyH.cons (o := ⟨none, _, _, _, _, _⟩) rfl (fun K hK => ?_) AllReadyH.nil
            go_simp
            have hq : Mine U q ⟨0, ⟨#[]⟩, ⟨#[]⟩, ⟨#[]⟩⟩ := ⟨⟨p0, p1, p2, p3⟩, f0, f1, f2, f3⟩
            clear p0 p1 p2 p3 f0 f1 f2 f3
            have hm2 := hm.1.other (x := ⟨hk, hs', hl, ht⟩) HPQ.out.symm
            have hq2 := hq.set ⟨hk, hs', hl, ht⟩
            have hb2 := hq.belowSet ⟨hk, hs', hl, ht⟩ HQ.out.2
            have g1 := hS.1.other (x := ⟨hk, hs', hl, ht⟩) (p := q) (by have := HQ.out.2; omega)
            have g2 := hS.2.1.other (x := ⟨hk, hs', hl, ht⟩) (p := q) (by have := HQ.out.2; omega)
            have g3 := hS.2.2.trans hb2
            dsimp only at hm2 hq2 hb2 g1 g2 g3
            generalize World.setCell (World.setCell (World.setCell (World.setCell U _ _) _ _) _ _) _ _ = U2 at hm2 hq2 hb2 g1 g2 g3 ⊢
            refine hK.out _ _ ⟨g1, g2, g3⟩ (fun hS => ?_)
            clear hK K
            try simp only [Act.put, List.setIfInBounds_toArray, List.set_cons_zero, List.set_cons_succ]
            refine wpAnyH_done (by kernel_rfl) ?_ _
            clear hS
            go_wp2_with fail
            go_meet
            exact ⟨p, q, rfl, rfl, hm2, hq2.1, g3⟩
        · go_simp
          have hb : Below V2.heap.size V2 (V2.alloc (.cells #[.int .i64 0, .string ⟨#[]⟩, .string ⟨#[]⟩, .string ⟨#[]⟩] 23)) := (Below.refl _ _).alloc (Nat.le_refl _) _
          have hm : Mine (V2.alloc (.cells #[.int .i64 0, .string ⟨#[]⟩, .string ⟨#[]⟩, .string ⟨#[]⟩] 23)) V2.heap.size ⟨0, ⟨#[]⟩, ⟨#[]⟩, ⟨#[]⟩⟩ := Mine.new V2
          have hle := hS.2.2.size
          have hs := hS.1.below hb
          have hs2 := hS.2.1.below hb
          have hs3 := hS.2.2.trans (hb.mono hS.2.2.size)
          have hltb := hs2.lt
          have hlt2 : w.heap.size + 2 ≤ V2.heap.size := by have := hS.2.1.lt; omega
          have HQ2 := Lib.hid (And.intro (HQ.out.1.below hb) HQ.out.2)
          have hne : q < V2.heap.size := HQ.out.1.1.lt
          generalize V2.alloc _ = V3 at hb hm hs hs2 hs3 HQ2 hltb ⊢
          generalize V2.heap.size = p at hm hlt2 hne ⊢
          have HP := Lib.hid (And.intro hm hlt2)
          have HPQ : Hid (p ≠ q) := Lib.hid (by omega)
          clear hm hlt2 hle hltb hne
          clear HQ
          have HQ := HQ2
          clear HQ2
          refine hK.out _ _ ⟨hs, hs2, hs3⟩ (fun hS => ?_)
          clear hK K hb hs hs2 hs3
          try simp only [Act.put, List.setIfInBounds_toArray, List.set_cons_zero, List.set_cons_succ]
          refine wpAnyH_ready (rs := [3]) (by kernel_rfl) (by simp) ?_
          refine AllReadyH.cons (o := ⟨some 22, _, _, _, _, _⟩) rfl (fun K hK => ?_) (AllReadyH.nil)
          · go_simp
            refine (HGY.out V3).mono ?_
            rintro e V4 ⟨rfl, hb⟩
            go_simp
            have hs := hS.1.below hb
            have hs2 := hS.2.1.below hb
            have hs3 := hS.2.2.trans (hb.mono hS.2.2.size)
            have HP2 := Lib.hid (And.intro (HP.out.1.below hb) HP.out.2)
            have HQ2 := Lib.hid (And.intro (HQ.out.1.below hb) HQ.out.2)
            clear HP
            have HP := HP2
            clear HP2
            clear HQ
            have HQ := HQ2
            clear HQ2
            refine hK.out _ _ ⟨hs, hs2, hs3⟩ (fun hS => ?_)
            clear hK K hb hs hs2 hs3
            try simp only [Act.put, List.setIfInBounds_toArray, List.set_cons_zero, List.set_cons_succ]
            obtain ⟨⟨p0, p1, p2, p3⟩, f0, f1, f2, f3⟩ := HP.out.1
            refine wpAnyH_ready (rs := [6]) (by kernel_rfl) (by simp) ?_
            refine AllReadyH.cons (o := ⟨none, _, _, _, _, _⟩) rfl (fun K hK => ?_) AllReadyH.nil
            go_simp
            clear p0 p1 p2 p3 f0 f1 f2 f3
            have hm := HP.out.1.set ⟨gk, gs, gl, gt⟩
            have hq := HQ.out.1.other (x := ⟨gk, gs, gl, gt⟩) HPQ.out
            have hb := HP.out.1.belowSet ⟨gk, gs, gl, gt⟩ HP.out.2
            have hs := hS.1.other (x := ⟨gk, gs, gl, gt⟩) (p := p) (by have := HP.out.2; omega)
            have hs2 := hS.2.1.other (x := ⟨gk, gs, gl, gt⟩) (p := p) (by have := HP.out.2; omega)
            have hs3 := hS.2.2.trans hb
            dsimp only at hm hq hb hs hs2 hs3
            generalize World.setCell (World.setCell (World.setCell (World.setCell V4 _ _) _ _) _ _) _ _ = U at hm hq hb hs hs2 hs3 ⊢
            refine hK.out _ _ ⟨hs, hs2, hs3⟩ (fun hS => ?_)
            clear hK K
            try simp only [Act.put, List.setIfInBounds_toArray, List.set_cons_zero, List.set_cons_succ]
            obtain ⟨⟨p0, p1, p2, p3⟩, f0, f1, f2, f3⟩ := hq
            refine wpAnyH_ready (rs := [7]) (by kernel_rfl) (by simp) ?_
            refine AllReadyH.cons (o := ⟨none, _, _, _, _, _⟩) rfl (fun K hK => ?_) AllReadyH.nil
            go_simp
            have hq : Mine U q ⟨0, ⟨#[]⟩, ⟨#[]⟩, ⟨#[]⟩⟩ := ⟨⟨p0, p1, p2, p3⟩, f0, f1, f2, f3⟩
            clear p0 p1 p2 p3 f0 f1 f2 f3
            have hm2 := hm.1.other (x := ⟨hk, hs', hl, ht⟩) HPQ.out.symm
            have hq2 := hq.set ⟨hk, hs', hl, ht⟩
            have hb2 := hq.belowSet ⟨hk, hs', hl, ht⟩ HQ.out.2
            have g1 := hS.1.other (x := ⟨hk, hs', hl, ht⟩) (p := q) (by have := HQ.out.2; omega)
            have g2 := hS.2.1.other (x := ⟨hk, hs', hl, ht⟩) (p := q) (by have := HQ.out.2; omega)
            have g3 := hS.2.2.trans hb2
            dsimp only at hm2 hq2 hb2 g1 g2 g3
            generalize World.setCell (World.setCell (World.setCell (World.setCell U _ _) _ _) _ _) _ _ = U2 at hm2 hq2 hb2 g1 g2 g3 ⊢
            refine hK.out _ _ ⟨g1, g2, g3⟩ (fun hS => ?_)
            clear hK K
            try simp only [Act.put, List.setIfInBounds_toArray, List.set_cons_zero, List.set_cons_succ]
            refine wpAnyH_done (by kernel_rfl) ?_ _
            clear hS
            go_wp2_with fail
            go_meet
            exact ⟨p, q, rfl, rfl, hm2, hq2.1, g3⟩
    · go_simp
      have hb : Below V0.heap.size V0 (V0.alloc (.cells #[.int .i64 0, .string ⟨#[]⟩, .string ⟨#[]⟩, .string ⟨#[]⟩] 23)) := (Below.refl _ _).alloc (Nat.le_refl _) _
      have hm : Mine (V0.alloc (.cells #[.int .i64 0, .string ⟨#[]⟩, .string ⟨#[]⟩, .string ⟨#[]⟩] 23)) V0.heap.size ⟨0, ⟨#[]⟩, ⟨#[]⟩, ⟨#[]⟩⟩ := Mine.new V0
      have hle := hS.2.2.size
      have hs := hS.1.below hb
      have hs2 := hS.2.1.below hb
      have hs3 := hS.2.2.trans (hb.mono hS.2.2.size)
      have hltb := hs2.lt
      have hlt2 : w.heap.size + 2 ≤ V0.heap.size := by have := hS.2.1.lt; omega
      generalize V0.alloc _ = V1 at hb hm hs hs2 hs3  hltb ⊢
      generalize V0.heap.size = p at hm hlt2  ⊢
      have HP := Lib.hid (And.intro hm hlt2)
      clear hm hlt2 hle hltb
      refine hK.out _ _ ⟨hs, hs2, hs3⟩ (fun hS => ?_)
      clear hK K hb hs hs2 hs3
      try simp only [Act.put, List.setIfInBounds_toArray, List.set_cons_zero, List.set_cons_succ]
      refine wpAnyH_ready (rs := [1, 5]) (by kernel_rfl) (by simp) ?_
      refine AllReadyH.cons (o := ⟨some 20, _, _, _, _, _⟩) rfl (fun K hK => ?_) (AllReadyH.cons (o := ⟨some 6, _, _, _, _, _⟩) rfl (fun K hK => ?_) (AllReadyH.nil))
      · go_simp
        refine (HGX.out V1).mono ?_
        rintro e V2 ⟨rfl, hb⟩
        go_simp
        have hs := hS.1.below hb
        have hs2 := hS.2.1.below hb
        have hs3 := hS.2.2.trans (hb.mono hS.2.2.size)
        have HP2 := Lib.hid (And.intro (HP.out.1.below hb) HP.out.2)
        clear HP
        have HP := HP2
        clear HP2
        refine hK.out _ _ ⟨hs, hs2, hs3⟩ (fun hS => ?_)
        clear hK K hb hs hs2 hs3
        try simp only [Act.put, List.setIfInBounds_toArray, List.set_cons_zero, List.set_cons_succ]
        refine wpAnyH_ready (rs := [3, 5]) (by kernel_rfl) (by simp) ?_
        refine AllReadyH.cons (o := ⟨some 22, _, _, _, _, _⟩) rfl (fun K hK => ?_) (AllReadyH.cons (o := ⟨some 6, _, _, _, _, _⟩) rfl (fun K hK => ?_) (AllReadyH.nil))
        · go_simp
          refine (HGY.out V2).mono ?_
          rintro e V3 ⟨rfl, hb⟩
          go_simp
          have hs := hS.1.below hb
          have hs2 := hS.2.1.below hb
          have hs3 := hS.2.2.trans (hb.mono hS.2.2.size)
          have HP2 := Lib.hid (And.intro (HP.out.1.below hb) HP.out.2)
          clear HP
          have HP := HP2
          clear HP2
          refine hK.out _ _ ⟨hs, hs2, hs3⟩ (fun hS => ?_)
          clear hK K hb hs hs2 hs3
          try simp only [Act.put, List.setIfInBounds_toArray, List.set_cons_zero, List.set_cons_succ]
          refine wpAnyH_ready (rs := [5]) (by kernel_rfl) (by simp) ?_
          refine AllReadyH.cons (o := ⟨some 6, _, _, _, _, _⟩) rfl (fun K hK => ?_) (AllReadyH.nil)
          · go_simp
            have hb : Below V3.heap.size V3 (V3.alloc (.cells #[.int .i64 0, .string ⟨#[]⟩, .string ⟨#[]⟩, .string ⟨#[]⟩] 23)) := (Below.refl _ _).alloc (Nat.le_refl _) _
            have hm : Mine (V3.alloc (.cells #[.int .i64 0, .string ⟨#[]⟩, .string ⟨#[]⟩, .string ⟨#[]⟩] 23)) V3.heap.size ⟨0, ⟨#[]⟩, ⟨#[]⟩, ⟨#[]⟩⟩ := Mine.new V3
            have hle := hS.2.2.size
            have hs := hS.1.below hb
            have hs2 := hS.2.1.below hb
            have hs3 := hS.2.2.trans (hb.mono hS.2.2.size)
            have hltb := hs2.lt
            have hlt2 : w.heap.size + 2 ≤ V3.heap.size := by have := hS.2.1.lt; omega
            have HP2 := Lib.hid (And.intro (HP.out.1.below hb) HP.out.2)
            have hne : p < V3.heap.size := HP.out.1.1.lt
            generalize V3.alloc _ = V4 at hb hm hs hs2 hs3 HP2 hltb ⊢
            generalize V3.heap.size = q at hm hlt2 hne ⊢
            have HQ := Lib.hid (And.intro hm hlt2)
            have HPQ : Hid (p ≠ q) := Lib.hid (by omega)
            clear hm hlt2 hle hltb hne
            clear HP
            have HP := HP2
            clear HP2
            refine hK.out _ _ ⟨hs, hs2, hs3⟩ (fun hS => ?_)
            clear hK K hb hs hs2 hs3
            try simp only [Act.put, List.setIfInBounds_toArray, List.set_cons_zero, List.set_cons_succ]
            obtain ⟨⟨p0, p1, p2, p3⟩, f0, f1, f2, f3⟩ := HP.out.1
            refine wpAnyH_ready (rs := [6]) (by kernel_rfl) (by simp) ?_
            refine AllReadyH.cons (o := ⟨none, _, _, _, _, _⟩) rfl (fun K hK => ?_) AllReadyH.nil
            go_simp
            clear p0 p1 p2 p3 f0 f1 f2 f3
            have hm := HP.out.1.set ⟨gk, gs, gl, gt⟩
            have hq := HQ.out.1.other (x := ⟨gk, gs, gl, gt⟩) HPQ.out
            have hb := HP.out.1.belowSet ⟨gk, gs, gl, gt⟩ HP.out.2
            have hs := hS.1.other (x := ⟨gk, gs, gl, gt⟩) (p := p) (by have := HP.out.2; omega)
            have hs2 := hS.2.1.other (x := ⟨gk, gs, gl, gt⟩) (p := p) (by have := HP.out.2; omega)
            have hs3 := hS.2.2.trans hb
            dsimp only at hm hq hb hs hs2 hs3
            generalize World.setCell (World.setCell (World.setCell (World.setCell V4 _ _) _ _) _ _) _ _ = U at hm hq hb hs hs2 hs3 ⊢
            refine hK.out _ _ ⟨hs, hs2, hs3⟩ (fun hS => ?_)
            clear hK K
            try simp only [Act.put, List.setIfInBounds_toArray, List.set_cons_zero, List.set_cons_succ]
            obtain ⟨⟨p0, p1, p2, p3⟩, f0, f1, f2, f3⟩ := hq
            refine wpAnyH_ready (rs := [7]) (by kernel_rfl) (by simp) ?_
            refine AllReadyH.cons (o := ⟨none, _, _, _, _, _⟩) rfl (fun K hK => ?_) AllReadyH.nil
            go_simp
            have hq : Mine U q ⟨0, ⟨#[]⟩, ⟨#[]⟩, ⟨#[]⟩⟩ := ⟨⟨p0, p1, p2, p3⟩, f0, f1, f2, f3⟩
            clear p0 p1 p2 p3 f0 f1 f2 f3
            have hm2 := hm.1.other (x := ⟨hk, hs', hl, ht⟩) HPQ.out.symm
            have hq2 := hq.set ⟨hk, hs', hl, ht⟩
            have hb2 := hq.belowSet ⟨hk, hs', hl, ht⟩ HQ.out.2
            have g1 := hS.1.other (x := ⟨hk, hs', hl, ht⟩) (p := q) (by have := HQ.out.2; omega)
            have g2 := hS.2.1.other (x := ⟨hk, hs', hl, ht⟩) (p := q) (by have := HQ.out.2; omega)
            have g3 := hS.2.2.trans hb2
            dsimp only at hm2 hq2 hb2 g1 g2 g3
            generalize World.setCell (World.setCell (World.setCell (World.setCell U _ _) _ _) _ _) _ _ = U2 at hm2 hq2 hb2 g1 g2 g3 ⊢
            refine hK.out _ _ ⟨g1, g2, g3⟩ (fun hS => ?_)
            clear hK K
            try simp only [Act.put, List.setIfInBounds_toArray, List.set_cons_zero, List.set_cons_succ]
            refine wpAnyH_done (by kernel_rfl) ?_ _
            clear hS
            go_wp2_with fail
            go_meet
            exact ⟨p, q, rfl, rfl, hm2, hq2.1, g3⟩
        · go_simp
          have hb : Below V2.heap.size V2 (V2.alloc (.cells #[.int .i64 0, .string ⟨#[]⟩, .string ⟨#[]⟩, .string ⟨#[]⟩] 23)) := (Below.refl _ _).alloc (Nat.le_refl _) _
          have hm : Mine (V2.alloc (.cells #[.int .i64 0, .string ⟨#[]⟩, .string ⟨#[]⟩, .string ⟨#[]⟩] 23)) V2.heap.size ⟨0, ⟨#[]⟩, ⟨#[]⟩, ⟨#[]⟩⟩ := Mine.new V2
          have hle := hS.2.2.size
          have hs := hS.1.below hb
          have hs2 := hS.2.1.below hb
          have hs3 := hS.2.2.trans (hb.mono hS.2.2.size)
          have hltb := hs2.lt
          have hlt2 : w.heap.size + 2 ≤ V2.heap.size := by have := hS.2.1.lt; omega
          have HP2 := Lib.hid (And.intro (HP.out.1.below hb) HP.out.2)
          have hne : p < V2.heap.size := HP.out.1.1.lt
          generalize V2.alloc _ = V3 at hb hm hs hs2 hs3 HP2 hltb ⊢
          generalize V2.heap.size = q at hm hlt2 hne ⊢
          have HQ := Lib.hid (And.intro hm hlt2)
          have HPQ : Hid (p ≠ q) := Lib.hid (by omega)
          clear hm hlt2 hle hltb hne
          clear HP
          have HP := HP2
          clear HP2
          refine hK.out _ _ ⟨hs, hs2, hs3⟩ (fun hS => ?_)
          clear hK K hb hs hs2 hs3
          try simp only [Act.put, List.setIfInBounds_toArray, List.set_cons_zero, List.set_cons_succ]
          refine wpAnyH_ready (rs := [3]) (by kernel_rfl) (by simp) ?_
          refine AllReadyH.cons (o := ⟨some 22, _, _, _, _, _⟩) rfl (fun K hK => ?_) (AllReadyH.nil)
          · go_simp
            refine (HGY.out V3).mono ?_
            rintro e V4 ⟨rfl, hb⟩
            go_simp
            have hs := hS.1.below hb
            have hs2 := hS.2.1.below hb
            have hs3 := hS.2.2.trans (hb.mono hS.2.2.size)
            have HP2 := Lib.hid (And.intro (HP.out.1.below hb) HP.out.2)
            have HQ2 := Lib.hid (And.intro (HQ.out.1.below hb) HQ.out.2)
            clear HP
            have HP := HP2
            clear HP2
            clear HQ
            have HQ := HQ2
            clear HQ2
            refine hK.out _ _ ⟨hs, hs2, hs3⟩ (fun hS => ?_)
            clear hK K hb hs hs2 hs3
            try simp only [Act.put, List.setIfInBounds_toArray, List.set_cons_zero, List.set_cons_succ]
            obtain ⟨⟨p0, p1, p2, p3⟩, f0, f1, f2, f3⟩ := HP.out.1
            refine wpAnyH_ready (rs := [6]) (by kernel_rfl) (by simp) ?_
            refine AllReadyH.cons (o := ⟨none, _, _, _, _, _⟩) rfl (fun K hK => ?_) AllReadyH.nil
            go_simp
            clear p0 p1 p2 p3 f0 f1 f2 f3
            have hm := HP.out.1.set ⟨gk, gs, gl, gt⟩
            have hq := HQ.out.1.other (x := ⟨gk, gs, gl, gt⟩) HPQ.out
            have hb := HP.out.1.belowSet ⟨gk, gs, gl, gt⟩ HP.out.2
            have hs := hS.1.other (x := ⟨gk, gs, gl, gt⟩) (p := p) (by have := HP.out.2; omega)
            have hs2 := hS.2.1.other (x := ⟨gk, gs, gl, gt⟩) (p := p) (by have := HP.out.2; omega)
            have hs3 := hS.2.2.trans hb
            dsimp only at hm hq hb hs hs2 hs3
            generalize World.setCell (World.setCell (World.setCell (World.setCell V4 _ _) _ _) _ _) _ _ = U at hm hq hb hs hs2 hs3 ⊢
            refine hK.out _ _ ⟨hs, hs2, hs3⟩ (fun hS => ?_)
            clear hK K
            try simp only [Act.put, List.setIfInBounds_toArray, List.set_cons_zero, List.set_cons_succ]
            obtain ⟨⟨p0, p1, p2, p3⟩, f0, f1, f2, f3⟩ := hq
            refine wpAnyH_ready (rs := [7]) (by kernel_rfl) (by simp) ?_
            refine AllReadyH.cons (o := ⟨none, _, _, _, _, _⟩) rfl (fun K hK => ?_) AllReadyH.nil
            go_simp
            have hq : Mine U q ⟨0, ⟨#[]⟩, ⟨#[]⟩, ⟨#[]⟩⟩ := ⟨⟨p0, p1, p2, p3⟩, f0, f1, f2, f3⟩
            clear p0 p1 p2 p3 f0 f1 f2 f3
            have hm2 := hm.1.other (x := ⟨hk, hs', hl, ht⟩) HPQ.out.symm
            have hq2 := hq.set ⟨hk, hs', hl, ht⟩
            have hb2 := hq.belowSet ⟨hk, hs', hl, ht⟩ HQ.out.2
            have g1 := hS.1.other (x := ⟨hk, hs', hl, ht⟩) (p := q) (by have := HQ.out.2; omega)
            have g2 := hS.2.1.other (x := ⟨hk, hs', hl, ht⟩) (p := q) (by have := HQ.out.2; omega)
            have g3 := hS.2.2.trans hb2
            dsimp only at hm2 hq2 hb2 g1 g2 g3
            generalize World.setCell (World.setCell (World.setCell (World.setCell U _ _) _ _) _ _) _ _ = U2 at hm2 hq2 hb2 g1 g2 g3 ⊢
            refine hK.out _ _ ⟨g1, g2, g3⟩ (fun hS => ?_)
            clear hK K
            try simp only [Act.put, List.setIfInBounds_toArray, List.set_cons_zero, List.set_cons_succ]
            refine wpAnyH_done (by kernel_rfl) ?_ _
            clear hS
            go_wp2_with fail
            go_meet
            exact ⟨p, q, rfl, rfl, hm2, hq2.1, g3⟩
      · go_simp
        have hb : Below V1.heap.size V1 (V1.alloc (.cells #[.int .i64 0, .string ⟨#[]⟩, .string ⟨#[]⟩, .string ⟨#[]⟩] 23)) := (Below.refl _ _).alloc (Nat.le_refl _) _
        have hm : Mine (V1.alloc (.cells #[.int .i64 0, .string ⟨#[]⟩, .string ⟨#[]⟩, .string ⟨#[]⟩] 23)) V1.heap.size ⟨0, ⟨#[]⟩, ⟨#[]⟩, ⟨#[]⟩⟩ := Mine.new V1
        have hle := hS.2.2.size
        have hs := hS.1.below hb
        have hs2 := hS.2.1.below hb
        have hs3 := hS.2.2.trans (hb.mono hS.2.2.size)
        have hltb := hs2.lt
        have hlt2 : w.heap.size + 2 ≤ V1.heap.size := by have := hS.2.1.lt; omega
        have HP2 := Lib.hid (And.intro (HP.out.1.below hb) HP.out.2)
        have hne : p < V1.heap.size := HP.out.1.1.lt
        generalize V1.alloc _ = V2 at hb hm hs hs2 hs3 HP2 hltb ⊢
        generalize V1.heap.size = q at hm hlt2 hne ⊢
        have HQ := Lib.hid (And.intro hm hlt2)
        have HPQ : Hid (p ≠ q) := Lib.hid (by omega)
        clear hm hlt2 hle hltb hne
        clear HP
        have HP := HP2
        clear HP2
        refine hK.out _ _ ⟨hs, hs2, hs3⟩ (fun hS => ?_)
        clear hK K hb hs hs2 hs3
        try simp only [Act.put, List.setIfInBounds_toArray, List.set_cons_zero, List.set_cons_succ]
        refine wpAnyH_ready (rs := [1]) (by kernel_rfl) (by simp) ?_
        refine AllReadyH.cons (o := ⟨some 20, _, _, _, _, _⟩) rfl (fun K hK => ?_) (AllReadyH.nil)
        · go_simp
          refine (HGX.out V2).mono ?_
          rintro e V3 ⟨rfl, hb⟩
          go_simp
          have hs := hS.1.below hb
          have hs2 := hS.2.1.below hb
          have hs3 := hS.2.2.trans (hb.mono hS.2.2.size)
          have HP2 := Lib.hid (And.intro (HP.out.1.below hb) HP.out.2)
          have HQ2 := Lib.hid (And.intro (HQ.out.1.below hb) HQ.out.2)
          clear HP
          have HP := HP2
          clear HP2
          clear HQ
          have HQ := HQ2
          clear HQ2
          refine hK.out _ _ ⟨hs, hs2, hs3⟩ (fun hS => ?_)
          clear hK K hb hs hs2 hs3
          try simp only [Act.put, List.setIfInBounds_toArray, List.set_cons_zero, List.set_cons_succ]
          refine wpAnyH_ready (rs := [3]) (by kernel_rfl) (by simp) ?_
          refine AllReadyH.cons (o := ⟨some 22, _, _, _, _, _⟩) rfl (fun K hK => ?_) (AllReadyH.nil)
          · go_simp
            refine (HGY.out V3).mono ?_
            rintro e V4 ⟨rfl, hb⟩
            go_simp
            have hs := hS.1.below hb
            have hs2 := hS.2.1.below hb
            have hs3 := hS.2.2.trans (hb.mono hS.2.2.size)
            have HP2 := Lib.hid (And.intro (HP.out.1.below hb) HP.out.2)
            have HQ2 := Lib.hid (And.intro (HQ.out.1.below hb) HQ.out.2)
            clear HP
            have HP := HP2
            clear HP2
            clear HQ
            have HQ := HQ2
            clear HQ2
            refine hK.out _ _ ⟨hs, hs2, hs3⟩ (fun hS => ?_)
            clear hK K hb hs hs2 hs3
            try simp only [Act.put, List.setIfInBounds_toArray, List.set_cons_zero, List.set_cons_succ]
            obtain ⟨⟨p0, p1, p2, p3⟩, f0, f1, f2, f3⟩ := HP.out.1
            refine wpAnyH_ready (rs := [6]) (by kernel_rfl) (by simp) ?_
            refine AllReadyH.cons (o := ⟨none, _, _, _, _, _⟩) rfl (fun K hK => ?_) AllReadyH.nil
            go_simp
            clear p0 p1 p2 p3 f0 f1 f2 f3
            have hm := HP.out.1.set ⟨gk, gs, gl, gt⟩
            have hq := HQ.out.1.other (x := ⟨gk, gs, gl, gt⟩) HPQ.out
            have hb := HP.out.1.belowSet ⟨gk, gs, gl, gt⟩ HP.out.2
            have hs := hS.1.other (x := ⟨gk, gs, gl, gt⟩) (p := p) (by have := HP.out.2; omega)
            have hs2 := hS.2.1.other (x := ⟨gk, gs, gl, gt⟩) (p := p) (by have := HP.out.2; omega)
            have hs3 := hS.2.2.trans hb
            dsimp only at hm hq hb hs hs2 hs3
            generalize World.setCell (World.setCell (World.setCell (World.setCell V4 _ _) _ _) _ _) _ _ = U at hm hq hb hs hs2 hs3 ⊢
            refine hK.out _ _ ⟨hs, hs2, hs3⟩ (fun hS => ?_)
            clear hK K
            try simp only [Act.put, List.setIfInBounds_toArray, List.set_cons_zero, List.set_cons_succ]
            obtain ⟨⟨p0, p1, p2, p3⟩, f0, f1, f2, f3⟩ := hq
            refine wpAnyH_ready (rs := [7]) (by kernel_rfl) (by simp) ?_
            refine AllReadyH.cons (o := ⟨none, _, _, _, _, _⟩) rfl (fun K hK => ?_) AllReadyH.nil
            go_simp
            have hq : Mine U q ⟨0, ⟨#[]⟩, ⟨#[]⟩, ⟨#[]⟩⟩ := ⟨⟨p0, p1, p2, p3⟩, f0, f1, f2, f3⟩
            clear p0 p1 p2 p3 f0 f1 f2 f3
            have hm2 := hm.1.other (x := ⟨hk, hs', hl, ht⟩) HPQ.out.symm
            have hq2 := hq.set ⟨hk, hs', hl, ht⟩
            have hb2 := hq.belowSet ⟨hk, hs', hl, ht⟩ HQ.out.2
            have g1 := hS.1.other (x := ⟨hk, hs', hl, ht⟩) (p := q) (by have := HQ.out.2; omega)
            have g2 := hS.2.1.other (x := ⟨hk, hs', hl, ht⟩) (p := q) (by have := HQ.out.2; omega)
            have g3 := hS.2.2.trans hb2
            dsimp only at hm2 hq2 hb2 g1 g2 g3
            generalize World.setCell (World.setCell (World.setCell (World.setCell U _ _) _ _) _ _) _ _ = U2 at hm2 hq2 hb2 g1 g2 g3 ⊢
            refine hK.out _ _ ⟨g1, g2, g3⟩ (fun hS => ?_)
            clear hK K
            try simp only [Act.put, List.setIfInBounds_toArray, List.set_cons_zero, List.set_cons_succ]
            refine wpAnyH_done (by kernel_rfl) ?_ _
            clear hS
            go_wp2_with fail
            go_meet
            exact ⟨p, q, rfl, rfl, hm2, hq2.1, g3⟩
    · go_simp
      have hb : Below V0.heap.size V0 (V0.alloc (.cells #[.int .i64 0, .string ⟨#[]⟩, .string ⟨#[]⟩, .string ⟨#[]⟩] 23)) := (Below.refl _ _).alloc (Nat.le_refl _) _
      have hm : Mine (V0.alloc (.cells #[.int .i64 0, .string ⟨#[]⟩, .string ⟨#[]⟩, .string ⟨#[]⟩] 23)) V0.heap.size ⟨0, ⟨#[]⟩, ⟨#[]⟩, ⟨#[]⟩⟩ := Mine.new V0
      have hle := hS.2.2.size
      have hs := hS.1.below hb
      have hs2 := hS.2.1.below hb
      have hs3 := hS.2.2.trans (hb.mono hS.2.2.size)
      have hltb := hs2.lt
      have hlt2 : w.heap.size + 2 ≤ V0.heap.size := by have := hS.2.1.lt; omega
      generalize V0.alloc _ = V1 at hb hm hs hs2 hs3  hltb ⊢
      generalize V0.heap.size = q at hm hlt2  ⊢
      have HQ := Lib.hid (And.intro hm hlt2)
      clear hm hlt2 hle hltb
      refine hK.out _ _ ⟨hs, hs2, hs3⟩ (fun hS => ?_)
      clear hK K hb hs hs2 hs3
      try simp only [Act.put, List.setIfInBounds_toArray, List.set_cons_zero, List.set_cons_succ]
      refine wpAnyH_ready (rs := [1, 4]) (by kernel_rfl) (by simp) ?_
      refine AllReadyH.cons (o := ⟨some 20, _, _, _, _, _⟩) rfl (fun K hK => ?_) (AllReadyH.cons (o := ⟨some 5, _, _, _, _, _⟩) rfl (fun K hK => ?_) (AllReadyH.nil))
      · go_simp
        refine (HGX.out V1).mono ?_
        rintro e V2 ⟨rfl, hb⟩
        go_simp
        have hs := hS.1.below hb
        have hs2 := hS.2.1.below hb
        have hs3 := hS.2.2.trans (hb.mono hS.2.2.size)
        have HQ2 := Lib.hid (And.intro (HQ.out.1.below hb) HQ.out.2)
        clear HQ
        have HQ := HQ2
        clear HQ2
        refine hK.out _ _ ⟨hs, hs2, hs3⟩ (fun hS => ?_)
        clear hK K hb hs hs2 hs3
        try simp only [Act.put, List.setIfInBounds_toArray, List.set_cons_zero, List.set_cons_succ]
        refine wpAnyH_ready (rs := [3, 4]) (by kernel_rfl) (by simp) ?_
        refine AllReadyH.cons (o := ⟨some 22, _, _, _, _, _⟩) rfl (fun K hK => ?_) (AllReadyH.cons (o := ⟨some 5, _, _, _, _, _⟩) rfl (fun K hK => ?_) (AllReadyH.nil))
        · go_simp
          refine (HGY.out V2).mono ?_
          rintro e V3 ⟨rfl, hb⟩
          go_simp
          have hs := hS.1.below hb
          have hs2 := hS.2.1.below hb
          have hs3 := hS.2.2.trans (hb.mono hS.2.2.size)
          have HQ2 := Lib.hid (And.intro (HQ.out.1.below hb) HQ.out.2)
          clear HQ
          have HQ := HQ2
          clear HQ2
          refine hK.out _ _ ⟨hs, hs2, hs3⟩ (fun hS => ?_)
          clear hK K hb hs hs2 hs3
          try simp only [Act.put, List.setIfInBounds_toArray, List.set_cons_zero, List.set_cons_succ]
          refine wpAnyH_ready (rs := [4]) (by kernel_rfl) (by simp) ?_
          refine AllReadyH.cons (o := ⟨some 5, _, _, _, _, _⟩) rfl (fun K hK => ?_) (AllReadyH.nil)
          · go_simp
            have hb : Below V3.heap.size V3 (V3.alloc (.cells #[.int .i64 0, .string ⟨#[]⟩, .string ⟨#[]⟩, .string ⟨#[]⟩] 23)) := (Below.refl _ _).alloc (Nat.le_refl _) _
            have hm : Mine (V3.alloc (.cells #[.int .i64 0, .string ⟨#[]⟩, .string ⟨#[]⟩, .string ⟨#[]⟩] 23)) V3.heap.size ⟨0, ⟨#[]⟩, ⟨#[]⟩, ⟨#[]⟩⟩ := Mine.new V3
            have hle := hS.2.2.size
            have hs := hS.1.below hb
            have hs2 := hS.2.1.below hb
            have hs3 := hS.2.2.trans (hb.mono hS.2.2.size)
            have hltb := hs2.lt
            have hlt2 : w.heap.size + 2 ≤ V3.heap.size := by have := hS.2.1.lt; omega
            have HQ2 := Lib.hid (And.intro (HQ.out.1.below hb) HQ.out.2)
            have hne : q < V3.heap.size := HQ.out.1.1.lt
            generalize V3.alloc _ = V4 at hb hm hs hs2 hs3 HQ2 hltb ⊢
            generalize V3.heap.size = p at hm hlt2 hne ⊢
            have HP := Lib.hid (And.intro hm hlt2)
            have HPQ : Hid (p ≠ q) := Lib.hid (by omega)
            clear hm hlt2 hle hltb hne
            clear HQ
            have HQ := HQ2
            clear HQ2
            refine hK.out _ _ ⟨hs, hs2, hs3⟩ (fun hS => ?_)
            clear hK K hb hs hs2 hs3
            try simp only [Act.put, List.setIfInBounds_toArray, List.set_cons_zero, List.set_cons_succ]
            obtain ⟨⟨p0, p1, p2, p3⟩, f0, f1, f2, f3⟩ := HP.out.1
            refine wpAnyH_ready (rs := [6]) (by kernel_rfl) (by simp) ?_
            refine AllReadyH.cons (o := ⟨none, _, _, _, _, _⟩) rfl (fun K hK => ?_) AllReadyH.nil
            go_simp
            clear p0 p1 p2 p3 f0 f1 f2 f3
            have hm := HP.out.1.set ⟨gk, gs, gl, gt⟩
            have hq := HQ.out.1.other (x := ⟨gk, gs, gl, gt⟩) HPQ.out
            have hb := HP.out.1.belowSet ⟨gk, gs, gl, gt⟩ HP.out.2
            have hs := hS.1.other (x := ⟨gk, gs, gl, gt⟩) (p := p) (by have := HP.out.2; omega)
            have hs2 := hS.2.1.other (x := ⟨gk, gs, gl, gt⟩) (p := p) (by have := HP.out.2; omega)
            have hs3 := hS.2.2.trans hb
            dsimp only at hm hq hb hs hs2 hs3
            generalize World.setCell (World.setCell (World.setCell (World.setCell V4 _ _) _ _) _ _) _ _ = U at hm hq hb hs hs2 hs3 ⊢
            refine hK.out _ _ ⟨hs, hs2, hs3⟩ (fun hS => ?_)
            clear hK K
            try simp only [Act.put, List.setIfInBounds_toArray, List.set_cons_zero, List.set_cons_succ]
            obtain ⟨⟨p0, p1, p2, p3⟩, f0, f1, f2, f3⟩ := hq
            refine wpAnyH_ready (rs := [7]) (by kernel_rfl) (by simp) ?_
            refine AllReadyH.cons (o := ⟨none, _, _, _, _, _⟩) rfl (fun K hK => ?_) AllReadyH.nil
            go_simp
            have hq : Mine U q ⟨0, ⟨#[]⟩, ⟨#[]⟩, ⟨#[]⟩⟩ := ⟨⟨p0, p1, p2, p3⟩, f0, f1, f2, f3⟩
            clear p0 p1 p2 p3 f0 f1 f2 f3
            have hm2 := hm.1.other (x := ⟨hk, hs', hl, ht⟩) HPQ.out.symm
            have hq2 := hq.set ⟨hk, hs', hl, ht⟩
            have hb2 := hq.belowSet ⟨hk, hs', hl, ht⟩ HQ.out.2
            have g1 := hS.1.other (x := ⟨hk, hs', hl, ht⟩) (p := q) (by have := HQ.out.2; omega)
            have g2 := hS.2.1.other (x := ⟨hk, hs', hl, ht⟩) (p := q) (by have := HQ.out.2; omega)
            have g3 := hS.2.2.trans hb2
            dsimp only at hm2 hq2 hb2 g1 g2 g3
            generalize World.setCell (World.setCell (World.setCell (World.setCell U _ _) _ _) _ _) _ _ = U2 at hm2 hq2 hb2 g1 g2 g3 ⊢
            refine hK.out _ _ ⟨g1, g2, g3⟩ (fun hS => ?_)
            clear hK K
            try simp only [Act.put, List.setIfInBounds_toArray, List.set_cons_zero, List.set_cons_succ]
            refine wpAnyH_done (by kernel_rfl) ?_ _
            clear hS
            go_wp2_with fail
            go_meet
            exact ⟨p, q, rfl, rfl, hm2, hq2.1, g3⟩
        · go_simp
          have hb : Below V2.heap.size V2 (V2.alloc (.cells #[.int .i64 0, .string ⟨#[]⟩, .string ⟨#[]⟩, .string ⟨#[]⟩] 23)) := (Below.refl _ _).alloc (Nat.le_refl _) _
          have hm : Mine (V2.alloc (.cells #[.int .i64 0, .string ⟨#[]⟩, .string ⟨#[]⟩, .string ⟨#[]⟩] 23)) V2.heap.size ⟨0, ⟨#[]⟩, ⟨#[]⟩, ⟨#[]⟩⟩ := Mine.new V2
          have hle := hS.2.2.size
          have hs := hS.1.below hb
          have hs2 := hS.2.1.below hb
          have hs3 := hS.2.2.trans (hb.mono hS.2.2.size)
          have hltb := hs2.lt
          have hlt2 : w.heap.size + 2 ≤ V2.heap.size := by have := hS.2.1.lt; omega
          have HQ2 := Lib.hid (And.intro (HQ.out.1.below hb) HQ.out.2)
          have hne : q < V2.heap.size := HQ.out.1.1.lt
          generalize V2.alloc _ = V3 at hb hm hs hs2 hs3 HQ2 hltb ⊢
          generalize V2.heap.size = p at hm hlt2 hne ⊢
          have HP := Lib.hid (And.intro hm hlt2)
          have HPQ : Hid (p ≠ q) := Lib.hid (by omega)
          clear hm hlt2 hle hltb hne
          clear HQ
          have HQ := HQ2
          clear HQ2
          refine hK.out _ _ ⟨hs, hs2, hs3⟩ (fun hS => ?_)
          clear hK K hb hs hs2 hs3
          try simp only [Act.put, List.setIfInBounds_toArray, List.set_cons_zero, List.set_cons_succ]
          refine wpAnyH_ready (rs := [3]) (by kernel_rfl) (by simp) ?_
          refine AllReadyH.cons (o := ⟨some 22, _, _, _, _, _⟩) rfl (fun K hK => ?_) (AllReadyH.nil)
          · go_simp
            refine (HGY.out V3).mono ?_
            rintro e V4 ⟨rfl, hb⟩
            go_simp
            have hs := hS.1.below hb
            have hs2 := hS.2.1.below hb
            have hs3 := hS.2.2.trans (hb.mono hS.2.2.size)
            have HP2 := Lib.hid (And.intro (HP.out.1.below hb) HP.out.2)
            have HQ2 := Lib.hid (And.intro (HQ.out.1.below hb) HQ.out.2)
            clear HP
            have HP := HP2
            clear HP2
            clear HQ
            have HQ := HQ2
            clear HQ2
            refine hK.out _ _ ⟨hs, hs2, hs3⟩ (fun hS => ?_)
            clear hK K hb hs hs2 hs3
            try simp only [Act.put, List.setIfInBounds_toArray, List.set_cons_zero, List.set_cons_succ]
            obtain ⟨⟨p0, p1, p2, p3⟩, f0, f1, f2, f3⟩ := HP.out.1
            refine wpAnyH_ready (rs := [6]) (by kernel_rfl) (by simp) ?_
            refine AllReadyH.cons (o := ⟨none, _, _, _, _, _⟩) rfl (fun K hK => ?_) AllReadyH.nil
            go_simp
            clear p0 p1 p2 p3 f0 f1 f2 f3
            have hm := HP.out.1.set ⟨gk, gs, gl, gt⟩
            have hq := HQ.out.1.other (x := ⟨gk, gs, gl, gt⟩) HPQ.out
            have hb := HP.out.1.belowSet ⟨gk, gs, gl, gt⟩ HP.out.2
            have hs := hS.1.other (x := ⟨gk, gs, gl, gt⟩) (p := p) (by have := HP.out.2; omega)
            have hs2 := hS.2.1.other (x := ⟨gk, gs, gl, gt⟩) (p := p) (by have := HP.out.2; omega)
            have hs3 := hS.2.2.trans hb
            dsimp only at hm hq hb hs hs2 hs3
            generalize World.setCell (World.setCell (World.setCell (World.setCell V4 _ _) _ _) _ _) _ _ = U at hm hq hb hs hs2 hs3 ⊢
            refine hK.out _ _ ⟨hs, hs2, hs3⟩ (fun hS => ?_)
            clear hK K
            try simp only [Act.put, List.setIfInBounds_toArray, List.set_cons_zero, List.set_cons_succ]
            obtain ⟨⟨p0, p1, p2, p3⟩, f0, f1, f2, f3⟩ := hq
            refine wpAnyH_ready (rs := [7]) (by kernel_rfl) (by simp) ?_
            refine AllReadyH.cons (o := ⟨none, _, _, _, _, _⟩) rfl (fun K hK => ?_) AllReadyH.nil
            go_simp
            have hq : Mine U q ⟨0, ⟨#[]⟩, ⟨#[]⟩, ⟨#[]⟩⟩ := ⟨⟨p0, p1, p2, p3⟩, f0, f1, f2, f3⟩
            clear p0 p1 p2 p3 f0 f1 f2 f3
            have hm2 := hm.1.other (x := ⟨hk, hs', hl, ht⟩) HPQ.out.symm
            have hq2 := hq.set ⟨hk, hs', hl, ht⟩
            have hb2 := hq.belowSet ⟨hk, hs', hl, ht⟩ HQ.out.2
            have g1 := hS.1.other (x := ⟨hk, hs', hl, ht⟩) (p := q) (by have := HQ.out.2; omega)
            have g2 := hS.2.1.other (x := ⟨hk, hs', hl, ht⟩) (p := q) (by have := HQ.out.2; omega)
            have g3 := hS.2.2.trans hb2
            dsimp only at hm2 hq2 hb2 g1 g2 g3
            generalize World.setCell (World.setCell (World.setCell (World.setCell U _ _) _ _) _ _) _ _ = U2 at hm2 hq2 hb2 g1 g2 g3 ⊢
            refine hK.out _ _ ⟨g1, g2, g3⟩ (fun hS => ?_)
            clear hK K
            try simp only [Act.put, List.setIfInBounds_toArray, List.set_cons_zero, List.set_cons_succ]
            refine wpAnyH_done (by kernel_rfl) ?_ _
            clear hS
            go_wp2_with fail
            go_meet
            exact ⟨p, q, rfl, rfl, hm2, hq2.1, g3⟩
      · go_simp
        have hb : Below V1.heap.size V1 (V1.alloc (.cells #[.int .i64 0, .string ⟨#[]⟩, .string ⟨#[]⟩, .string ⟨#[]⟩] 23)) := (Below.refl _ _).alloc (Nat.le_refl _) _
        have hm : Mine (V1.alloc (.cells #[.int .i64 0, .string ⟨#[]⟩, .string ⟨#[]⟩, .string ⟨#[]⟩] 23)) V1.heap.size ⟨0, ⟨#[]⟩, ⟨#[]⟩, ⟨#[]⟩⟩ := Mine.new V1
        have hle := hS.2.2.size
        have hs := hS.1.below hb
        have hs2 := hS.2.1.below hb
        have hs3 := hS.2.2.trans (hb.mono hS.2.2.size)
        have hltb := hs2.lt
        have hlt2 : w.heap.size + 2 ≤ V1.heap.size := by have := hS.2.1.lt; omega
        have HQ2 := Lib.hid (And.intro (HQ.out.1.below hb) HQ.out.2)
        have hne : q < V1.heap.size := HQ.out.1.1.lt
        generalize V1.alloc _ = V2 at hb hm hs hs2 hs3 HQ2 hltb ⊢
        generalize V1.heap.size = p at hm hlt2 hne ⊢
        have HP := Lib.hid (And.intro hm hlt2)
        have HPQ : Hid (p ≠ q) := Lib.hid (by omega)
        clear hm hlt2 hle hltb hne
        clear HQ
        have HQ := HQ2
        clear HQ2
        refine hK.out _ _ ⟨hs, hs2, hs3⟩ (fun hS => ?_)
        clear hK K hb hs hs2 hs3
        try simp only [Act.put, List.setIfInBounds_toArray, List.set_cons_zero, List.set_cons_succ]
        refine wpAnyH_ready (rs := [1]) (by kernel_rfl) (by simp) ?_
        refine AllReadyH.cons (o := ⟨some 20, _, _, _, _, _⟩) rfl (fun K hK => ?_) (AllReadyH.nil)
        · go_simp
          refine (HGX.out V2).mono ?_
          rintro e V3 ⟨rfl, hb⟩
          go_simp
          have hs := hS.1.below hb
          have hs2 := hS.2.1.below hb
          have hs3 := hS.2.2.trans (hb.mono hS.2.2.size)
          have HP2 := Lib.hid (And.intro (HP.out.1.below hb) HP.out.2)
          have HQ2 := Lib.hid (And.intro (HQ.out.1.below hb) HQ.out.2)
          clear HP
          have HP := HP2
          clear HP2
          clear HQ
          have HQ := HQ2
          clear HQ2
          refine hK.out _ _ ⟨hs, hs2, hs3⟩ (fun hS => ?_)
          clear hK K hb hs hs2 hs3
          try simp only [Act.put, List.setIfInBounds_toArray, List.set_cons_zero, List.set_cons_succ]
          refine wpAnyH_ready (rs := [3]) (by kernel_rfl) (by simp) ?_
          refine AllReadyH.cons (o := ⟨some 22, _, _, _, _, _⟩) rfl (fun K hK => ?_) (AllReadyH.nil)
          · go_simp
            refine (HGY.out V3).mono ?_
            rintro e V4 ⟨rfl, hb⟩
            go_simp
            have hs := hS.1.below hb
            have hs2 := hS.2.1.below hb
            have hs3 := hS.2.2.trans (hb.mono hS.2.2.size)
            have HP2 := Lib.hid (And.intro (HP.out.1.below hb) HP.out.2)
            have HQ2 := Lib.hid (And.intro (HQ.out.1.below hb) HQ.out.2)
            clear HP
            have HP := HP2
            clear HP2
            clear HQ
            have HQ := HQ2
            clear HQ2
            refine hK.out _ _ ⟨hs, hs2, hs3⟩ (fun hS => ?_)
            clear hK K hb hs hs2 hs3
            try simp only [Act.put, List.setIfInBounds_toArray, List.set_cons_zero, List.set_cons_succ]
            obtain ⟨⟨p0, p1, p2, p3⟩, f0, f1, f2, f3⟩ := HP.out.1
            refine wpAnyH_ready (rs := [6]) (by kernel_rfl) (by simp) ?_
            refine AllReadyH.cons (o := ⟨none, _, _, _, _, _⟩) rfl (fun K hK => ?_) AllReadyH.nil
            go_simp
            clear p0 p1 p2 p3 f0 f1 f2 f3
            have hm := HP.out.1.set ⟨gk, gs, gl, gt⟩
            have hq := HQ.out.1.other (x := ⟨gk, gs, gl, gt⟩) HPQ.out
            have hb := HP.out.1.belowSet ⟨gk, gs, gl, gt⟩ HP.out.2
            have hs := hS.1.other (x := ⟨gk, gs, gl, gt⟩) (p := p) (by have := HP.out.2; omega)
            have hs2 := hS.2.1.other (x := ⟨gk, gs, gl, gt⟩) (p := p) (by have := HP.out.2; omega)
            have hs3 := hS.2.2.trans hb
            dsimp only at hm hq hb hs hs2 hs3
            generalize World.setCell (World.setCell (World.setCell (World.setCell V4 _ _) _ _) _ _) _ _ = U at hm hq hb hs hs2 hs3 ⊢
            refine hK.out _ _ ⟨hs, hs2, hs3⟩ (fun hS => ?_)
            clear hK K
            try simp only [Act.put, List.setIfInBounds_toArray, List.set_cons_zero, List.set_cons_succ]
            obtain ⟨⟨p0, p1, p2, p3⟩, f0, f1, f2, f3⟩ := hq
            refine wpAnyH_ready (rs := [7]) (by kernel_rfl) (by simp) ?_
            refine AllReadyH.cons (o := ⟨none, _, _, _, _, _⟩) rfl (fun K hK => ?_) AllReadyH.nil
            go_simp
            have hq : Mine U q ⟨0, ⟨#[]⟩, ⟨#[]⟩, ⟨#[]⟩⟩ := ⟨⟨p0, p1, p2, p3⟩, f0, f1, f2, f3⟩
            clear p0 p1 p2 p3 f0 f1 f2 f3
            have hm2 := hm.1.other (x := ⟨hk, hs', hl, ht⟩) HPQ.out.symm
            have hq2 := hq.set ⟨hk, hs', hl, ht⟩
            have hb2 := hq.belowSet ⟨hk, hs', hl, ht⟩ HQ.out.2
            have g1 := hS.1.other (x := ⟨hk, hs', hl, ht⟩) (p := q) (by have := HQ.out.2; omega)
            have g2 := hS.2.1.other (x := ⟨hk, hs', hl, ht⟩) (p := q) (by have := HQ.out.2; omega)
            have g3 := hS.2.2.trans hb2
            dsimp only at hm2 hq2 hb2 g1 g2 g3
            generalize World.setCell (World.setCell (World.setCell (World.setCell U _ _) _ _) _ _) _ _ = U2 at hm2 hq2 hb2 g1 g2 g3 ⊢
            refine hK.out _ _ ⟨g1, g2, g3⟩ (fun hS => ?_)
            clear hK K
            try simp only [Act.put, List.setIfInBounds_toArray, List.set_cons_zero, List.set_cons_succ]
            refine wpAnyH_done (by kernel_rfl) ?_ _
            clear hS
            go_wp2_with fail
            go_meet
            exact ⟨p, q, rfl, rfl, hm2, hq2.1, g3⟩
  case rest =>
    obtain ⟨p, q, rfl, rfl, hp, hq, hb⟩ := hcut
    have hpl := hp.lt
    have hql := hq.lt
    obtain ⟨c0, c1, c2, c3⟩ := hp
    obtain ⟨d0, d1, d2, d3⟩ := hq
    dsimp only at c0 c1 c2 c3 d0 d1 d2 d3
    have HB := Lib.hid hb
    have hsz := hb.size
    clear hb
    have hb0 : Below wc.heap.size wc (wc.alloc (.cells #[.int .i64 0, .int .i64 1, .int .i64 0, .int .i64 2] 52)) := (Below.refl _ _).alloc (Nat.le_refl _) _
    have r0 : (wc.alloc (.cells #[.int .i64 0, .int .i64 1, .int .i64 0, .int .i64 2] 52)).cell? ⟨wc.heap.size, 1, none⟩ = some (.int .i64 1) := by simp
    have r1 : (wc.alloc (.cells #[.int .i64 0, .int .i64 1, .int .i64 0, .int .i64 2] 52)).cell? ⟨wc.heap.size, 2, none⟩ = some (.int .i64 0) := by simp
    have r2 : (wc.alloc (.cells #[.int .i64 0, .int .i64 1, .int .i64 0, .int .i64 2] 52)).cell? ⟨wc.heap.size, 3, none⟩ = some (.int .i64 2) := by simp
    have R := Lib.hid (And.intro r0 (And.intro r1 r2))
    have CC := Lib.hid (And.intro (And.intro c0 c1) (And.intro d0 d1))
    have HB0 := Lib.hid hb0
    clear r0 r1 r2 hb0
    go_wp2_with fail
    refine (HCMP.out _).mono ?_
    rintro e w5 ⟨rfl, hb5⟩
    have hbc := HB0.out.trans (hb5.mono HB0.out.size)
    have R0 : w5.cell? ⟨wc.heap.size, 1, none⟩ = some (.int .i64 1) := (hb5.cell (p := ⟨wc.heap.size, 1, none⟩) (by simp)).trans R.out.1
    have R1 : w5.cell? ⟨wc.heap.size, 2, none⟩ = some (.int .i64 0) := (hb5.cell (p := ⟨wc.heap.size, 2, none⟩) (by simp)).trans R.out.2.1
    have R2 : w5.cell? ⟨wc.heap.size, 3, none⟩ = some (.int .i64 2) := (hb5.cell (p := ⟨wc.heap.size, 3, none⟩) (by simp)).trans R.out.2.2
    have e0 : w5.cell? ⟨p, 0, none⟩ = some (.int .i64 gk) := (hbc.cell (p := ⟨p, 0, none⟩) hpl).trans CC.out.1.1
    have e1 : w5.cell? ⟨p, 1, none⟩ = some (.string gs) := (hbc.cell (p := ⟨p, 1, none⟩) hpl).trans CC.out.1.2
    have g0 : w5.cell? ⟨q, 0, none⟩ = some (.int .i64 hk) := (hbc.cell (p := ⟨q, 0, none⟩) hql).trans CC.out.2.1
    have g1 : w5.cell? ⟨q, 1, none⟩ = some (.string hs') := (hbc.cell (p := ⟨q, 1, none⟩) hql).trans CC.out.2.2
    have HBC := Lib.hid (HB.out.trans (hbc.mono hsz))
    clear c0 c1 c2 c3 d0 d1 d2 d3 hb5 hbc hpl hql R CC HB0 HB
    obtain ⟨c, hc⟩ : ∃ c, c = cmpT ⟨gk, gs, gl, gt⟩ ⟨hk, hs', hl, ht⟩ := ⟨_, rfl⟩
    rw [← hc]
    have HC := Lib.hid hc
    clear hc
    rcases HKX.out with rfl | rfl | rfl <;> rcases HKY.out with rfl | rfl | rfl
    · by_cases hss : gs.toList = hs'.toList
      · have hneq : (!(gs.toList == hs'.toList)) = false := by simpa using hss
        clear HC
        go_wp2_with fail
        go_quiet (fail)
        go_wp2_with fail
        go_ret
        exact ⟨rfl, drewN_below HBC.out _⟩
      · have hneq : (gs.toList == hs'.toList) = false := by simpa using hss
        cases hless : Op.bytesLess gs.toList hs'.toList with
        | true =>
          have hc : c = -1 := by rw [HC.out]; simp [cmpT, ordI, orI, ordS, hless]
          subst hc
          clear hss
          go_wp2_with fail
          go_quiet (fail)
          go_wp2_with fail
          go_ret
          exact ⟨rfl, drewN_below HBC.out _⟩
        | false =>
          have hc : c = 1 := by rw [HC.out]; simp [cmpT, ordI, orI, ordS, hless, hss]
          subst hc
          clear hss
          go_wp2_with fail
          go_quiet (fail)
          go_wp2_with fail
          go_ret
          exact ⟨rfl, drewN_below HBC.out _⟩
    · have hc : c = 1 := by rw [HC.out]; simp [cmpT, rankOf, ordI, orI]
      subst hc
      go_wp2_with fail
      go_quiet (fail)
      go_wp2_with fail
      go_quiet (fail)
      go_wp2_with fail
      go_ret
      exact ⟨rfl, drewN_below (drewN_below HBC.out _) _⟩
    · have hc : c = -1 := by rw [HC.out]; simp [cmpT, rankOf, ordI, orI]
      subst hc
      go_wp2_with fail
      go_quiet (fail)
      go_wp2_with fail
      go_quiet (fail)
      go_wp2_with fail
      go_ret
      exact ⟨rfl, drewN_below (drewN_below HBC.out _) _⟩
    · have hc : c = -1 := by rw [HC.out]; simp [cmpT, rankOf, ordI, orI]
      subst hc
      go_wp2_with fail
      go_quiet (fail)
      go_wp2_with fail
      go_quiet (fail)
      go_wp2_with fail
      go_ret
      exact ⟨rfl, drewN_below (drewN_below HBC.out _) _⟩
    · by_cases hss : gs.toList = hs'.toList
      · have hneq : (!(gs.toList == hs'.toList)) = false := by simpa using hss
        clear HC
        go_wp2_with fail
        go_quiet (fail)
        go_wp2_with fail
        go_ret
        exact ⟨rfl, drewN_below HBC.out _⟩
      · have hneq : (gs.toList == hs'.toList) = false := by simpa using hss
        cases hless : Op.bytesLess gs.toList hs'.toList with
        | true =>
          have hc : c = -1 := by rw [HC.out]; simp [cmpT, ordI, orI, ordS, hless]
          subst hc
          clear hss
          go_wp2_with fail
          go_quiet (fail)
          go_wp2_with fail
          go_ret
          exact ⟨rfl, drewN_below HBC.out _⟩
        | false =>
          have hc : c = 1 := by rw [HC.out]; simp [cmpT, ordI, orI, ordS, hless, hss]
          subst hc
          clear hss
          go_wp2_with fail
          go_quiet (fail)
          go_wp2_with fail
          go_ret
          exact ⟨rfl, drewN_below HBC.out _⟩
    · have hc : c = -1 := by rw [HC.out]; simp [cmpT, rankOf, ordI, orI]
      subst hc
      go_wp2_with fail
      go_quiet (fail)
      go_wp2_with fail
      go_quiet (fail)
      go_wp2_with fail
      go_ret
      exact ⟨rfl, drewN_below (drewN_below HBC.out _) _⟩
    · have hc : c = 1 := by rw [HC.out]; simp [cmpT, rankOf, ordI, orI]
      subst hc
      go_wp2_with fail
      go_quiet (fail)
      go_wp2_with fail
      go_quiet (fail)
      go_wp2_with fail
      go_ret
      exact ⟨rfl, drewN_below (drewN_below HBC.out _) _⟩
    · have hc : c = 1 := by rw [HC.out]; simp [cmpT, rankOf, ordI, orI]
      subst hc
      go_wp2_with fail
      go_quiet (fail)
      go_wp2_with fail
      go_quiet (fail)
      go_wp2_with fail
      go_ret
      exact ⟨rfl, drewN_below (drewN_below HBC.out _) _⟩
    · by_cases hss : gs.toList = hs'.toList
      · have hneq : (!(gs.toList == hs'.toList)) = false := by simpa using hss
        clear HC
        go_wp2_with fail
        go_quiet (fail)
        go_wp2_with fail
        go_ret
        exact ⟨rfl, drewN_below HBC.out _⟩
      · have hneq : (gs.toList == hs'.toList) = false := by simpa using hss
        cases hless : Op.bytesLess gs.toList hs'.toList with
        | true =>
          have hc : c = -1 := by rw [HC.out]; simp [cmpT, ordI, orI, ordS, hless]
          subst hc
          clear hss
          go_wp2_with fail
          go_quiet (fail)
          go_wp2_with fail
          go_ret
          exact ⟨rfl, drewN_below HBC.out _⟩
        | false =>
          have hc : c = 1 := by rw [HC.out]; simp [cmpT, ordI, orI, ordS, hless, hss]
          subst hc
          clear hss
          go_wp2_with fail
          go_quiet (fail)
          go_wp2_with fail
          go_ret
          exact ⟨rfl, drewN_below HBC.out _⟩
end Go.Proofs.Ytpoacgnncinmiaa
