/- Ra -/
import Derived.Test.YtpfjbcfnpfgidaaKGr
import Derived.Test.YtpfjbcfnpfgidaaKWd
import Derived.Test.YtpfjbcfnpfgidaaKWR
namespace Go.Proofs.Ytpfjbcfnpfgidaa
open Go.RowKit Go.Maps
set_option maxRecDepth 100000
set_option linter.unusedVariables false
/-- Where Range's look keeps what it has: the keys' row, the values', how many at most, up to where. -/
def RgF (bk bm bt bv : Nat) (most : Int) (to : ByteArray) (kv vv : Value) : List (Nat × Array Value × TypeId) := [(bk, #[kv], 22), (bm, #[.int .i64 most], 3), (bt, #[.string to], 9), (bv, #[vv], 22)]
def RgAt (w0 : World) (D : Nat → Prop) (w : World) (B bk bm bt bv : Nat) (most : Int) (to : ByteArray) (kv vv : Value) (K V : List ByteArray) : Prop := Live w0 D w B (RgF bk bm bt bv most to kv vv) [(kv, K), (vv, V)]
section
variable {w0 w w' : World} {D : Nat → Prop} {B bk bm bt bv : Nat} {most : Int} {to : ByteArray} {kv vv : Value} {K V : List ByteArray}
theorem RgAt.k (h : RgAt w0 D w B bk bm bt bv most to kv vv K V) : Blk w bk #[kv] 22 ∧ bk < B := h.fix (bk, #[kv], 22) (by simp [RgF])
theorem RgAt.m (h : RgAt w0 D w B bk bm bt bv most to kv vv K V) : Blk w bm #[.int .i64 most] 3 ∧ bm < B := h.fix (bm, _, _) (by simp [RgF])
theorem RgAt.t (h : RgAt w0 D w B bk bm bt bv most to kv vv K V) : Blk w bt #[.string to] 9 ∧ bt < B := h.fix (bt, _, _) (by simp [RgF])
theorem RgAt.fin {w1 : World} {xk xv : Value} {K' V' : List ByteArray} {R : List (Value × List ByteArray)} (h0 : RgAt w0 D w1 B bk bm bt bv most to kv vv K V) (hl : Live w1 (fun q => ∃ r ∈ [(kv, K), (vv, V)], r.1.ownBlock = some q) w' B (RgF bk bm bt bv most to kv vv) ((xk, K') :: (xv, V') :: R)) (hD : D bk ∧ D bv) (hn : bk ≠ bv ∧ bk ≠ bm ∧ bk ≠ bt ∧ bv ≠ bm ∧ bv ≠ bt) :
 RgAt w0 D ((w'.setCell ⟨bk, 0, none⟩ xk).setCell ⟨bv, 0, none⟩ xv) B bk bm bt bv most to xk xv K' V' := by
 have h1 := (Live.back h0 hl).sub (((List.nil_sublist _).cons_cons _).cons_cons _)
 have h2 := (h1.put bk 0 xk (h0.fix (bk, #[kv], 22) (by simp [RgF])).2 hD.1).put bv 0 xv (h0.fix (bv, #[vv], 22) (by simp [RgF])).2 hD.2
 obtain ⟨n1, n2, n3, n4, n5⟩ := hn
 have e : ((RgF bk bm bt bv most to kv vv).map (fun x => if x.1 = bk then (x.1, x.2.1.setIfInBounds 0 xk, x.2.2) else x)).map (fun x => if x.1 = bv then (x.1, x.2.1.setIfInBounds 0 xv, x.2.2) else x) = RgF bk bm bt bv most to xk xv := by
  simp [RgF, n1, Ne.symm n1, Ne.symm n2, Ne.symm n3, Ne.symm n4, Ne.symm n5]
 rw [e] at h2
 exact h2
theorem RgAt.v (h : RgAt w0 D w B bk bm bt bv most to kv vv K V) : Blk w bv #[vv] 22 ∧ bv < B := h.fix (bv, _, _) (by simp [RgF])
end
set_option maxHeartbeats 8000000 in
/-- The look: enough, or beyond: no more. -/
theorem rangeq_stop {w0 : World} {D : Nat → Prop} (B bk bm bt bv : Nat) (most : Int) (to : ByteArray) (kv vv : Value) (K V : List ByteArray) (x : Ent) (w : World) (h : RgAt w0 D w B bk bm bt bv most to kv vv K V) (hl : K.length ≤ 1000000) (hs : (K.length : Int) = most ∨ (to.toList.isEmpty = false ∧ geB x.key to = true)) :
 Calls Try.prog 30 #[x.agg, .pointer (some ⟨bk, 0, none⟩), .pointer (some ⟨bm, 0, none⟩), .pointer (some ⟨bt, 0, none⟩), .pointer (some ⟨bv, 0, none⟩)] w fun e w' => e = .returned (.bool false) ∧ Below w.heap.size w w' := by
 have hal : Below w.heap.size w (w.alloc (.cells #[.string x.key, .string x.val, .int .i64 x.kid] 68)) := (Below.refl _ w).alloc (Nat.le_refl _) _
 have hr : RgAt w0 D _ B bk bm bt bv most to kv vv K V := Live.below h hal
 have c0 : (w.alloc (.cells #[.string x.key, .string x.val, .int .i64 x.kid] 68)).cell? ⟨bk, 0, none⟩ = some kv := by rw [hr.k.1.cell]; rfl
 have c1 : (w.alloc (.cells #[.string x.key, .string x.val, .int .i64 x.kid] 68)).cell? ⟨bm, 0, none⟩ = some (.int .i64 most) := by rw [hr.m.1.cell]; rfl
 have c2 : (w.alloc (.cells #[.string x.key, .string x.val, .int .i64 x.kid] 68)).cell? ⟨bt, 0, none⟩ = some (.string to) := by rw [hr.t.1.cell]; rfl
 obtain ⟨ao, cap, e0, hc1, hc2⟩ := (Live.at1 h).ss.form
 obtain ⟨n, hn⟩ : ∃ n, n = K.length := ⟨_, rfl⟩
 dsimp only at e0 hc1
 rw [← hn] at hs e0 hc1 hl
 subst e0
 have HAL := Lib.hid hal
 unfold Ent.agg
 clear h hal hr hn
 unfold geB at hs
 by_cases e : (n : Int) = most
 ·subst e
  clear hs
  go_enter Try.func30, Try.ntmps30
  go_wp2_with fail
  go_ret
  exact ⟨rfl, HAL.out⟩
 ·have e' : ((n : Int) == most) = false := by simpa using e
  obtain ⟨t1, t2⟩ := hs.resolve_left e
  have t3 : ¬ to.toList = [] := by intro h; rw [h] at t1; cases t1
  clear hs e
  go_enter Try.func30, Try.ntmps30
  go_wp2_with fail
  go_ret
  exact ⟨rfl, HAL.out⟩
set_option maxHeartbeats 16000000 in
/-- The look: one more. -/
theorem rangeq_more {w0 : World} {D : Nat → Prop} (B bk bm bt bv : Nat) (most : Int) (to : ByteArray) (kv vv : Value) (K V : List ByteArray) (x : Ent) (w : World) (h : RgAt w0 D w B bk bm bt bv most to kv vv K V) (hl : K.length ≤ 100000) (hlv : V.length ≤ 100000) (hne : ¬ (K.length : Int) = most) (ht : to.toList = [] ∨ geB x.key to = false) (hDk : D bk) (hDv : D bv) (hkv : bk ≠ bv) (hkm : bk ≠ bm) (hkt : bk ≠ bt) (hvm : bv ≠ bm) (hvt : bv ≠ bt) :
 Calls Try.prog 30 #[x.agg, .pointer (some ⟨bk, 0, none⟩), .pointer (some ⟨bm, 0, none⟩), .pointer (some ⟨bt, 0, none⟩), .pointer (some ⟨bv, 0, none⟩)] w fun e w' => e = .returned (.bool true) ∧ ∃ kv' vv', RgAt w0 D w' B bk bm bt bv most to kv' vv' (K ++ [x.key]) (V ++ [x.val]) := by
 have hb := Blk.new w #[.string x.key, .string x.val, .int .i64 x.kid] 68
 have hr0 : RgAt w0 D (w.alloc (.cells #[.string x.key, .string x.val, .int .i64 x.kid] 68)) B bk bm bt bv most to kv vv K V := Live.below h ((Below.refl _ w).alloc (Nat.le_refl _) _)
 obtain ⟨w1, hw1⟩ : ∃ w1, w1 = w.alloc (.cells #[.string x.key, .string x.val, .int .i64 x.kid] 68) := ⟨_, rfl⟩
 obtain ⟨b0, hb0⟩ : ∃ b0, b0 = w.heap.size := ⟨_, rfl⟩
 rw [← hw1] at hb hr0
 rw [← hb0] at hb
 have hr := Live.rebase hr0
 have hown : ∀ q, (∃ r ∈ [(kv, K), (vv, V)], r.1.ownBlock = some q) → q ≠ b0 := fun q ⟨r, hr, hq⟩ e => by
  have := (Live.lt h hr q hq).2
  omega
 have c0 : w1.cell? ⟨bk, 0, none⟩ = some kv := by rw [hr0.k.1.cell]; rfl
 have c1 : w1.cell? ⟨bm, 0, none⟩ = some (.int .i64 most) := by rw [hr0.m.1.cell]; rfl
 have c2 : w1.cell? ⟨bt, 0, none⟩ = some (.string to) := by rw [hr0.t.1.cell]; rfl
 have c3 : w1.cell? ⟨bv, 0, none⟩ = some vv := by rw [hr0.v.1.cell]; rfl
 have d0 : w1.cell? ⟨b0, 0, none⟩ = some (.string x.key) := by rw [hb.cell]; rfl
 have d1 : w1.cell? ⟨b0, 1, none⟩ = some (.string x.val) := by rw [hb.cell]; rfl
 have HW1 := Lib.hid (And.intro hw1 hb0)
 obtain ⟨ao, cap, e0, hc1, hc2⟩ := (Live.at1 h).ss.form
 obtain ⟨n, hn⟩ : ∃ n, n = K.length := ⟨_, rfl⟩
 dsimp only at e0 hc1
 rw [← hn] at hne e0 hc1 hl
 subst e0
 have hC : ∀ w' R', Live w1 (fun q => ∃ r ∈ [((.slice ao n cap : Value), K), (vv, V)], r.1.ownBlock = some q) w' B (RgF bk bm bt bv most to (.slice ao n cap) vv) R' →
  (w'.cell? ⟨bk, 0, none⟩ = some (.slice ao n cap) ∧ w'.cell? ⟨bv, 0, none⟩ = some vv) ∧ w'.cell? ⟨b0, 0, none⟩ = some (.string x.key) ∧ w'.cell? ⟨b0, 1, none⟩ = some (.string x.val) := fun w' R' hl => by
  have k1 := (hl.fix (bk, #[.slice ao n cap], 22) (by simp [RgF])).1
  have k2 := (hl.fix (bv, #[vv], 22) (by simp [RgF])).1
  have k3 := hb.moved hl.mv (fun e => hown _ e rfl)
  exact ⟨⟨by rw [k1.cell]; rfl, by rw [k2.cell]; rfl⟩, by rw [k3.cell]; rfl, by rw [k3.cell]; rfl⟩
 have HC := Lib.hid hC
 have HN := Lib.hid hn
 have HR := Lib.hid hr
 have HR0 := Lib.hid hr0
 have HF := Lib.hid (And.intro (hr0.k.1.frozen 0) (hr0.v.1.frozen 0))
 have HD := Lib.hid (And.intro hDk hDv)
 have HNE := Lib.hid (And.intro hkv (And.intro hkm (And.intro hkt (And.intro hvm hvt))))
 have HL := Lib.hid (show K.length ≤ 100000 ∧ V.length ≤ 100000 from ⟨by rw [← hn]; exact hl, hlv⟩)
 have e' : ((n : Int) == most) = false := by simpa using hne
 unfold geB at ht
 rw [hw1] at c0 c1 c2 c3
 rw [hw1, hb0] at d0 d1
 clear hne h hr hr0 hn hw1 hb0 hlv hDk hDv hkv hkm hkt hvm hvt hb hown hC
 unfold Ent.agg
 rcases ht with ht | ht
 ·go_enter Try.func30, Try.ntmps30
  go_wp2_with fail
  rw [← HW1.out.2, ← HW1.out.1]
  have hlk := HL.out.1
  have hlv := HL.out.2
  clear c0 c1 c2 c3 d0 d1
  ·skip
   refine wp_region_any (by kernel_rfl) ?_
   change wpAny _ _ _ _ _ _ _ (World.drew _)
   refine wpAny_of_T (C := fun (w' : World) => (w'.cell? ⟨bk, 0, none⟩ = some (.slice ao n cap) ∧ w'.cell? ⟨bv, 0, none⟩ = some vv) ∧ w'.cell? ⟨b0, 0, none⟩ = some (.string x.key) ∧ w'.cell? ⟨b0, 1, none⟩ = some (.string x.val)) (T := [10, 11]) _ _ _ _ ?_
   have hS : (fun (w' : World) => (w'.cell? ⟨bk, 0, none⟩ = some (.slice ao n cap) ∧ w'.cell? ⟨bv, 0, none⟩ = some vv) ∧ w'.cell? ⟨b0, 0, none⟩ = some (.string x.key) ∧ w'.cell? ⟨b0, 1, none⟩ = some (.string x.val)) _ := HC.out _ _ (Live.drew HR.out)
   have hL0 := Live.drew HR.out
   generalize World.drew w1 = u0 at hL0 hS ⊢
   try simp only [Act.put, List.setIfInBounds_toArray, List.set_cons_zero, List.set_cons_succ]
   refine wpAnyT_take (i := 0) (oi := ⟨some 21, _, _, _, _, _⟩) (v := ?_) rfl (by kernel_rfl) (by kernel_rfl) (by kernel_rfl) (by kernel_rfl) (fun _ _ _ h => h) (Or.inl ⟨by simp only [Region.wanted], ?_⟩) hS ?_
   rotate_left
   ·intro wz hSw
    (try dsimp only at hSw)
    (try go_split_ands)
    go_simp
    first | done | with_reducible rfl
   try simp only [Act.put, List.setIfInBounds_toArray, List.set_cons_zero, List.set_cons_succ]
   refine wpAnyT_take (i := 1) (oi := ⟨some 22, _, _, _, _, _⟩) (v := ?_) rfl (by kernel_rfl) (by kernel_rfl) (by kernel_rfl) (by kernel_rfl) (fun _ _ _ h => h) (Or.inl ⟨by simp only [Region.wanted], ?_⟩) hS ?_
   rotate_left
   ·intro wz hSw
    clear hSw
    go_simp
    first | done | with_reducible rfl
   try simp only [Act.put, List.setIfInBounds_toArray, List.set_cons_zero, List.set_cons_succ]
   refine wpAnyT_take (i := 2) (oi := ⟨some 23, _, _, _, _, _⟩) (v := ?_) rfl (by kernel_rfl) (by kernel_rfl) (by kernel_rfl) (by kernel_rfl) (fun _ _ _ h => h) (Or.inl ⟨by simp only [Region.wanted], ?_⟩) hS ?_
   rotate_left
   ·intro wz hSw
    (try dsimp only at hSw)
    (try go_split_ands)
    go_simp
    first | done | with_reducible rfl
   try simp only [Act.put, List.setIfInBounds_toArray, List.set_cons_zero, List.set_cons_succ]
   refine wpAnyT_take (i := 5) (oi := ⟨some 26, _, _, _, _, _⟩) (v := ?_) rfl (by kernel_rfl) (by kernel_rfl) (by kernel_rfl) (by kernel_rfl) (fun _ _ _ h => h) (Or.inl ⟨by simp only [Region.wanted], ?_⟩) hS ?_
   rotate_left
   ·intro wz hSw
    (try dsimp only at hSw)
    (try go_split_ands)
    go_simp
    first | done | with_reducible rfl
   try simp only [Act.put, List.setIfInBounds_toArray, List.set_cons_zero, List.set_cons_succ]
   refine wpAnyT_take (i := 6) (oi := ⟨some 27, _, _, _, _, _⟩) (v := ?_) rfl (by kernel_rfl) (by kernel_rfl) (by kernel_rfl) (by kernel_rfl) (fun _ _ _ h => h) (Or.inl ⟨by simp only [Region.wanted], ?_⟩) hS ?_
   rotate_left
   ·intro wz hSw
    clear hSw
    go_simp
    first | done | with_reducible rfl
   try simp only [Act.put, List.setIfInBounds_toArray, List.set_cons_zero, List.set_cons_succ]
   refine wpAnyT_take (i := 7) (oi := ⟨some 28, _, _, _, _, _⟩) (v := ?_) rfl (by kernel_rfl) (by kernel_rfl) (by kernel_rfl) (by kernel_rfl) (fun _ _ _ h => h) (Or.inl ⟨by simp only [Region.wanted], ?_⟩) hS ?_
   rotate_left
   ·intro wz hSw
    (try dsimp only at hSw)
    (try go_split_ands)
    go_simp
    first | done | with_reducible rfl
   try simp only [Act.put, List.setIfInBounds_toArray, List.set_cons_zero, List.set_cons_succ]
   refine wpAnyT_ready (rs := [3, 8]) (by kernel_rfl) (by simp) ?_
   refine AllReadyT.cons (o := ⟨some 24, _, _, _, _, _⟩) rfl (fun KK hK => ?_) (AllReadyT.cons (o := ⟨some 29, _, _, _, _, _⟩) rfl (fun KK hK => ?_) (AllReadyT.nil))
   ·have hL1 := hL0.text (x.key)
    go_simp
    generalize World.alloc u0 _ = u1 at hL1 ⊢
    refine hK.out _ _ (HC.out _ _ hL1) (fun hS => ?_)
    clear hK KK
    try simp only [Act.put, List.setIfInBounds_toArray, List.set_cons_zero, List.set_cons_succ]
    refine wpAnyT_ready (rs := [4, 8]) (by kernel_rfl) (by simp) ?_
    refine AllReadyT.cons (o := ⟨some 25, _, _, _, _, _⟩) rfl (fun KK hK => ?_) (AllReadyT.cons (o := ⟨some 29, _, _, _, _, _⟩) rfl (fun KK hK => ?_) (AllReadyT.nil))
    ·refine step_append_ss rfl _ _ rfl _ hL1.low (.slice ao n cap) (K) rfl hL1.at1 (.slice (some ⟨u0.heap.size, 0, none⟩) 1 1) ([x.key]) rfl (hL1.at3.ss) (by simp; omega) ?_
     intro kv2 u2 ho hg hq
     have hL2 := hL1.grow1 _ _ ho hg hq
     clear ho hg hq
     refine hK.out _ _ (HC.out _ _ hL2) (fun hS => ?_)
     clear hK KK
     try simp only [Act.put, List.setIfInBounds_toArray, List.set_cons_zero, List.set_cons_succ]
     refine wpAnyT_ready (rs := [8]) (by kernel_rfl) (by simp) ?_
     refine AllReadyT.cons (o := ⟨some 29, _, _, _, _, _⟩) rfl (fun KK hK => ?_) (AllReadyT.nil)
     ·have hL3 := hL2.text (x.val)
      go_simp
      generalize World.alloc u2 _ = u3 at hL3 ⊢
      refine hK.out _ _ (HC.out _ _ hL3) (fun hS => ?_)
      clear hK KK
      try simp only [Act.put, List.setIfInBounds_toArray, List.set_cons_zero, List.set_cons_succ]
      refine wpAnyT_ready (rs := [9]) (by kernel_rfl) (by simp) ?_
      refine AllReadyT.cons (o := ⟨some 30, _, _, _, _, _⟩) rfl (fun KK hK => ?_) (AllReadyT.nil)
      ·refine step_append_ss rfl _ _ rfl _ hL3.low (vv) (V) rfl hL3.at2 (.slice (some ⟨u2.heap.size, 0, none⟩) 1 1) ([x.val]) rfl (hL3.at4.ss) (by simp; omega) ?_
       intro vv4 u4 ho hg hq
       have hL4 := hL3.grow2 _ _ ho hg hq
       clear ho hg hq
       refine hK.out _ _ (HC.out _ _ hL4) (fun hS => ?_)
       clear hK KK
       try simp only [Act.put, List.setIfInBounds_toArray, List.set_cons_zero, List.set_cons_succ]
       obtain ⟨a1, p1, e1, -, -⟩ := (show OwnS _ _ kv2 _ from hL4.at1).ss.form
       obtain ⟨a2, p2, e2, -, -⟩ := (show OwnS _ _ vv4 _ from hL4.at2).ss.form
       generalize List.length _ = m1 at e1
       generalize List.length _ = m2 at e2
       subst e1 e2
       have c0 := hS.1.1
       have f0 := (hL4.fix (bk, #[.slice ao n cap], 22) (by simp [RgF])).1.frozen 0
       refine wpAnyT_ready (rs := [10]) (by kernel_rfl) (by simp) ?_
       refine AllReadyT.last (o := ⟨none, _, _, _, _, _⟩) rfl (by kernel_rfl) (fun KK hK => ?_) (AllReadyT.nil)
       ·go_simp
        refine hK.out _ _ ?_
        clear hK KK
        try simp only [Act.put, List.setIfInBounds_toArray, List.set_cons_zero, List.set_cons_succ]
        have hv := ((hL4.fix (bv, #[vv], 22) (by simp [RgF])).1.other ⟨bk, 0, none⟩ (.slice a1 m1 p1) (Ne.symm HNE.out.1))
        have c1 : (World.setCell u4 ⟨bk, 0, none⟩ (.slice a1 m1 p1)).cell? ⟨bv, 0, none⟩ = some vv := by rw [hv.cell]; rfl
        have f1 := hv.frozen 0
        clear c0 f0 hv
        refine wpAnyT_ready (rs := [11]) (by kernel_rfl) (by simp) ?_
        refine AllReadyT.last (o := ⟨none, _, _, _, _, _⟩) rfl (by kernel_rfl) (fun KK hK => ?_) (AllReadyT.nil)
        ·go_simp
         refine hK.out _ _ ?_
         clear hK KK
         try simp only [Act.put, List.setIfInBounds_toArray, List.set_cons_zero, List.set_cons_succ]
         refine wpAnyT_done (by kernel_rfl) ?_ _
         have HFN := Lib.hid (RgAt.fin HR0.out hL4 HD.out HNE.out)
         clear c1 f1 hS hL0 hL1 hL2 hL3 hL4
         go_wp2_with fail
         go_ret
         exact ⟨rfl, _, _, HFN.out⟩
    ·have hL2 := hL1.text (x.val)
     go_simp
     generalize World.alloc u1 _ = u2 at hL2 ⊢
     refine hK.out _ _ (HC.out _ _ hL2) (fun hS => ?_)
     clear hK KK
     try simp only [Act.put, List.setIfInBounds_toArray, List.set_cons_zero, List.set_cons_succ]
     refine wpAnyT_ready (rs := [4]) (by kernel_rfl) (by simp) ?_
     refine AllReadyT.cons (o := ⟨some 25, _, _, _, _, _⟩) rfl (fun KK hK => ?_) (AllReadyT.nil)
     ·refine step_append_ss rfl _ _ rfl _ hL2.low (.slice ao n cap) (K) rfl hL2.at1 (.slice (some ⟨u0.heap.size, 0, none⟩) 1 1) ([x.key]) rfl (hL2.at3.ss) (by simp; omega) ?_
      intro kv3 u3 ho hg hq
      have hL3 := hL2.grow1 _ _ ho hg hq
      clear ho hg hq
      refine hK.out _ _ (HC.out _ _ hL3) (fun hS => ?_)
      clear hK KK
      try simp only [Act.put, List.setIfInBounds_toArray, List.set_cons_zero, List.set_cons_succ]
      refine wpAnyT_ready (rs := [9]) (by kernel_rfl) (by simp) ?_
      refine AllReadyT.cons (o := ⟨some 30, _, _, _, _, _⟩) rfl (fun KK hK => ?_) (AllReadyT.nil)
      ·refine step_append_ss rfl _ _ rfl _ hL3.low (vv) (V) rfl hL3.at2 (.slice (some ⟨u1.heap.size, 0, none⟩) 1 1) ([x.val]) rfl (hL3.at4.ss) (by simp; omega) ?_
       intro vv4 u4 ho hg hq
       have hL4 := hL3.grow2 _ _ ho hg hq
       clear ho hg hq
       refine hK.out _ _ (HC.out _ _ hL4) (fun hS => ?_)
       clear hK KK
       try simp only [Act.put, List.setIfInBounds_toArray, List.set_cons_zero, List.set_cons_succ]
       obtain ⟨a1, p1, e1, -, -⟩ := (show OwnS _ _ kv3 _ from hL4.at1).ss.form
       obtain ⟨a2, p2, e2, -, -⟩ := (show OwnS _ _ vv4 _ from hL4.at2).ss.form
       generalize List.length _ = m1 at e1
       generalize List.length _ = m2 at e2
       subst e1 e2
       have c0 := hS.1.1
       have f0 := (hL4.fix (bk, #[.slice ao n cap], 22) (by simp [RgF])).1.frozen 0
       refine wpAnyT_ready (rs := [10]) (by kernel_rfl) (by simp) ?_
       refine AllReadyT.last (o := ⟨none, _, _, _, _, _⟩) rfl (by kernel_rfl) (fun KK hK => ?_) (AllReadyT.nil)
       ·go_simp
        refine hK.out _ _ ?_
        clear hK KK
        try simp only [Act.put, List.setIfInBounds_toArray, List.set_cons_zero, List.set_cons_succ]
        have hv := ((hL4.fix (bv, #[vv], 22) (by simp [RgF])).1.other ⟨bk, 0, none⟩ (.slice a1 m1 p1) (Ne.symm HNE.out.1))
        have c1 : (World.setCell u4 ⟨bk, 0, none⟩ (.slice a1 m1 p1)).cell? ⟨bv, 0, none⟩ = some vv := by rw [hv.cell]; rfl
        have f1 := hv.frozen 0
        clear c0 f0 hv
        refine wpAnyT_ready (rs := [11]) (by kernel_rfl) (by simp) ?_
        refine AllReadyT.last (o := ⟨none, _, _, _, _, _⟩) rfl (by kernel_rfl) (fun KK hK => ?_) (AllReadyT.nil)
        ·go_simp
         refine hK.out _ _ ?_
         clear hK KK
         try simp only [Act.put, List.setIfInBounds_toArray, List.set_cons_zero, List.set_cons_succ]
         refine wpAnyT_done (by kernel_rfl) ?_ _
         have HFN := Lib.hid (RgAt.fin HR0.out hL4 HD.out HNE.out)
         clear c1 f1 hS hL0 hL1 hL2 hL3 hL4
         go_wp2_with fail
         go_ret
         exact ⟨rfl, _, _, HFN.out⟩
   ·have hL1 := hL0.text (x.val)
    go_simp
    generalize World.alloc u0 _ = u1 at hL1 ⊢
    refine hK.out _ _ (HC.out _ _ hL1) (fun hS => ?_)
    clear hK KK
    try simp only [Act.put, List.setIfInBounds_toArray, List.set_cons_zero, List.set_cons_succ]
    refine wpAnyT_ready (rs := [3]) (by kernel_rfl) (by simp) ?_
    refine AllReadyT.cons (o := ⟨some 24, _, _, _, _, _⟩) rfl (fun KK hK => ?_) (AllReadyT.nil)
    ·have hL2 := hL1.text (x.key)
     go_simp
     generalize World.alloc u1 _ = u2 at hL2 ⊢
     refine hK.out _ _ (HC.out _ _ hL2) (fun hS => ?_)
     clear hK KK
     try simp only [Act.put, List.setIfInBounds_toArray, List.set_cons_zero, List.set_cons_succ]
     refine wpAnyT_ready (rs := [4]) (by kernel_rfl) (by simp) ?_
     refine AllReadyT.cons (o := ⟨some 25, _, _, _, _, _⟩) rfl (fun KK hK => ?_) (AllReadyT.nil)
     ·refine step_append_ss rfl _ _ rfl _ hL2.low (.slice ao n cap) (K) rfl hL2.at1 (.slice (some ⟨u1.heap.size, 0, none⟩) 1 1) ([x.key]) rfl (hL2.at4.ss) (by simp; omega) ?_
      intro kv3 u3 ho hg hq
      have hL3 := hL2.grow1 _ _ ho hg hq
      clear ho hg hq
      refine hK.out _ _ (HC.out _ _ hL3) (fun hS => ?_)
      clear hK KK
      try simp only [Act.put, List.setIfInBounds_toArray, List.set_cons_zero, List.set_cons_succ]
      refine wpAnyT_ready (rs := [9]) (by kernel_rfl) (by simp) ?_
      refine AllReadyT.cons (o := ⟨some 30, _, _, _, _, _⟩) rfl (fun KK hK => ?_) (AllReadyT.nil)
      ·refine step_append_ss rfl _ _ rfl _ hL3.low (vv) (V) rfl hL3.at2 (.slice (some ⟨u0.heap.size, 0, none⟩) 1 1) ([x.val]) rfl (hL3.at3.ss) (by simp; omega) ?_
       intro vv4 u4 ho hg hq
       have hL4 := hL3.grow2 _ _ ho hg hq
       clear ho hg hq
       refine hK.out _ _ (HC.out _ _ hL4) (fun hS => ?_)
       clear hK KK
       try simp only [Act.put, List.setIfInBounds_toArray, List.set_cons_zero, List.set_cons_succ]
       obtain ⟨a1, p1, e1, -, -⟩ := (show OwnS _ _ kv3 _ from hL4.at1).ss.form
       obtain ⟨a2, p2, e2, -, -⟩ := (show OwnS _ _ vv4 _ from hL4.at2).ss.form
       generalize List.length _ = m1 at e1
       generalize List.length _ = m2 at e2
       subst e1 e2
       have c0 := hS.1.1
       have f0 := (hL4.fix (bk, #[.slice ao n cap], 22) (by simp [RgF])).1.frozen 0
       refine wpAnyT_ready (rs := [10]) (by kernel_rfl) (by simp) ?_
       refine AllReadyT.last (o := ⟨none, _, _, _, _, _⟩) rfl (by kernel_rfl) (fun KK hK => ?_) (AllReadyT.nil)
       ·go_simp
        refine hK.out _ _ ?_
        clear hK KK
        try simp only [Act.put, List.setIfInBounds_toArray, List.set_cons_zero, List.set_cons_succ]
        have hv := ((hL4.fix (bv, #[vv], 22) (by simp [RgF])).1.other ⟨bk, 0, none⟩ (.slice a1 m1 p1) (Ne.symm HNE.out.1))
        have c1 : (World.setCell u4 ⟨bk, 0, none⟩ (.slice a1 m1 p1)).cell? ⟨bv, 0, none⟩ = some vv := by rw [hv.cell]; rfl
        have f1 := hv.frozen 0
        clear c0 f0 hv
        refine wpAnyT_ready (rs := [11]) (by kernel_rfl) (by simp) ?_
        refine AllReadyT.last (o := ⟨none, _, _, _, _, _⟩) rfl (by kernel_rfl) (fun KK hK => ?_) (AllReadyT.nil)
        ·go_simp
         refine hK.out _ _ ?_
         clear hK KK
         try simp only [Act.put, List.setIfInBounds_toArray, List.set_cons_zero, List.set_cons_succ]
         refine wpAnyT_done (by kernel_rfl) ?_ _
         have HFN := Lib.hid (RgAt.fin HR0.out hL4 HD.out HNE.out)
         clear c1 f1 hS hL0 hL1 hL2 hL3 hL4
         go_wp2_with fail
         go_ret
         exact ⟨rfl, _, _, HFN.out⟩
 ·by_cases htb : to.toList = []
  ·go_enter Try.func30, Try.ntmps30
   go_wp2_with fail
   rw [← HW1.out.2, ← HW1.out.1]
   have hlk := HL.out.1
   have hlv := HL.out.2
   clear c0 c1 c2 c3 d0 d1
   ·skip
    refine wp_region_any (by kernel_rfl) ?_
    change wpAny _ _ _ _ _ _ _ (World.drew _)
    refine wpAny_of_T (C := fun (w' : World) => (w'.cell? ⟨bk, 0, none⟩ = some (.slice ao n cap) ∧ w'.cell? ⟨bv, 0, none⟩ = some vv) ∧ w'.cell? ⟨b0, 0, none⟩ = some (.string x.key) ∧ w'.cell? ⟨b0, 1, none⟩ = some (.string x.val)) (T := [10, 11]) _ _ _ _ ?_
    have hS : (fun (w' : World) => (w'.cell? ⟨bk, 0, none⟩ = some (.slice ao n cap) ∧ w'.cell? ⟨bv, 0, none⟩ = some vv) ∧ w'.cell? ⟨b0, 0, none⟩ = some (.string x.key) ∧ w'.cell? ⟨b0, 1, none⟩ = some (.string x.val)) _ := HC.out _ _ (Live.drew HR.out)
    have hL0 := Live.drew HR.out
    generalize World.drew w1 = u0 at hL0 hS ⊢
    try simp only [Act.put, List.setIfInBounds_toArray, List.set_cons_zero, List.set_cons_succ]
    refine wpAnyT_take (i := 0) (oi := ⟨some 21, _, _, _, _, _⟩) (v := ?_) rfl (by kernel_rfl) (by kernel_rfl) (by kernel_rfl) (by kernel_rfl) (fun _ _ _ h => h) (Or.inl ⟨by simp only [Region.wanted], ?_⟩) hS ?_
    rotate_left
    ·intro wz hSw
     (try dsimp only at hSw)
     (try go_split_ands)
     go_simp
     first | done | with_reducible rfl
    try simp only [Act.put, List.setIfInBounds_toArray, List.set_cons_zero, List.set_cons_succ]
    refine wpAnyT_take (i := 1) (oi := ⟨some 22, _, _, _, _, _⟩) (v := ?_) rfl (by kernel_rfl) (by kernel_rfl) (by kernel_rfl) (by kernel_rfl) (fun _ _ _ h => h) (Or.inl ⟨by simp only [Region.wanted], ?_⟩) hS ?_
    rotate_left
    ·intro wz hSw
     clear hSw
     go_simp
     first | done | with_reducible rfl
    try simp only [Act.put, List.setIfInBounds_toArray, List.set_cons_zero, List.set_cons_succ]
    refine wpAnyT_take (i := 2) (oi := ⟨some 23, _, _, _, _, _⟩) (v := ?_) rfl (by kernel_rfl) (by kernel_rfl) (by kernel_rfl) (by kernel_rfl) (fun _ _ _ h => h) (Or.inl ⟨by simp only [Region.wanted], ?_⟩) hS ?_
    rotate_left
    ·intro wz hSw
     (try dsimp only at hSw)
     (try go_split_ands)
     go_simp
     first | done | with_reducible rfl
    try simp only [Act.put, List.setIfInBounds_toArray, List.set_cons_zero, List.set_cons_succ]
    refine wpAnyT_take (i := 5) (oi := ⟨some 26, _, _, _, _, _⟩) (v := ?_) rfl (by kernel_rfl) (by kernel_rfl) (by kernel_rfl) (by kernel_rfl) (fun _ _ _ h => h) (Or.inl ⟨by simp only [Region.wanted], ?_⟩) hS ?_
    rotate_left
    ·intro wz hSw
     (try dsimp only at hSw)
     (try go_split_ands)
     go_simp
     first | done | with_reducible rfl
    try simp only [Act.put, List.setIfInBounds_toArray, List.set_cons_zero, List.set_cons_succ]
    refine wpAnyT_take (i := 6) (oi := ⟨some 27, _, _, _, _, _⟩) (v := ?_) rfl (by kernel_rfl) (by kernel_rfl) (by kernel_rfl) (by kernel_rfl) (fun _ _ _ h => h) (Or.inl ⟨by simp only [Region.wanted], ?_⟩) hS ?_
    rotate_left
    ·intro wz hSw
     clear hSw
     go_simp
     first | done | with_reducible rfl
    try simp only [Act.put, List.setIfInBounds_toArray, List.set_cons_zero, List.set_cons_succ]
    refine wpAnyT_take (i := 7) (oi := ⟨some 28, _, _, _, _, _⟩) (v := ?_) rfl (by kernel_rfl) (by kernel_rfl) (by kernel_rfl) (by kernel_rfl) (fun _ _ _ h => h) (Or.inl ⟨by simp only [Region.wanted], ?_⟩) hS ?_
    rotate_left
    ·intro wz hSw
     (try dsimp only at hSw)
     (try go_split_ands)
     go_simp
     first | done | with_reducible rfl
    try simp only [Act.put, List.setIfInBounds_toArray, List.set_cons_zero, List.set_cons_succ]
    refine wpAnyT_ready (rs := [3, 8]) (by kernel_rfl) (by simp) ?_
    refine AllReadyT.cons (o := ⟨some 24, _, _, _, _, _⟩) rfl (fun KK hK => ?_) (AllReadyT.cons (o := ⟨some 29, _, _, _, _, _⟩) rfl (fun KK hK => ?_) (AllReadyT.nil))
    ·have hL1 := hL0.text (x.key)
     go_simp
     generalize World.alloc u0 _ = u1 at hL1 ⊢
     refine hK.out _ _ (HC.out _ _ hL1) (fun hS => ?_)
     clear hK KK
     try simp only [Act.put, List.setIfInBounds_toArray, List.set_cons_zero, List.set_cons_succ]
     refine wpAnyT_ready (rs := [4, 8]) (by kernel_rfl) (by simp) ?_
     refine AllReadyT.cons (o := ⟨some 25, _, _, _, _, _⟩) rfl (fun KK hK => ?_) (AllReadyT.cons (o := ⟨some 29, _, _, _, _, _⟩) rfl (fun KK hK => ?_) (AllReadyT.nil))
     ·refine step_append_ss rfl _ _ rfl _ hL1.low (.slice ao n cap) (K) rfl hL1.at1 (.slice (some ⟨u0.heap.size, 0, none⟩) 1 1) ([x.key]) rfl (hL1.at3.ss) (by simp; omega) ?_
      intro kv2 u2 ho hg hq
      have hL2 := hL1.grow1 _ _ ho hg hq
      clear ho hg hq
      refine hK.out _ _ (HC.out _ _ hL2) (fun hS => ?_)
      clear hK KK
      try simp only [Act.put, List.setIfInBounds_toArray, List.set_cons_zero, List.set_cons_succ]
      refine wpAnyT_ready (rs := [8]) (by kernel_rfl) (by simp) ?_
      refine AllReadyT.cons (o := ⟨some 29, _, _, _, _, _⟩) rfl (fun KK hK => ?_) (AllReadyT.nil)
      ·have hL3 := hL2.text (x.val)
       go_simp
       generalize World.alloc u2 _ = u3 at hL3 ⊢
       refine hK.out _ _ (HC.out _ _ hL3) (fun hS => ?_)
       clear hK KK
       try simp only [Act.put, List.setIfInBounds_toArray, List.set_cons_zero, List.set_cons_succ]
       refine wpAnyT_ready (rs := [9]) (by kernel_rfl) (by simp) ?_
       refine AllReadyT.cons (o := ⟨some 30, _, _, _, _, _⟩) rfl (fun KK hK => ?_) (AllReadyT.nil)
       ·refine step_append_ss rfl _ _ rfl _ hL3.low (vv) (V) rfl hL3.at2 (.slice (some ⟨u2.heap.size, 0, none⟩) 1 1) ([x.val]) rfl (hL3.at4.ss) (by simp; omega) ?_
        intro vv4 u4 ho hg hq
        have hL4 := hL3.grow2 _ _ ho hg hq
        clear ho hg hq
        refine hK.out _ _ (HC.out _ _ hL4) (fun hS => ?_)
        clear hK KK
        try simp only [Act.put, List.setIfInBounds_toArray, List.set_cons_zero, List.set_cons_succ]
        obtain ⟨a1, p1, e1, -, -⟩ := (show OwnS _ _ kv2 _ from hL4.at1).ss.form
        obtain ⟨a2, p2, e2, -, -⟩ := (show OwnS _ _ vv4 _ from hL4.at2).ss.form
        generalize List.length _ = m1 at e1
        generalize List.length _ = m2 at e2
        subst e1 e2
        have c0 := hS.1.1
        have f0 := (hL4.fix (bk, #[.slice ao n cap], 22) (by simp [RgF])).1.frozen 0
        refine wpAnyT_ready (rs := [10]) (by kernel_rfl) (by simp) ?_
        refine AllReadyT.last (o := ⟨none, _, _, _, _, _⟩) rfl (by kernel_rfl) (fun KK hK => ?_) (AllReadyT.nil)
        ·go_simp
         refine hK.out _ _ ?_
         clear hK KK
         try simp only [Act.put, List.setIfInBounds_toArray, List.set_cons_zero, List.set_cons_succ]
         have hv := ((hL4.fix (bv, #[vv], 22) (by simp [RgF])).1.other ⟨bk, 0, none⟩ (.slice a1 m1 p1) (Ne.symm HNE.out.1))
         have c1 : (World.setCell u4 ⟨bk, 0, none⟩ (.slice a1 m1 p1)).cell? ⟨bv, 0, none⟩ = some vv := by rw [hv.cell]; rfl
         have f1 := hv.frozen 0
         clear c0 f0 hv
         refine wpAnyT_ready (rs := [11]) (by kernel_rfl) (by simp) ?_
         refine AllReadyT.last (o := ⟨none, _, _, _, _, _⟩) rfl (by kernel_rfl) (fun KK hK => ?_) (AllReadyT.nil)
         ·go_simp
          refine hK.out _ _ ?_
          clear hK KK
          try simp only [Act.put, List.setIfInBounds_toArray, List.set_cons_zero, List.set_cons_succ]
          refine wpAnyT_done (by kernel_rfl) ?_ _
          have HFN := Lib.hid (RgAt.fin HR0.out hL4 HD.out HNE.out)
          clear c1 f1 hS hL0 hL1 hL2 hL3 hL4
          go_wp2_with fail
          go_ret
          exact ⟨rfl, _, _, HFN.out⟩
     ·have hL2 := hL1.text (x.val)
      go_simp
      generalize World.alloc u1 _ = u2 at hL2 ⊢
      refine hK.out _ _ (HC.out _ _ hL2) (fun hS => ?_)
      clear hK KK
      try simp only [Act.put, List.setIfInBounds_toArray, List.set_cons_zero, List.set_cons_succ]
      refine wpAnyT_ready (rs := [4]) (by kernel_rfl) (by simp) ?_
      refine AllReadyT.cons (o := ⟨some 25, _, _, _, _, _⟩) rfl (fun KK hK => ?_) (AllReadyT.nil)
      ·refine step_append_ss rfl _ _ rfl _ hL2.low (.slice ao n cap) (K) rfl hL2.at1 (.slice (some ⟨u0.heap.size, 0, none⟩) 1 1) ([x.key]) rfl (hL2.at3.ss) (by simp; omega) ?_
       intro kv3 u3 ho hg hq
       have hL3 := hL2.grow1 _ _ ho hg hq
       clear ho hg hq
       refine hK.out _ _ (HC.out _ _ hL3) (fun hS => ?_)
       clear hK KK
       try simp only [Act.put, List.setIfInBounds_toArray, List.set_cons_zero, List.set_cons_succ]
       refine wpAnyT_ready (rs := [9]) (by kernel_rfl) (by simp) ?_
       refine AllReadyT.cons (o := ⟨some 30, _, _, _, _, _⟩) rfl (fun KK hK => ?_) (AllReadyT.nil)
       ·refine step_append_ss rfl _ _ rfl _ hL3.low (vv) (V) rfl hL3.at2 (.slice (some ⟨u1.heap.size, 0, none⟩) 1 1) ([x.val]) rfl (hL3.at4.ss) (by simp; omega) ?_
        intro vv4 u4 ho hg hq
        have hL4 := hL3.grow2 _ _ ho hg hq
        clear ho hg hq
        refine hK.out _ _ (HC.out _ _ hL4) (fun hS => ?_)
        clear hK KK
        try simp only [Act.put, List.setIfInBounds_toArray, List.set_cons_zero, List.set_cons_succ]
        obtain ⟨a1, p1, e1, -, -⟩ := (show OwnS _ _ kv3 _ from hL4.at1).ss.form
        obtain ⟨a2, p2, e2, -, -⟩ := (show OwnS _ _ vv4 _ from hL4.at2).ss.form
        generalize List.length _ = m1 at e1
        generalize List.length _ = m2 at e2
        subst e1 e2
        have c0 := hS.1.1
        have f0 := (hL4.fix (bk, #[.slice ao n cap], 22) (by simp [RgF])).1.frozen 0
        refine wpAnyT_ready (rs := [10]) (by kernel_rfl) (by simp) ?_
        refine AllReadyT.last (o := ⟨none, _, _, _, _, _⟩) rfl (by kernel_rfl) (fun KK hK => ?_) (AllReadyT.nil)
        ·go_simp
         refine hK.out _ _ ?_
         clear hK KK
         try simp only [Act.put, List.setIfInBounds_toArray, List.set_cons_zero, List.set_cons_succ]
         have hv := ((hL4.fix (bv, #[vv], 22) (by simp [RgF])).1.other ⟨bk, 0, none⟩ (.slice a1 m1 p1) (Ne.symm HNE.out.1))
         have c1 : (World.setCell u4 ⟨bk, 0, none⟩ (.slice a1 m1 p1)).cell? ⟨bv, 0, none⟩ = some vv := by rw [hv.cell]; rfl
         have f1 := hv.frozen 0
         clear c0 f0 hv
         refine wpAnyT_ready (rs := [11]) (by kernel_rfl) (by simp) ?_
         refine AllReadyT.last (o := ⟨none, _, _, _, _, _⟩) rfl (by kernel_rfl) (fun KK hK => ?_) (AllReadyT.nil)
         ·go_simp
          refine hK.out _ _ ?_
          clear hK KK
          try simp only [Act.put, List.setIfInBounds_toArray, List.set_cons_zero, List.set_cons_succ]
          refine wpAnyT_done (by kernel_rfl) ?_ _
          have HFN := Lib.hid (RgAt.fin HR0.out hL4 HD.out HNE.out)
          clear c1 f1 hS hL0 hL1 hL2 hL3 hL4
          go_wp2_with fail
          go_ret
          exact ⟨rfl, _, _, HFN.out⟩
    ·have hL1 := hL0.text (x.val)
     go_simp
     generalize World.alloc u0 _ = u1 at hL1 ⊢
     refine hK.out _ _ (HC.out _ _ hL1) (fun hS => ?_)
     clear hK KK
     try simp only [Act.put, List.setIfInBounds_toArray, List.set_cons_zero, List.set_cons_succ]
     refine wpAnyT_ready (rs := [3]) (by kernel_rfl) (by simp) ?_
     refine AllReadyT.cons (o := ⟨some 24, _, _, _, _, _⟩) rfl (fun KK hK => ?_) (AllReadyT.nil)
     ·have hL2 := hL1.text (x.key)
      go_simp
      generalize World.alloc u1 _ = u2 at hL2 ⊢
      refine hK.out _ _ (HC.out _ _ hL2) (fun hS => ?_)
      clear hK KK
      try simp only [Act.put, List.setIfInBounds_toArray, List.set_cons_zero, List.set_cons_succ]
      refine wpAnyT_ready (rs := [4]) (by kernel_rfl) (by simp) ?_
      refine AllReadyT.cons (o := ⟨some 25, _, _, _, _, _⟩) rfl (fun KK hK => ?_) (AllReadyT.nil)
      ·refine step_append_ss rfl _ _ rfl _ hL2.low (.slice ao n cap) (K) rfl hL2.at1 (.slice (some ⟨u1.heap.size, 0, none⟩) 1 1) ([x.key]) rfl (hL2.at4.ss) (by simp; omega) ?_
       intro kv3 u3 ho hg hq
       have hL3 := hL2.grow1 _ _ ho hg hq
       clear ho hg hq
       refine hK.out _ _ (HC.out _ _ hL3) (fun hS => ?_)
       clear hK KK
       try simp only [Act.put, List.setIfInBounds_toArray, List.set_cons_zero, List.set_cons_succ]
       refine wpAnyT_ready (rs := [9]) (by kernel_rfl) (by simp) ?_
       refine AllReadyT.cons (o := ⟨some 30, _, _, _, _, _⟩) rfl (fun KK hK => ?_) (AllReadyT.nil)
       ·refine step_append_ss rfl _ _ rfl _ hL3.low (vv) (V) rfl hL3.at2 (.slice (some ⟨u0.heap.size, 0, none⟩) 1 1) ([x.val]) rfl (hL3.at3.ss) (by simp; omega) ?_
        intro vv4 u4 ho hg hq
        have hL4 := hL3.grow2 _ _ ho hg hq
        clear ho hg hq
        refine hK.out _ _ (HC.out _ _ hL4) (fun hS => ?_)
        clear hK KK
        try simp only [Act.put, List.setIfInBounds_toArray, List.set_cons_zero, List.set_cons_succ]
        obtain ⟨a1, p1, e1, -, -⟩ := (show OwnS _ _ kv3 _ from hL4.at1).ss.form
        obtain ⟨a2, p2, e2, -, -⟩ := (show OwnS _ _ vv4 _ from hL4.at2).ss.form
        generalize List.length _ = m1 at e1
        generalize List.length _ = m2 at e2
        subst e1 e2
        have c0 := hS.1.1
        have f0 := (hL4.fix (bk, #[.slice ao n cap], 22) (by simp [RgF])).1.frozen 0
        refine wpAnyT_ready (rs := [10]) (by kernel_rfl) (by simp) ?_
        refine AllReadyT.last (o := ⟨none, _, _, _, _, _⟩) rfl (by kernel_rfl) (fun KK hK => ?_) (AllReadyT.nil)
        ·go_simp
         refine hK.out _ _ ?_
         clear hK KK
         try simp only [Act.put, List.setIfInBounds_toArray, List.set_cons_zero, List.set_cons_succ]
         have hv := ((hL4.fix (bv, #[vv], 22) (by simp [RgF])).1.other ⟨bk, 0, none⟩ (.slice a1 m1 p1) (Ne.symm HNE.out.1))
         have c1 : (World.setCell u4 ⟨bk, 0, none⟩ (.slice a1 m1 p1)).cell? ⟨bv, 0, none⟩ = some vv := by rw [hv.cell]; rfl
         have f1 := hv.frozen 0
         clear c0 f0 hv
         refine wpAnyT_ready (rs := [11]) (by kernel_rfl) (by simp) ?_
         refine AllReadyT.last (o := ⟨none, _, _, _, _, _⟩) rfl (by kernel_rfl) (fun KK hK => ?_) (AllReadyT.nil)
         ·go_simp
          refine hK.out _ _ ?_
          clear hK KK
          try simp only [Act.put, List.setIfInBounds_toArray, List.set_cons_zero, List.set_cons_succ]
          refine wpAnyT_done (by kernel_rfl) ?_ _
          have HFN := Lib.hid (RgAt.fin HR0.out hL4 HD.out HNE.out)
          clear c1 f1 hS hL0 hL1 hL2 hL3 hL4
          go_wp2_with fail
          go_ret
          exact ⟨rfl, _, _, HFN.out⟩
  ·go_enter Try.func30, Try.ntmps30
   go_wp2_with fail
   rw [← HW1.out.2, ← HW1.out.1]
   have hlk := HL.out.1
   have hlv := HL.out.2
   clear c0 c1 c2 c3 d0 d1
   ·skip
    refine wp_region_any (by kernel_rfl) ?_
    change wpAny _ _ _ _ _ _ _ (World.drew _)
    refine wpAny_of_T (C := fun (w' : World) => (w'.cell? ⟨bk, 0, none⟩ = some (.slice ao n cap) ∧ w'.cell? ⟨bv, 0, none⟩ = some vv) ∧ w'.cell? ⟨b0, 0, none⟩ = some (.string x.key) ∧ w'.cell? ⟨b0, 1, none⟩ = some (.string x.val)) (T := [10, 11]) _ _ _ _ ?_
    have hS : (fun (w' : World) => (w'.cell? ⟨bk, 0, none⟩ = some (.slice ao n cap) ∧ w'.cell? ⟨bv, 0, none⟩ = some vv) ∧ w'.cell? ⟨b0, 0, none⟩ = some (.string x.key) ∧ w'.cell? ⟨b0, 1, none⟩ = some (.string x.val)) _ := HC.out _ _ (Live.drew HR.out)
    have hL0 := Live.drew HR.out
    generalize World.drew w1 = u0 at hL0 hS ⊢
    try simp only [Act.put, List.setIfInBounds_toArray, List.set_cons_zero, List.set_cons_succ]
    refine wpAnyT_take (i := 0) (oi := ⟨some 21, _, _, _, _, _⟩) (v := ?_) rfl (by kernel_rfl) (by kernel_rfl) (by kernel_rfl) (by kernel_rfl) (fun _ _ _ h => h) (Or.inl ⟨by simp only [Region.wanted], ?_⟩) hS ?_
    rotate_left
    ·intro wz hSw
     (try dsimp only at hSw)
     (try go_split_ands)
     go_simp
     first | done | with_reducible rfl
    try simp only [Act.put, List.setIfInBounds_toArray, List.set_cons_zero, List.set_cons_succ]
    refine wpAnyT_take (i := 1) (oi := ⟨some 22, _, _, _, _, _⟩) (v := ?_) rfl (by kernel_rfl) (by kernel_rfl) (by kernel_rfl) (by kernel_rfl) (fun _ _ _ h => h) (Or.inl ⟨by simp only [Region.wanted], ?_⟩) hS ?_
    rotate_left
    ·intro wz hSw
     clear hSw
     go_simp
     first | done | with_reducible rfl
    try simp only [Act.put, List.setIfInBounds_toArray, List.set_cons_zero, List.set_cons_succ]
    refine wpAnyT_take (i := 2) (oi := ⟨some 23, _, _, _, _, _⟩) (v := ?_) rfl (by kernel_rfl) (by kernel_rfl) (by kernel_rfl) (by kernel_rfl) (fun _ _ _ h => h) (Or.inl ⟨by simp only [Region.wanted], ?_⟩) hS ?_
    rotate_left
    ·intro wz hSw
     (try dsimp only at hSw)
     (try go_split_ands)
     go_simp
     first | done | with_reducible rfl
    try simp only [Act.put, List.setIfInBounds_toArray, List.set_cons_zero, List.set_cons_succ]
    refine wpAnyT_take (i := 5) (oi := ⟨some 26, _, _, _, _, _⟩) (v := ?_) rfl (by kernel_rfl) (by kernel_rfl) (by kernel_rfl) (by kernel_rfl) (fun _ _ _ h => h) (Or.inl ⟨by simp only [Region.wanted], ?_⟩) hS ?_
    rotate_left
    ·intro wz hSw
     (try dsimp only at hSw)
     (try go_split_ands)
     go_simp
     first | done | with_reducible rfl
    try simp only [Act.put, List.setIfInBounds_toArray, List.set_cons_zero, List.set_cons_succ]
    refine wpAnyT_take (i := 6) (oi := ⟨some 27, _, _, _, _, _⟩) (v := ?_) rfl (by kernel_rfl) (by kernel_rfl) (by kernel_rfl) (by kernel_rfl) (fun _ _ _ h => h) (Or.inl ⟨by simp only [Region.wanted], ?_⟩) hS ?_
    rotate_left
    ·intro wz hSw
     clear hSw
     go_simp
     first | done | with_reducible rfl
    try simp only [Act.put, List.setIfInBounds_toArray, List.set_cons_zero, List.set_cons_succ]
    refine wpAnyT_take (i := 7) (oi := ⟨some 28, _, _, _, _, _⟩) (v := ?_) rfl (by kernel_rfl) (by kernel_rfl) (by kernel_rfl) (by kernel_rfl) (fun _ _ _ h => h) (Or.inl ⟨by simp only [Region.wanted], ?_⟩) hS ?_
    rotate_left
    ·intro wz hSw
     (try dsimp only at hSw)
     (try go_split_ands)
     go_simp
     first | done | with_reducible rfl
    try simp only [Act.put, List.setIfInBounds_toArray, List.set_cons_zero, List.set_cons_succ]
    refine wpAnyT_ready (rs := [3, 8]) (by kernel_rfl) (by simp) ?_
    refine AllReadyT.cons (o := ⟨some 24, _, _, _, _, _⟩) rfl (fun KK hK => ?_) (AllReadyT.cons (o := ⟨some 29, _, _, _, _, _⟩) rfl (fun KK hK => ?_) (AllReadyT.nil))
    ·have hL1 := hL0.text (x.key)
     go_simp
     generalize World.alloc u0 _ = u1 at hL1 ⊢
     refine hK.out _ _ (HC.out _ _ hL1) (fun hS => ?_)
     clear hK KK
     try simp only [Act.put, List.setIfInBounds_toArray, List.set_cons_zero, List.set_cons_succ]
     refine wpAnyT_ready (rs := [4, 8]) (by kernel_rfl) (by simp) ?_
     refine AllReadyT.cons (o := ⟨some 25, _, _, _, _, _⟩) rfl (fun KK hK => ?_) (AllReadyT.cons (o := ⟨some 29, _, _, _, _, _⟩) rfl (fun KK hK => ?_) (AllReadyT.nil))
     ·refine step_append_ss rfl _ _ rfl _ hL1.low (.slice ao n cap) (K) rfl hL1.at1 (.slice (some ⟨u0.heap.size, 0, none⟩) 1 1) ([x.key]) rfl (hL1.at3.ss) (by simp; omega) ?_
      intro kv2 u2 ho hg hq
      have hL2 := hL1.grow1 _ _ ho hg hq
      clear ho hg hq
      refine hK.out _ _ (HC.out _ _ hL2) (fun hS => ?_)
      clear hK KK
      try simp only [Act.put, List.setIfInBounds_toArray, List.set_cons_zero, List.set_cons_succ]
      refine wpAnyT_ready (rs := [8]) (by kernel_rfl) (by simp) ?_
      refine AllReadyT.cons (o := ⟨some 29, _, _, _, _, _⟩) rfl (fun KK hK => ?_) (AllReadyT.nil)
      ·have hL3 := hL2.text (x.val)
       go_simp
       generalize World.alloc u2 _ = u3 at hL3 ⊢
       refine hK.out _ _ (HC.out _ _ hL3) (fun hS => ?_)
       clear hK KK
       try simp only [Act.put, List.setIfInBounds_toArray, List.set_cons_zero, List.set_cons_succ]
       refine wpAnyT_ready (rs := [9]) (by kernel_rfl) (by simp) ?_
       refine AllReadyT.cons (o := ⟨some 30, _, _, _, _, _⟩) rfl (fun KK hK => ?_) (AllReadyT.nil)
       ·refine step_append_ss rfl _ _ rfl _ hL3.low (vv) (V) rfl hL3.at2 (.slice (some ⟨u2.heap.size, 0, none⟩) 1 1) ([x.val]) rfl (hL3.at4.ss) (by simp; omega) ?_
        intro vv4 u4 ho hg hq
        have hL4 := hL3.grow2 _ _ ho hg hq
        clear ho hg hq
        refine hK.out _ _ (HC.out _ _ hL4) (fun hS => ?_)
        clear hK KK
        try simp only [Act.put, List.setIfInBounds_toArray, List.set_cons_zero, List.set_cons_succ]
        obtain ⟨a1, p1, e1, -, -⟩ := (show OwnS _ _ kv2 _ from hL4.at1).ss.form
        obtain ⟨a2, p2, e2, -, -⟩ := (show OwnS _ _ vv4 _ from hL4.at2).ss.form
        generalize List.length _ = m1 at e1
        generalize List.length _ = m2 at e2
        subst e1 e2
        have c0 := hS.1.1
        have f0 := (hL4.fix (bk, #[.slice ao n cap], 22) (by simp [RgF])).1.frozen 0
        refine wpAnyT_ready (rs := [10]) (by kernel_rfl) (by simp) ?_
        refine AllReadyT.last (o := ⟨none, _, _, _, _, _⟩) rfl (by kernel_rfl) (fun KK hK => ?_) (AllReadyT.nil)
        ·go_simp
         refine hK.out _ _ ?_
         clear hK KK
         try simp only [Act.put, List.setIfInBounds_toArray, List.set_cons_zero, List.set_cons_succ]
         have hv := ((hL4.fix (bv, #[vv], 22) (by simp [RgF])).1.other ⟨bk, 0, none⟩ (.slice a1 m1 p1) (Ne.symm HNE.out.1))
         have c1 : (World.setCell u4 ⟨bk, 0, none⟩ (.slice a1 m1 p1)).cell? ⟨bv, 0, none⟩ = some vv := by rw [hv.cell]; rfl
         have f1 := hv.frozen 0
         clear c0 f0 hv
         refine wpAnyT_ready (rs := [11]) (by kernel_rfl) (by simp) ?_
         refine AllReadyT.last (o := ⟨none, _, _, _, _, _⟩) rfl (by kernel_rfl) (fun KK hK => ?_) (AllReadyT.nil)
         ·go_simp
          refine hK.out _ _ ?_
          clear hK KK
          try simp only [Act.put, List.setIfInBounds_toArray, List.set_cons_zero, List.set_cons_succ]
          refine wpAnyT_done (by kernel_rfl) ?_ _
          have HFN := Lib.hid (RgAt.fin HR0.out hL4 HD.out HNE.out)
          clear c1 f1 hS hL0 hL1 hL2 hL3 hL4
          go_wp2_with fail
          go_ret
          exact ⟨rfl, _, _, HFN.out⟩
     ·have hL2 := hL1.text (x.val)
      go_simp
      generalize World.alloc u1 _ = u2 at hL2 ⊢
      refine hK.out _ _ (HC.out _ _ hL2) (fun hS => ?_)
      clear hK KK
      try simp only [Act.put, List.setIfInBounds_toArray, List.set_cons_zero, List.set_cons_succ]
      refine wpAnyT_ready (rs := [4]) (by kernel_rfl) (by simp) ?_
      refine AllReadyT.cons (o := ⟨some 25, _, _, _, _, _⟩) rfl (fun KK hK => ?_) (AllReadyT.nil)
      ·refine step_append_ss rfl _ _ rfl _ hL2.low (.slice ao n cap) (K) rfl hL2.at1 (.slice (some ⟨u0.heap.size, 0, none⟩) 1 1) ([x.key]) rfl (hL2.at3.ss) (by simp; omega) ?_
       intro kv3 u3 ho hg hq
       have hL3 := hL2.grow1 _ _ ho hg hq
       clear ho hg hq
       refine hK.out _ _ (HC.out _ _ hL3) (fun hS => ?_)
       clear hK KK
       try simp only [Act.put, List.setIfInBounds_toArray, List.set_cons_zero, List.set_cons_succ]
       refine wpAnyT_ready (rs := [9]) (by kernel_rfl) (by simp) ?_
       refine AllReadyT.cons (o := ⟨some 30, _, _, _, _, _⟩) rfl (fun KK hK => ?_) (AllReadyT.nil)
       ·refine step_append_ss rfl _ _ rfl _ hL3.low (vv) (V) rfl hL3.at2 (.slice (some ⟨u1.heap.size, 0, none⟩) 1 1) ([x.val]) rfl (hL3.at4.ss) (by simp; omega) ?_
        intro vv4 u4 ho hg hq
        have hL4 := hL3.grow2 _ _ ho hg hq
        clear ho hg hq
        refine hK.out _ _ (HC.out _ _ hL4) (fun hS => ?_)
        clear hK KK
        try simp only [Act.put, List.setIfInBounds_toArray, List.set_cons_zero, List.set_cons_succ]
        obtain ⟨a1, p1, e1, -, -⟩ := (show OwnS _ _ kv3 _ from hL4.at1).ss.form
        obtain ⟨a2, p2, e2, -, -⟩ := (show OwnS _ _ vv4 _ from hL4.at2).ss.form
        generalize List.length _ = m1 at e1
        generalize List.length _ = m2 at e2
        subst e1 e2
        have c0 := hS.1.1
        have f0 := (hL4.fix (bk, #[.slice ao n cap], 22) (by simp [RgF])).1.frozen 0
        refine wpAnyT_ready (rs := [10]) (by kernel_rfl) (by simp) ?_
        refine AllReadyT.last (o := ⟨none, _, _, _, _, _⟩) rfl (by kernel_rfl) (fun KK hK => ?_) (AllReadyT.nil)
        ·go_simp
         refine hK.out _ _ ?_
         clear hK KK
         try simp only [Act.put, List.setIfInBounds_toArray, List.set_cons_zero, List.set_cons_succ]
         have hv := ((hL4.fix (bv, #[vv], 22) (by simp [RgF])).1.other ⟨bk, 0, none⟩ (.slice a1 m1 p1) (Ne.symm HNE.out.1))
         have c1 : (World.setCell u4 ⟨bk, 0, none⟩ (.slice a1 m1 p1)).cell? ⟨bv, 0, none⟩ = some vv := by rw [hv.cell]; rfl
         have f1 := hv.frozen 0
         clear c0 f0 hv
         refine wpAnyT_ready (rs := [11]) (by kernel_rfl) (by simp) ?_
         refine AllReadyT.last (o := ⟨none, _, _, _, _, _⟩) rfl (by kernel_rfl) (fun KK hK => ?_) (AllReadyT.nil)
         ·go_simp
          refine hK.out _ _ ?_
          clear hK KK
          try simp only [Act.put, List.setIfInBounds_toArray, List.set_cons_zero, List.set_cons_succ]
          refine wpAnyT_done (by kernel_rfl) ?_ _
          have HFN := Lib.hid (RgAt.fin HR0.out hL4 HD.out HNE.out)
          clear c1 f1 hS hL0 hL1 hL2 hL3 hL4
          go_wp2_with fail
          go_ret
          exact ⟨rfl, _, _, HFN.out⟩
    ·have hL1 := hL0.text (x.val)
     go_simp
     generalize World.alloc u0 _ = u1 at hL1 ⊢
     refine hK.out _ _ (HC.out _ _ hL1) (fun hS => ?_)
     clear hK KK
     try simp only [Act.put, List.setIfInBounds_toArray, List.set_cons_zero, List.set_cons_succ]
     refine wpAnyT_ready (rs := [3]) (by kernel_rfl) (by simp) ?_
     refine AllReadyT.cons (o := ⟨some 24, _, _, _, _, _⟩) rfl (fun KK hK => ?_) (AllReadyT.nil)
     ·have hL2 := hL1.text (x.key)
      go_simp
      generalize World.alloc u1 _ = u2 at hL2 ⊢
      refine hK.out _ _ (HC.out _ _ hL2) (fun hS => ?_)
      clear hK KK
      try simp only [Act.put, List.setIfInBounds_toArray, List.set_cons_zero, List.set_cons_succ]
      refine wpAnyT_ready (rs := [4]) (by kernel_rfl) (by simp) ?_
      refine AllReadyT.cons (o := ⟨some 25, _, _, _, _, _⟩) rfl (fun KK hK => ?_) (AllReadyT.nil)
      ·refine step_append_ss rfl _ _ rfl _ hL2.low (.slice ao n cap) (K) rfl hL2.at1 (.slice (some ⟨u1.heap.size, 0, none⟩) 1 1) ([x.key]) rfl (hL2.at4.ss) (by simp; omega) ?_
       intro kv3 u3 ho hg hq
       have hL3 := hL2.grow1 _ _ ho hg hq
       clear ho hg hq
       refine hK.out _ _ (HC.out _ _ hL3) (fun hS => ?_)
       clear hK KK
       try simp only [Act.put, List.setIfInBounds_toArray, List.set_cons_zero, List.set_cons_succ]
       refine wpAnyT_ready (rs := [9]) (by kernel_rfl) (by simp) ?_
       refine AllReadyT.cons (o := ⟨some 30, _, _, _, _, _⟩) rfl (fun KK hK => ?_) (AllReadyT.nil)
       ·refine step_append_ss rfl _ _ rfl _ hL3.low (vv) (V) rfl hL3.at2 (.slice (some ⟨u0.heap.size, 0, none⟩) 1 1) ([x.val]) rfl (hL3.at3.ss) (by simp; omega) ?_
        intro vv4 u4 ho hg hq
        have hL4 := hL3.grow2 _ _ ho hg hq
        clear ho hg hq
        refine hK.out _ _ (HC.out _ _ hL4) (fun hS => ?_)
        clear hK KK
        try simp only [Act.put, List.setIfInBounds_toArray, List.set_cons_zero, List.set_cons_succ]
        obtain ⟨a1, p1, e1, -, -⟩ := (show OwnS _ _ kv3 _ from hL4.at1).ss.form
        obtain ⟨a2, p2, e2, -, -⟩ := (show OwnS _ _ vv4 _ from hL4.at2).ss.form
        generalize List.length _ = m1 at e1
        generalize List.length _ = m2 at e2
        subst e1 e2
        have c0 := hS.1.1
        have f0 := (hL4.fix (bk, #[.slice ao n cap], 22) (by simp [RgF])).1.frozen 0
        refine wpAnyT_ready (rs := [10]) (by kernel_rfl) (by simp) ?_
        refine AllReadyT.last (o := ⟨none, _, _, _, _, _⟩) rfl (by kernel_rfl) (fun KK hK => ?_) (AllReadyT.nil)
        ·go_simp
         refine hK.out _ _ ?_
         clear hK KK
         try simp only [Act.put, List.setIfInBounds_toArray, List.set_cons_zero, List.set_cons_succ]
         have hv := ((hL4.fix (bv, #[vv], 22) (by simp [RgF])).1.other ⟨bk, 0, none⟩ (.slice a1 m1 p1) (Ne.symm HNE.out.1))
         have c1 : (World.setCell u4 ⟨bk, 0, none⟩ (.slice a1 m1 p1)).cell? ⟨bv, 0, none⟩ = some vv := by rw [hv.cell]; rfl
         have f1 := hv.frozen 0
         clear c0 f0 hv
         refine wpAnyT_ready (rs := [11]) (by kernel_rfl) (by simp) ?_
         refine AllReadyT.last (o := ⟨none, _, _, _, _, _⟩) rfl (by kernel_rfl) (fun KK hK => ?_) (AllReadyT.nil)
         ·go_simp
          refine hK.out _ _ ?_
          clear hK KK
          try simp only [Act.put, List.setIfInBounds_toArray, List.set_cons_zero, List.set_cons_succ]
          refine wpAnyT_done (by kernel_rfl) ?_ _
          have HFN := Lib.hid (RgAt.fin HR0.out hL4 HD.out HNE.out)
          clear c1 f1 hS hL0 hL1 hL2 hL3 hL4
          go_wp2_with fail
          go_ret
          exact ⟨rfl, _, _, HFN.out⟩
end Go.Proofs.Ytpfjbcfnpfgidaa
