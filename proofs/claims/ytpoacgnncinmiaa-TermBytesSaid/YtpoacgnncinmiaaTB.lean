/- Terms: TermBytes. -/
import Derived.Test.YtpoacgnncinmiaaTl
import Derived.Test.YtpoacgnncinmiaaTA
import Derived.Test.YtpoacgnncinmiaaTh
import Derived.Test.YtpoacgnncinmiaaTm
import Derived.Deep.CutBlock
import Derived.Deep.DeepCutAuto
namespace Go.Proofs.Ytpoacgnncinmiaa
open Go.RowKit
set_option maxRecDepth 100000
set_option linter.unusedVariables false

/-- A region that is walked under a stronger condition. -/
theorem wpAnyH_mono {P : Program} {ops : Array Oper} {Q : Exit → Act → World → Prop} {md : Region.Mode} {S S' : World → Prop} (hS : ∀ w, S' w → S w) :
    ∀ (fuel : Nat) (listed : Array Bool) (a : Act) (w : World), wpAnyH P md ops Q S' fuel listed a w → wpAnyH P md ops Q S fuel listed a w
  | 0, _, _, _, h => h
  | fuel + 1, _, _, _, h => ⟨h.1, fun i hi => wpOp_mono (fun a' w' h' => ⟨hS _ h'.1, wpAnyH_mono hS fuel _ a' w' h'.2⟩) (h.2 i hi)⟩

theorem few_of {x : Tm} (hx : x.Ok) (h : fewB x = true) : x.Few := by
  unfold fewB at h
  simp at h
  exact ⟨hx.k, h.1.1, h.1.2, h.2⟩
theorem Mine.at {W : World} {g : Tm} : Mine (W.alloc (.cells #[.int .i64 g.k, .string g.s, .string g.l, .string g.t] 23)) W.heap.size g := by
  refine ⟨⟨?_, ?_, ?_, ?_⟩, ?_, ?_, ?_, ?_⟩ <;> simp
/-- A slice of numbers that reads as l, wherever it lies. -/
def Nl (w : World) (v : Value) (l : List Int) : Prop :=
  ∃ ao cap, v = .slice ao l.length cap ∧ l.length ≤ cap ∧ cap ≤ maxLen ∧ (ao = none → cap = 0) ∧ ∀ ad, ao = some ad → ∀ j u, (l.map (Value.int .i64))[j]? = some u → w.cell? (ad.add j) = some u
theorem Nl.at {w : World} {v : Value} {l : List Int} (h : Nl w v l) (hl : 0 < l.length) :
    ∃ b off cap, v = .slice (some ⟨b, off, none⟩) l.length cap ∧ l.length ≤ cap ∧ cap ≤ maxLen ∧ ∀ j (hj : j < l.length), w.cell? ⟨b, off + j, none⟩ = some (.int .i64 l[j]) := by
  obtain ⟨ao, cap, rfl, h1, h2, h3, h4⟩ := h
  cases ao with
  | none => have := h3 rfl; omega
  | some ad =>
    obtain ⟨b, off, spot⟩ := ad
    have key : ∀ j (hj : j < l.length), w.cell? ((⟨b, off, spot⟩ : Addr).add j) = some (.int .i64 l[j]) := fun j hj => h4 _ rfl j _ (by simp [hj])
    have hs : spot = none := by simpa [Addr.add] using World.cell?_spot (key 0 hl)
    subst hs
    refine ⟨b, off, cap, rfl, h1, h2, fun j hj => ?_⟩
    have := key j hj
    rwa [Addr.add_lit] at this
theorem Nl.of_row {w : World} {a : Option Addr} {len cap : Nat} {zs : List Int}
    (h : (a = none ∧ len = 0 ∧ cap = 0 ∧ zs = []) ∨ ∃ x, a = some x ∧ len ≤ cap ∧ cap ≤ maxLen ∧ zs.length = cap ∧ (∀ i, i < zs.length → w.cell? (x.add i) = some (.int .i64 (zs.getD i 0))) ∧ ∀ n ∈ zs, (Lit.int .i64 n).wf = true) :
    ∃ l : List Int, l.length = len ∧ Nl w (.slice a len cap) l := by
  rcases h with ⟨rfl, rfl, rfl, rfl⟩ | ⟨x, rfl, hl, hm, hz, hc, hw⟩
  · exact ⟨[], rfl, none, 0, rfl, by simp, by simp [maxLen], fun _ => rfl, fun ad h => by cases h⟩
  · have hlen : (zs.take len).length = len := by simp; omega
    refine ⟨zs.take len, hlen, some x, cap, by rw [hlen], by omega, hm, (fun h => by cases h), fun ad had j u hu => ?_⟩
    cases had
    have hj : j < len := by
      have := (List.getElem?_eq_some_iff.1 hu).1
      rw [List.length_map, hlen] at this; exact this
    rw [hc j (by omega)]
    have hjz : j < zs.length := by omega
    simp [hj, hjz] at hu
    rw [← hu]
    simp [List.getD, hjz]
theorem Nl.below {w w' : World} {v : Value} {l : List Int} (h : Nl w v l) (hb : Below w.heap.size w w') : Nl w' v l := by
  obtain ⟨ao, cap, e, h1, h2, h3, h4⟩ := h
  exact ⟨ao, cap, e, h1, h2, h3, fun ad had j u hu => (hb.cell (World.block_lt_of_cell? _ _ (h4 ad had j u hu))).trans (h4 ad had j u hu)⟩

theorem withinX_any (a n : Int) (hn : 0 < n) (hn2 : n ≤ 4611686018427387904) (w : World) :
    Calls Try.prog 15 #[.int .i64 a, .int .i64 n] w fun e w' => (∃ k : Nat, e = .returned (.int .i64 k) ∧ (k : Int) < n) ∧ w' = w := by
  have h1 := Int.tmod_lt_of_pos a hn
  have h2 : -n < a.tmod n := Int.lt_tmod_of_pos a hn
  have hz : (n == 0) = false := by simpa using (by omega : n ≠ 0)
  by_cases h0 : a.tmod n < 0
  · go_enter Try.func15, Try.ntmps15
    go_wp2
    go_ret
    exact ⟨⟨(a.tmod n + n).toNat, by rw [Int.toNat_of_nonneg (by omega)]; rfl, by omega⟩, rfl⟩
  · go_enter Try.func15, Try.ntmps15
    go_wp2
    go_ret
    exact ⟨⟨(a.tmod n).toNat, by rw [Int.toNat_of_nonneg (by omega)]; rfl, by omega⟩, rfl⟩

def eqB (x y : Tm) : Bool := x.k == y.k && (x.s.toList == y.s.toList && (x.l.toList == y.l.toList && x.t.toList == y.t.toList))
theorem eqB_iff (x y : Tm) : eqB x y = true ↔ x = y := by
  obtain ⟨k, s, l, t⟩ := x
  obtain ⟨k2, s2, l2, t2⟩ := y
  unfold eqB
  simp only [Lib.toList_data, Bool.and_eq_true, beq_iff_eq, Tm.mk.injEq]
  constructor
  · rintro ⟨h1, h2, h3, h4⟩; exact ⟨h1, ba_ext h2, ba_ext h3, ba_ext h4⟩
  · rintro ⟨rfl, rfl, rfl, rfl⟩; exact ⟨rfl, rfl, rfl, rfl⟩
theorem equal_term (x y : Tm) (w : World) : (Op.equalIn 10000 23 x.val y.val).run Try.prog w = .ok (eqB x y) w := by
  obtain ⟨k, s, l, t⟩ := x
  obtain ⟨k2, s2, l2, t2⟩ := y
  unfold Tm.val eqB
  dsimp only
  cases h1 : k == k2 <;> cases h2 : s.toList == s2.toList <;> cases h3 : l.toList == l2.toList <;> cases h4 : t.toList == t2.toList
  all_goals go_simp
def Cutd (n g capc : Nat) (wc : World) (s15 : Value) (wx : World) : Prop := ∃ m : Nat, m ≤ n ∧ s15 = .slice (some ⟨g, 0, none⟩) m capc ∧ wx = wc
theorem parse_good (g : Tm) (h : g.Good) : parseOf (encT g) = (g, 0) := by
  have hr := raw_enc g h.range.1 h.range.2 (by have := h.s; omega) (by have := h.l; omega) (by have := h.t; omega)
  unfold parseOf
  rw [hr, if_neg (by simp), if_neg (by rw [h.c]; simp)]
theorem encT_length (g : Tm) (h : g.Good) : 1 ≤ (encT g).length ∧ (encT g).length ≤ 1000 := by
  have h1 := h.s
  have h2 := h.l
  have h3 := h.t
  unfold encT
  simp only [List.length_append, le_length, tx_length]
  omega
set_option maxHeartbeats 32000000 in
theorem bytes_walk (x : Tm) (v1 v2 v4 : Value) (zs : List Int) (ys rs : List UInt8) (cut : Int) (hx : x.Ok) (w : World) (h1 : Nl w v1 zs) (h2 : Bs w v2 ys) (hcut : (Lit.int .i64 cut).wf = true) (h4 : Bs w v4 rs) :
    Calls Try.prog 4 #[x.val, v1, v2, .int .i64 cut, v4] w fun e w' => e = .returned (.bool true) ∧ Below w.heap.size w w' := by
  have hfx := few_any x
  have hgx := good_any x
  have hgd := good_good x
  generalize hGX : goodT x = gx at hgx hgd
  have HGX := Lib.hid fun h => hgx (few_of hx h)
  have hpg := parse_good gx hgd
  have hel := encT_length gx hgd
  have hbg := bytes_any gx
  have hrg := rbytes_any gx (by have := hgd.s; omega) (by have := hgd.l; omega) (by have := hgd.t; omega)
  have htg := text_any6 gx (by have := hgd.s; omega) (by have := hgd.l; omega) (by have := hgd.t; omega)
  have hug := rtext_any6 gx (by have := hgd.s; omega) (by have := hgd.l; omega) (by have := hgd.t; omega)
  have hst := equal_term gx gx
  rw [show eqB gx gx = true from (eqB_iff gx gx).2 rfl] at hst
  have hpa := fun v (w : World) (h : Bs w v (encT gx)) => parse_any v (encT gx) (by omega) w h
  rw [hpg] at hpa
  clear hGX hgx hgd hx hpg
  generalize hX : bl (textL gx) = X at htg hug
  generalize fewB x = fx at *
  generalize encT gx = en at *
  obtain ⟨k, s, l, t⟩ := x
  obtain ⟨gk, gs, gl, gt⟩ := gx
  unfold Tm.val at hfx HGX hbg hrg htg hug hst hpa ⊢
  dsimp only at hfx HGX hbg hrg htg hug hst hpa ⊢
  have HFX := Lib.hid hfx
  have HBG := Lib.hid hbg
  have HRG := Lib.hid hrg
  have HTG := Lib.hid htg
  have HUG := Lib.hid hug
  have HST := Lib.hid hst
  have HPA := Lib.hid hpa
  have HEL := Lib.hid hel
  clear hfx hbg hrg htg hug hst hpa hX hel
  obtain ⟨a1, cap1, rfl, m1, m2, -⟩ := id h1
  obtain ⟨a2, cap2, rfl, n1, n2, -⟩ := id h2
  obtain ⟨a4, cap4, rfl, o1, o2, -⟩ := id h4
  unfold maxLen at m2 n2 o2
  have hz1 : zs.length ≤ 9223372036854775807 := by omega
  have hz2 : ys.length ≤ 9223372036854775807 := by omega
  have hz4 : rs.length ≤ 9223372036854775807 := by omega
  have HA1 := Lib.hid h1
  have HA2 := Lib.hid h2
  have HA4 := Lib.hid h4
  clear h1 h2 h4 m1 m2 n1 n2 o1 o2
  obtain ⟨W, hW⟩ : ∃ W, W = w.alloc (.cells #[.int .i64 k, .string s, .string l, .string t] 23) := ⟨_, rfl⟩
  have hA : Box W w.heap.size ⟨k, s, l, t⟩ ∧ Below w.heap.size w W := by
    subst hW
    refine ⟨⟨?_, ?_, ?_, ?_⟩, (Below.refl _ _).alloc (Nat.le_refl _) _⟩ <;> simp
  have HA := Lib.hid hA
  have HW := Lib.hid hW
  clear hA hW
  go_enter Try.func4, Try.ntmps4
  go_wp2_with fail
  simp only [← HW.out]
  refine (known_any W).mono ?_
  rintro e w1 ⟨rfl, hb⟩
  have HB1 := Lib.hid (And.intro (HA.out.1.below hb) (HA.out.2.trans (hb.mono HA.out.2.size)))
  clear hb HA HW
  obtain ⟨c0, c1, c2, c3⟩ := HB1.out.1
  go_wp2_with fail
  refine (HFX.out _).mono ?_
  rintro e w2 ⟨rfl, hb⟩
  have HB2 := Lib.hid (And.intro (HB1.out.1.below hb) (HB1.out.2.trans (hb.mono HB1.out.2.size)))
  clear hb HB1 c0 c1 c2 c3 HFX
  cases fx with
  | false =>
    go_wp2_with fail
    go_ret
    exact ⟨rfl, HB2.out.2⟩
  | true =>
  by_cases hlong : 100 < rs.length
  · go_wp2_with fail
    go_ret
    exact ⟨rfl, HB2.out.2⟩
  have hrl : rs.length ≤ 100 := by omega
  have hrl' : ((rs.length : Nat) : Int) ≤ 100 := by omega
  clear hlong
  obtain ⟨c0, c1, c2, c3⟩ := HB2.out.1
  go_wp2_with fail
  refine (HGX.out (by trivial) _).mono ?_
  rintro e w3 ⟨rfl, hb⟩
  have HB3 := Lib.hid (HB2.out.2.trans (hb.mono HB2.out.2.size))
  clear hb HB2 c0 c1 c2 c3 HGX
  have hm : Mine (w3.alloc (.cells #[.int .i64 gk, .string gs, .string gl, .string gt] 23)) w3.heap.size ⟨gk, gs, gl, gt⟩ := Mine.at (g := ⟨gk, gs, gl, gt⟩)
  have hs2 : Below w.heap.size w (w3.alloc (.cells #[.int .i64 gk, .string gs, .string gl, .string gt] 23)) := HB3.out.alloc HB3.out.size _
  have HM := Lib.hid hm.1
  have HB4 := Lib.hid hs2
  clear hm hs2 HB3
  go_wp2_with fail
  generalize w3.alloc _ = w4 at HM HB4 ⊢
  generalize w3.heap.size = p at HM ⊢
  refine (HBG.out _).mono ?_
  rintro e w5 ⟨bv, rfl, ho, hb⟩
  have HM5 := Lib.hid (HM.out.below hb)
  have HB5 := Lib.hid (HB4.out.trans (hb.mono HB4.out.size))
  have HBV := Lib.hid ho.bs
  obtain ⟨ab, capb, rfl, -, cb2, -⟩ := id ho.bs
  unfold maxLen at cb2
  clear hb ho HM HB4 HBG
  go_wp2_with fail
  refine (HPA.out _ _ HBV.out).mono ?_
  rintro e w6 ⟨rfl, hb⟩
  have hal : Below w6.heap.size w6 (w6.alloc (.cells #[.int .i64 gk, .string gs, .string gl, .string gt] 23)) := (Below.refl _ _).alloc (Nat.le_refl _) _
  have hq : Mine (w6.alloc (.cells #[.int .i64 gk, .string gs, .string gl, .string gt] 23)) w6.heap.size ⟨gk, gs, gl, gt⟩ := Mine.at (g := ⟨gk, gs, gl, gt⟩)
  have HQ := Lib.hid hq.1
  have HM6 := Lib.hid ((HM5.out.below hb).below hal)
  have HB6 := Lib.hid ((HB5.out.trans (hb.mono HB5.out.size)).trans (hal.mono (HB5.out.trans (hb.mono HB5.out.size)).size))
  have HV6 := Lib.hid ((HBV.out.below hb).below hal)
  clear hb hal hq HM5 HB5 HBV HPA
  go_wp2_with fail
  generalize w6.alloc _ = w7 at HQ HM6 HB6 HV6 ⊢
  generalize w6.heap.size = q at HQ ⊢
  have hst := HST.out
  obtain ⟨V0, hV0⟩ : ∃ V0, V0 = w7.drew := ⟨_, rfl⟩
  have hS : (fun w' : World => Box w' p ⟨gk, gs, gl, gt⟩ ∧ Box w' q ⟨gk, gs, gl, gt⟩ ∧ Bs w' (.slice ab en.length capb) en ∧ Below w.heap.size w w') V0 := by subst hV0; exact ⟨HM6.out, HQ.out, HV6.out, HB6.out.drew⟩
  refine wp_region_any (by kernel_rfl) ?_
  change wpAny _ _ _ _ _ _ _ (World.drew _)
  rw [← hV0]
  clear hV0 HM6 HQ HV6 HB6
  refine wpAny_of_held (S := fun w' : World => Box w' p ⟨gk, gs, gl, gt⟩ ∧ Box w' q ⟨gk, gs, gl, gt⟩ ∧ Bs w' (.slice ab en.length capb) en ∧ Below w.heap.size w w') _ _ _ _ ?_
  try simp only [Act.put, List.setIfInBounds_toArray, List.set_cons_zero, List.set_cons_succ]
  refine wpAnyH_take (i := 0) (oi := ⟨some 42, _, _, _, _, _⟩) (v := ?_) rfl (by kernel_rfl) (by kernel_rfl) (by kernel_rfl) (fun _ _ _ h => h) (Or.inl ⟨by simp only [Region.wanted], ?_⟩) hS ?_
  rotate_left
  · intro wz hSw
    clear hSw
    go_simp
    first | done | with_reducible rfl
  try simp only [Act.put, List.setIfInBounds_toArray, List.set_cons_zero, List.set_cons_succ]
  refine wpAnyH_take (i := 1) (oi := ⟨some 43, _, _, _, _, _⟩) (v := ?_) rfl (by kernel_rfl) (by kernel_rfl) (by kernel_rfl) (fun _ _ _ h => h) (Or.inl ⟨by simp only [Region.wanted], ?_⟩) hS ?_
  rotate_left
  · intro wz hSw; obtain ⟨⟨c0, c1, c2, c3⟩, ⟨d0, d1, d2, d3⟩, hv, -⟩ := hSw; have hcv := run_conv_bytes hv
    (try dsimp only at hSw)
    (try go_split_ands)
    go_simp
    first | done | with_reducible rfl
  try simp only [Act.put, List.setIfInBounds_toArray, List.set_cons_zero, List.set_cons_succ]
  refine wpAnyH_take (i := 2) (oi := ⟨some 44, _, _, _, _, _⟩) (v := ?_) rfl (by kernel_rfl) (by kernel_rfl) (by kernel_rfl) (fun _ _ _ h => h) (Or.inl ⟨by simp only [Region.wanted], ?_⟩) hS ?_
  rotate_left
  · intro wz hSw; obtain ⟨⟨c0, c1, c2, c3⟩, ⟨d0, d1, d2, d3⟩, hv, -⟩ := hSw; have hcv := run_conv_bytes hv
    (try dsimp only at hSw)
    (try go_split_ands)
    go_simp
    first | done | with_reducible rfl
  try simp only [Act.put, List.setIfInBounds_toArray, List.set_cons_zero, List.set_cons_succ]
  refine wpAnyH_ready (rs := [3]) (by kernel_rfl) (by simp) ?_
  refine AllReadyH.cons (o := ⟨some 45, _, _, _, _, _⟩) rfl (fun K hK => ?_) AllReadyH.nil
  go_simp
  refine (HRG.out _).mono ?_
  rintro e V1 ⟨rv, rfl, ho1, hb1⟩
  obtain ⟨ao1, cp1, rfl, -⟩ := id ho1.bs
  have HO1 := Lib.hid ho1.bs
  clear ho1
  go_simp
  refine hK.out _ _ (⟨hS.1.below hb1, hS.2.1.below hb1, hS.2.2.1.below hb1, hS.2.2.2.trans (hb1.mono hS.2.2.2.size)⟩) (fun hS => ?_)
  clear hK K
  try simp only [Act.put, List.setIfInBounds_toArray, List.set_cons_zero, List.set_cons_succ]
  clear hb1
  have hS' : (fun w' : World => (Box w' p ⟨gk, gs, gl, gt⟩ ∧ Box w' q ⟨gk, gs, gl, gt⟩ ∧ Bs w' (.slice ab en.length capb) en ∧ Below w.heap.size w w') ∧ Bs w' (.slice ao1 en.length cp1) en) (_) := ⟨hS, HO1.out⟩
  refine wpAnyH_mono (S' := fun w' : World => (Box w' p ⟨gk, gs, gl, gt⟩ ∧ Box w' q ⟨gk, gs, gl, gt⟩ ∧ Bs w' (.slice ab en.length capb) en ∧ Below w.heap.size w w') ∧ Bs w' (.slice ao1 en.length cp1) en) (fun _ h => h.1) _ _ _ _ ?_
  clear hS
  have hS := hS'
  clear hS'
  refine wpAnyH_take (i := 4) (oi := ⟨some 46, _, _, _, _, _⟩) (v := ?_) rfl (by kernel_rfl) (by kernel_rfl) (by kernel_rfl) (fun _ _ _ h => h) (Or.inl ⟨by simp only [Region.wanted], ?_⟩) hS ?_
  rotate_left
  · intro wz hSw; obtain ⟨⟨⟨c0, c1, c2, c3⟩, ⟨d0, d1, d2, d3⟩, -, -⟩, hv⟩ := hSw; have hcv := run_conv_bytes hv
    (try dsimp only at hSw)
    (try go_split_ands)
    go_simp
    first | done | with_reducible rfl
  try simp only [Act.put, List.setIfInBounds_toArray, List.set_cons_zero, List.set_cons_succ]
  refine wpAnyH_take (i := 5) (oi := ⟨some 47, _, _, _, _, _⟩) (v := ?_) rfl (by kernel_rfl) (by kernel_rfl) (by kernel_rfl) (fun _ _ _ h => h) (Or.inl ⟨by simp only [Region.wanted], ?_⟩) hS ?_
  rotate_left
  · intro wz hSw
    clear hSw
    go_simp
    first | done | with_reducible rfl
  try simp only [Act.put, List.setIfInBounds_toArray, List.set_cons_zero, List.set_cons_succ]
  refine wpAnyH_take (i := 6) (oi := ⟨some 48, _, _, _, _, _⟩) (v := ?_) rfl (by kernel_rfl) (by kernel_rfl) (by kernel_rfl) (fun _ _ _ h => h) (Or.inl ⟨by simp only [Region.wanted], ?_⟩) hS ?_
  rotate_left
  · intro wz hSw
    clear hSw
    go_simp
    first | done | with_reducible rfl
  try simp only [Act.put, List.setIfInBounds_toArray, List.set_cons_zero, List.set_cons_succ]
  refine wpAnyH_take (i := 7) (oi := ⟨some 49, _, _, _, _, _⟩) (v := ?_) rfl (by kernel_rfl) (by kernel_rfl) (by kernel_rfl) (fun _ _ _ h => h) (Or.inl ⟨by rfl, ?_⟩) hS ?_
  rotate_left
  · intro wz hSw
    clear hSw
    go_simp
    first | done | with_reducible rfl
  try simp only [Act.put, List.setIfInBounds_toArray, List.set_cons_zero, List.set_cons_succ]
  refine wpAnyH_take (i := 8) (oi := ⟨some 50, _, _, _, _, _⟩) (v := ?_) rfl (by kernel_rfl) (by kernel_rfl) (by kernel_rfl) (fun _ _ _ h => h) (Or.inl ⟨by rfl, ?_⟩) hS ?_
  rotate_left
  · intro wz hSw
    clear hSw
    go_simp
    first | done | with_reducible rfl
  try simp only [Act.put, List.setIfInBounds_toArray, List.set_cons_zero, List.set_cons_succ]
  refine wpAnyH_take (i := 9) (oi := ⟨some 51, _, _, _, _, _⟩) (v := ?_) rfl (by kernel_rfl) (by kernel_rfl) (by kernel_rfl) (fun _ _ _ h => h) (Or.inl ⟨by simp only [Region.wanted], ?_⟩) hS ?_
  rotate_left
  · intro wz hSw
    clear hSw
    go_simp
    first | done | with_reducible rfl
  try simp only [Act.put, List.setIfInBounds_toArray, List.set_cons_zero, List.set_cons_succ]
  refine wpAnyH_take (i := 10) (oi := ⟨some 52, _, _, _, _, _⟩) (v := ?_) rfl (by kernel_rfl) (by kernel_rfl) (by kernel_rfl) (fun _ _ _ h => h) (Or.inl ⟨by simp only [Region.wanted], ?_⟩) hS ?_
  rotate_left
  · intro wz hSw
    clear hSw
    go_simp
    first | done | with_reducible rfl
  try simp only [Act.put, List.setIfInBounds_toArray, List.set_cons_zero, List.set_cons_succ]
  refine wpAnyH_take (i := 11) (oi := ⟨some 53, _, _, _, _, _⟩) (v := ?_) rfl (by kernel_rfl) (by kernel_rfl) (by kernel_rfl) (fun _ _ _ h => h) (Or.inl ⟨by rfl, ?_⟩) hS ?_
  rotate_left
  · intro wz hSw; obtain ⟨⟨⟨c0, c1, c2, c3⟩, ⟨d0, d1, d2, d3⟩, -, -⟩, hv⟩ := hSw; have hcv := run_conv_bytes hv
    (try dsimp only at hSw)
    (try go_split_ands)
    go_simp
    first | done | with_reducible rfl
  try simp only [Act.put, List.setIfInBounds_toArray, List.set_cons_zero, List.set_cons_succ]
  refine wpAnyH_take (i := 12) (oi := ⟨some 54, _, _, _, _, _⟩) (v := ?_) rfl (by kernel_rfl) (by kernel_rfl) (by kernel_rfl) (fun _ _ _ h => h) (Or.inl ⟨by rfl, ?_⟩) hS ?_
  rotate_left
  · intro wz hSw; obtain ⟨⟨⟨c0, c1, c2, c3⟩, ⟨d0, d1, d2, d3⟩, -, -⟩, hv⟩ := hSw; have hcv := run_conv_bytes hv
    (try dsimp only at hSw)
    (try go_split_ands)
    go_simp
    first | done | with_reducible rfl
  try simp only [Act.put, List.setIfInBounds_toArray, List.set_cons_zero, List.set_cons_succ]
  refine wpAnyH_take (i := 13) (oi := ⟨some 55, _, _, _, _, _⟩) (v := ?_) rfl (by kernel_rfl) (by kernel_rfl) (by kernel_rfl) (fun _ _ _ h => h) (Or.inl ⟨by rfl, ?_⟩) hS ?_
  rotate_left
  · intro wz hSw
    clear hSw
    go_simp
    first | done | with_reducible rfl
  try simp only [Act.put, List.setIfInBounds_toArray, List.set_cons_zero, List.set_cons_succ]
  refine wpAnyH_take (i := 14) (oi := ⟨some 56, _, _, _, _, _⟩) (v := ?_) rfl (by kernel_rfl) (by kernel_rfl) (by kernel_rfl) (fun _ _ _ h => h) (Or.inl ⟨by simp only [Region.wanted], ?_⟩) hS ?_
  rotate_left
  · intro wz hSw
    clear hSw
    go_simp
    first | done | with_reducible rfl
  try simp only [Act.put, List.setIfInBounds_toArray, List.set_cons_zero, List.set_cons_succ]
  refine wpAnyH_take (i := 15) (oi := ⟨some 57, _, _, _, _, _⟩) (v := ?_) rfl (by kernel_rfl) (by kernel_rfl) (by kernel_rfl) (fun _ _ _ h => h) (Or.inl ⟨by simp only [Region.wanted], ?_⟩) hS ?_
  rotate_left
  · intro wz hSw
    clear hSw
    go_simp
    first | done | with_reducible rfl
  try simp only [Act.put, List.setIfInBounds_toArray, List.set_cons_zero, List.set_cons_succ]
  refine wpAnyH_take (i := 16) (oi := ⟨some 58, _, _, _, _, _⟩) (v := ?_) rfl (by kernel_rfl) (by kernel_rfl) (by kernel_rfl) (fun _ _ _ h => h) (Or.inl ⟨by rfl, ?_⟩) hS ?_
  rotate_left
  · intro wz hSw; obtain ⟨⟨⟨c0, c1, c2, c3⟩, ⟨d0, d1, d2, d3⟩, -, -⟩, hv⟩ := hSw; have hcv := run_conv_bytes hv
    (try dsimp only at hSw)
    (try go_split_ands)
    go_simp
    first | done | with_reducible rfl
  try simp only [Act.put, List.setIfInBounds_toArray, List.set_cons_zero, List.set_cons_succ]
  refine wpAnyH_take (i := 18) (oi := ⟨some 60, _, _, _, _, _⟩) (v := ?_) rfl (by kernel_rfl) (by kernel_rfl) (by kernel_rfl) (fun _ _ _ h => h) (Or.inl ⟨by rfl, ?_⟩) hS ?_
  rotate_left
  · intro wz hSw; obtain ⟨⟨⟨c0, c1, c2, c3⟩, ⟨d0, d1, d2, d3⟩, -, -⟩, hv⟩ := hSw; have hcv := run_conv_bytes hv
    (try dsimp only at hSw)
    (try go_split_ands)
    go_simp
    first | done | with_reducible rfl
  try simp only [Act.put, List.setIfInBounds_toArray, List.set_cons_zero, List.set_cons_succ]
  refine wpAnyH_ready (rs := [17]) (by kernel_rfl) (by simp) ?_
  refine AllReadyH.cons (o := ⟨some 59, _, _, _, _, _⟩) rfl (fun K hK => ?_) AllReadyH.nil
  go_simp
  refine (HTG.out _).mono ?_
  rintro e V2 ⟨rfl, hb1⟩
  go_simp
  refine hK.out _ _ (⟨⟨hS.1.1.below hb1, hS.1.2.1.below hb1, hS.1.2.2.1.below hb1, hS.1.2.2.2.trans (hb1.mono hS.1.2.2.2.size)⟩, hS.2.below hb1⟩) (fun hS => ?_)
  clear hK K
  try simp only [Act.put, List.setIfInBounds_toArray, List.set_cons_zero, List.set_cons_succ]
  clear hb1
  refine wpAnyH_ready (rs := [19]) (by kernel_rfl) (by simp) ?_
  refine AllReadyH.cons (o := ⟨some 61, _, _, _, _, _⟩) rfl (fun K hK => ?_) AllReadyH.nil
  go_simp
  refine (HUG.out _).mono ?_
  rintro e V3 ⟨rfl, hb1⟩
  go_simp
  refine hK.out _ _ (⟨⟨hS.1.1.below hb1, hS.1.2.1.below hb1, hS.1.2.2.1.below hb1, hS.1.2.2.2.trans (hb1.mono hS.1.2.2.2.size)⟩, hS.2.below hb1⟩) (fun hS => ?_)
  clear hK K
  try simp only [Act.put, List.setIfInBounds_toArray, List.set_cons_zero, List.set_cons_succ]
  clear hb1
  refine wpAnyH_take (i := 20) (oi := ⟨some 62, _, _, _, _, _⟩) (v := ?_) rfl (by kernel_rfl) (by kernel_rfl) (by kernel_rfl) (fun _ _ _ h => h) (Or.inl ⟨by rfl, ?_⟩) hS ?_
  rotate_left
  · intro wz hSw
    clear hSw
    go_simp
    first | done | with_reducible rfl
  try simp only [Act.put, List.setIfInBounds_toArray, List.set_cons_zero, List.set_cons_succ]
  refine wpAnyH_take (i := 21) (oi := ⟨some 63, _, _, _, _, _⟩) (v := ?_) rfl (by kernel_rfl) (by kernel_rfl) (by kernel_rfl) (fun _ _ _ h => h) (Or.inl ⟨by simp only [Region.wanted], ?_⟩) hS ?_
  rotate_left
  · intro wz hSw
    clear hSw
    go_simp
    first | done | with_reducible rfl
  try simp only [Act.put, List.setIfInBounds_toArray, List.set_cons_zero, List.set_cons_succ]
  refine wpAnyH_done (by kernel_rfl) ?_ _
  have HV := Lib.hid hS.1.2.2.1
  have HB := Lib.hid hS.1.2.2.2
  clear hS hst HO1 HRG HTG HUG HST
  generalize V3 = U at HV HB ⊢
  obtain ⟨B0, hB0⟩ : ∃ B0, B0 = U.heap.size := ⟨_, rfl⟩
  have HB0 := Lib.hid hB0
  clear hB0
  have hen : en.length ≤ 1000 := HEL.out.2
  go_wp2_with (at_builtin; refine wpList_append_bytes rfl (.tmp 64) (.tmp 65) rfl B0 (.slice (some ⟨U.heap.size, 0, none⟩) 0 0) [] rfl (Own.empty U B0 ?c0) (.slice ab en.length capb) en rfl (HV.out.below ?c1) ?c2 ?c3 ?_)
  case c0 => have := HB0.out; omega
  case c1 => exact (Below.refl _ _).alloc (Nat.le_refl _) _
  case c2 => omega
  case c3 => have := HB0.out; simp; omega
  intro cv w8 ho hg
  have hb8 : Below B0 U w8 := (Own.empty U B0 (by have := HB0.out; omega)).step ((Below.refl _ _).alloc (by have := HB0.out; omega) _) hg (Nat.le_refl _) (by have := HB0.out; simp; omega)
  obtain ⟨g, capc, rfl, k1, k2, k3, k4, -⟩ := ho.at (by have := HEL.out.1; omega)
  obtain ⟨n, hn⟩ : ∃ n, n = en.length := ⟨_, rfl⟩
  rw [← hn] at ho k1 hen
  have HO8 := Lib.hid (show ∃ lc : List UInt8, lc.length = n ∧ Own w8 B0 (.slice (some ⟨g, 0, none⟩) n capc) lc from ⟨en, hn.symm, by rw [hn] at ho ⊢; exact ho⟩)
  have HB8 := Lib.hid hb8
  have HN := Lib.hid hn
  have hn1 : 1 ≤ n := by have := HEL.out.1; omega
  have hg0 : B0 ≤ g := k3
  have hwB : w.heap.size ≤ B0 := by have := HB.out.size; have := HB0.out; omega
  clear ho hg hb8 k3 k4
  unfold maxLen at k2
  rw [← hn]
  clear hn
  go_upto_block 0 with fail
  go_cut [16] (fun s16 wx => (∃ lc : List UInt8, lc.length = n ∧ Own wx B0 (.slice (some ⟨g, 0, none⟩) n capc) lc) ∧ Below B0 U wx)
  case first =>
    go_wp2_with fail
    go_loopw [16, 67, 68, 69, 70, 71, 72, 73, 74, 75, 76, 77, 78, 79, 80, 81, 82, 83, 84, 85, 86, 87, 88, 89, 90, 91, 92, 93, 94, 95, 96, 97, 98] (fun s16 _ _ _ _ _ _ _ _ _ _ _ _ _ _ _ _ _ _ _ _ _ _ _ _ _ _ _ _ _ _ _ _ wr => ∃ i : Nat, i ≤ 3 ∧ s16 = .int .i64 i ∧ (∃ lc : List UInt8, lc.length = n ∧ Own wr B0 (.slice (some ⟨g, 0, none⟩) n capc) lc) ∧ Below B0 U wr) (fun s16 _ _ _ _ _ _ _ _ _ _ _ _ _ _ _ _ _ _ _ _ _ _ _ _ _ _ _ _ _ _ _ _ _ => 3 - (intOf s16).toNat)
    case atStart => exact ⟨0, by omega, rfl, HO8.out, HB8.out⟩
    case round =>
      obtain ⟨i, hi, rfl, ⟨lc, hlc, ho⟩, hbl⟩ := hrel
      have HLC := Lib.hid (And.intro hlc ho)
      have HBL := Lib.hid hbl
      clear hlc ho hbl HO8 HB8
      by_cases hA : i < zs.length
      rotate_left
      · go_wp2_with fail
        go_meet
        exact ⟨⟨lc, HLC.out.1, HLC.out.2⟩, HBL.out⟩
      by_cases hB : i < ys.length
      rotate_left
      · go_wp2_with fail
        go_meet
        exact ⟨⟨lc, HLC.out.1, HLC.out.2⟩, HBL.out⟩
      by_cases hC : i < 3
      rotate_left
      · go_wp2_with fail
        go_meet
        exact ⟨⟨lc, HLC.out.1, HLC.out.2⟩, HBL.out⟩
      have hwr : Below w.heap.size w wr := HB.out.trans (HBL.out.mono hwB)
      obtain ⟨b1, f1, cp1', e1, -, -, hz⟩ := HA1.out.at (by omega)
      obtain ⟨b2, f2, cp2', e2, -, -, hy⟩ := HA2.out.at (by omega)
      simp only [Value.slice.injEq, true_and] at e1 e2
      obtain ⟨rfl, rfl⟩ := e1
      obtain ⟨rfl, rfl⟩ := e2
      have hz0 := hz i hA
      have hy0 := hy i hB
      have hb1 : b1 < w.heap.size := World.block_lt_of_cell? w _ hz0
      have hb2 : b2 < w.heap.size := World.block_lt_of_cell? w _ hy0
      have hz' := (hwr.cell (p := ⟨b1, f1 + i, none⟩) hb1).trans hz0
      have hy' := (hwr.cell (p := ⟨b2, f2 + i, none⟩) hb2).trans hy0
      generalize zs[i] = z at hz'
      generalize hyy : ys[i] = y at hy'
      unfold vb at hy'
      obtain ⟨yn, hyn⟩ : ∃ yn : Nat, yn = y.toNat := ⟨_, rfl⟩
      rw [← hyn] at hy'
      have HYN := Lib.hid hyn
      have hA' : (i : Int) < zs.length := by omega
      have hB' : (i : Int) < ys.length := by omega
      have hn0 : (0 : Int) < n := by omega
      have hnb : (n : Int) ≤ 4611686018427387904 := by omega
      have hyb : yn < 256 := by rw [hyn]; exact y.toNat_lt
      clear hz hy hz0 hy0 hyy hyn
      go_wp2_with fail
      obtain ⟨V0, hV0⟩ : ∃ V0, V0 = wr.drew := ⟨_, rfl⟩
      have hS : (fun w' : World => w'.cell? ⟨b1, f1 + i, none⟩ = some (.int .i64 z) ∧ w'.cell? ⟨b2, f2 + i, none⟩ = some (.int .u8 yn)) V0 := by subst hV0; exact ⟨hz', hy'⟩
      have hO0 : Own V0 B0 (.slice (some ⟨g, 0, none⟩) n capc) lc := by subst hV0; exact HLC.out.2
      have hL0 : Below B0 U V0 := by subst hV0; exact HBL.out.drew
      have HO0 := Lib.hid hO0
      have HL0 := Lib.hid hL0
      clear hO0 hL0
      refine wp_region_any (by kernel_rfl) ?_
      change wpAny _ _ _ _ _ _ _ (World.drew _)
      rw [← hV0]
      clear hV0 hz' hy'
      refine wpAny_of_held (S := fun w' : World => w'.cell? ⟨b1, f1 + i, none⟩ = some (.int .i64 z) ∧ w'.cell? ⟨b2, f2 + i, none⟩ = some (.int .u8 yn)) _ _ _ _ ?_
      try simp only [Act.put, List.setIfInBounds_toArray, List.set_cons_zero, List.set_cons_succ]
      refine wpAnyH_take (i := 0) (oi := ⟨some 83, _, _, _, _, _⟩) (v := ?_) rfl (by kernel_rfl) (by kernel_rfl) (by kernel_rfl) (fun _ _ _ h => h) (Or.inl ⟨by simp only [Region.wanted], ?_⟩) hS ?_
      rotate_left
      · intro wz hSw
        clear hSw
        go_simp
        first | done | with_reducible rfl
      try simp only [Act.put, List.setIfInBounds_toArray, List.set_cons_zero, List.set_cons_succ]
      refine wpAnyH_take (i := 1) (oi := ⟨some 84, _, _, _, _, _⟩) (v := ?_) rfl (by kernel_rfl) (by kernel_rfl) (by kernel_rfl) (fun _ _ _ h => h) (Or.inl ⟨by simp only [Region.wanted], ?_⟩) hS ?_
      rotate_left
      · intro wz hSw
        clear hSw
        go_simp
        first | done | with_reducible rfl
      try simp only [Act.put, List.setIfInBounds_toArray, List.set_cons_zero, List.set_cons_succ]
      refine wpAnyH_take (i := 2) (oi := ⟨some 85, _, _, _, _, _⟩) (v := ?_) rfl (by kernel_rfl) (by kernel_rfl) (by kernel_rfl) (fun _ _ _ h => h) (Or.inl ⟨by simp only [Region.wanted], ?_⟩) hS ?_
      rotate_left
      · intro wz hSw
        clear hSw
        go_simp
        first | done | with_reducible rfl
      try simp only [Act.put, List.setIfInBounds_toArray, List.set_cons_zero, List.set_cons_succ]
      refine wpAnyH_take (i := 3) (oi := ⟨some 86, _, _, _, _, _⟩) (v := ?_) rfl (by kernel_rfl) (by kernel_rfl) (by kernel_rfl) (fun _ _ _ h => h) (Or.inl ⟨by simp only [Region.wanted], ?_⟩) hS ?_
      rotate_left
      · intro wz hSw
        clear hSw
        go_simp
        first | done | with_reducible rfl
      try simp only [Act.put, List.setIfInBounds_toArray, List.set_cons_zero, List.set_cons_succ]
      refine wpAnyH_take (i := 4) (oi := ⟨some 87, _, _, _, _, _⟩) (v := ?_) rfl (by kernel_rfl) (by kernel_rfl) (by kernel_rfl) (fun _ _ _ h => h) (Or.inl ⟨by simp only [Region.wanted], ?_⟩) hS ?_
      rotate_left
      · intro wz hSw; obtain ⟨c0, c1⟩ := hSw
        (try dsimp only at hSw)
        (try go_split_ands)
        go_simp
        first | done | with_reducible rfl
      try simp only [Act.put, List.setIfInBounds_toArray, List.set_cons_zero, List.set_cons_succ]
      refine wpAnyH_take (i := 5) (oi := ⟨some 88, _, _, _, _, _⟩) (v := ?_) rfl (by kernel_rfl) (by kernel_rfl) (by kernel_rfl) (fun _ _ _ h => h) (Or.inl ⟨by simp only [Region.wanted], ?_⟩) hS ?_
      rotate_left
      · intro wz hSw
        clear hSw
        go_simp
        first | done | with_reducible rfl
      try simp only [Act.put, List.setIfInBounds_toArray, List.set_cons_zero, List.set_cons_succ]
      refine wpAnyH_take (i := 6) (oi := ⟨some 89, _, _, _, _, _⟩) (v := ?_) rfl (by kernel_rfl) (by kernel_rfl) (by kernel_rfl) (fun _ _ _ h => h) (Or.inl ⟨by simp only [Region.wanted], ?_⟩) hS ?_
      rotate_left
      · intro wz hSw
        clear hSw
        go_simp
        first | done | with_reducible rfl
      try simp only [Act.put, List.setIfInBounds_toArray, List.set_cons_zero, List.set_cons_succ]
      refine wpAnyH_take (i := 10) (oi := ⟨some 93, _, _, _, _, _⟩) (v := ?_) rfl (by kernel_rfl) (by kernel_rfl) (by kernel_rfl) (fun _ _ _ h => h) (Or.inl ⟨by simp only [Region.wanted], ?_⟩) hS ?_
      rotate_left
      · intro wz hSw
        clear hSw
        go_simp
        first | done | with_reducible rfl
      try simp only [Act.put, List.setIfInBounds_toArray, List.set_cons_zero, List.set_cons_succ]
      refine wpAnyH_take (i := 11) (oi := ⟨some 94, _, _, _, _, _⟩) (v := ?_) rfl (by kernel_rfl) (by kernel_rfl) (by kernel_rfl) (fun _ _ _ h => h) (Or.inl ⟨by simp only [Region.wanted], ?_⟩) hS ?_
      rotate_left
      · intro wz hSw
        clear hSw
        go_simp
        first | done | with_reducible rfl
      try simp only [Act.put, List.setIfInBounds_toArray, List.set_cons_zero, List.set_cons_succ]
      refine wpAnyH_take (i := 12) (oi := ⟨some 95, _, _, _, _, _⟩) (v := ?_) rfl (by kernel_rfl) (by kernel_rfl) (by kernel_rfl) (fun _ _ _ h => h) (Or.inl ⟨by simp only [Region.wanted], ?_⟩) hS ?_
      rotate_left
      · intro wz hSw
        clear hSw
        go_simp
        first | done | with_reducible rfl
      try simp only [Act.put, List.setIfInBounds_toArray, List.set_cons_zero, List.set_cons_succ]
      refine wpAnyH_take (i := 13) (oi := ⟨some 96, _, _, _, _, _⟩) (v := ?_) rfl (by kernel_rfl) (by kernel_rfl) (by kernel_rfl) (fun _ _ _ h => h) (Or.inl ⟨by simp only [Region.wanted], ?_⟩) hS ?_
      rotate_left
      · intro wz hSw; obtain ⟨c0, c1⟩ := hSw
        (try dsimp only at hSw)
        (try go_split_ands)
        go_simp
        first | done | with_reducible rfl
      try simp only [Act.put, List.setIfInBounds_toArray, List.set_cons_zero, List.set_cons_succ]
      refine wpAnyH_ready (rs := [7]) (by kernel_rfl) (by simp) ?_
      refine AllReadyH.cons (o := ⟨some 90, _, _, _, _, _⟩) rfl (fun K hK => ?_) AllReadyH.nil
      go_simp
      refine (withinX_any z n hn0 hnb _).mono ?_
      rintro e w' ⟨⟨j, rfl, hj⟩, he⟩
      replace he := he.symm
      subst he
      go_simp
      refine hK.out _ _ (hS) (fun hS => ?_)
      clear hK K
      try simp only [Act.put, List.setIfInBounds_toArray, List.set_cons_zero, List.set_cons_succ]
      have hj' : j < lc.length := by have := HLC.out.1; omega
      obtain ⟨cj, hcj⟩ : ∃ cj : Nat, cj = (lc[j]).toNat := ⟨_, rfl⟩
      have hcb : cj < 256 := by rw [hcj]; exact UInt8.toNat_lt _
      have hor : V0.ownsRow B0 5 1 (.slice (some ⟨g, 0, none⟩) n capc) n (vbs lc) := by have h := HO0.out.out; rw [HLC.out.1] at h; exact h
      have hcc : V0.cell? ⟨g, j, none⟩ = some (.int .u8 cj) := by rw [hor.cellAt j (by omega)]; simp [vbs, hj', vb, hcj]
      have hff : V0.frozen? ⟨g, j, none⟩ = false := hor.frozenAt j
      have HOR := Lib.hid hor
      clear hor
      have HCJ := Lib.hid hcj
      clear hcj
      refine wpAnyH_take (i := 8) (oi := ⟨some 91, _, _, _, _, _⟩) (v := ?_) rfl (by kernel_rfl) (by kernel_rfl) (by kernel_rfl) (fun _ _ _ h => h) (Or.inl ⟨by simp only [Region.wanted], ?_⟩) hS ?_
      rotate_left
      · intro wz hSw
        clear hSw
        go_simp
        first | done | with_reducible rfl
      try simp only [Act.put, List.setIfInBounds_toArray, List.set_cons_zero, List.set_cons_succ]
      refine wpAnyH_ready (rs := [9]) (by kernel_rfl) (by simp) ?_
      refine AllReadyH.cons (o := ⟨some 92, _, _, _, _, _⟩) rfl (fun K hK => ?_) AllReadyH.nil
      go_simp
      refine hK.out _ _ (hS) (fun hS => ?_)
      clear hK K
      try simp only [Act.put, List.setIfInBounds_toArray, List.set_cons_zero, List.set_cons_succ]
      refine wpAnyH_take (i := 14) (oi := ⟨some 97, _, _, _, _, _⟩) (v := ?_) rfl (by kernel_rfl) (by kernel_rfl) (by kernel_rfl) (fun _ _ _ h => h) (Or.inl ⟨by simp only [Region.wanted], ?_⟩) hS ?_
      rotate_left
      · intro wz hSw
        clear hSw
        go_simp
        first | done | with_reducible rfl
      try simp only [Act.put, List.setIfInBounds_toArray, List.set_cons_zero, List.set_cons_succ]
      refine wpAnyH_take (i := 15) (oi := ⟨some 98, _, _, _, _, _⟩) (v := ?_) rfl (by kernel_rfl) (by kernel_rfl) (by kernel_rfl) (fun _ _ _ h => h) (Or.inl ⟨by simp only [Region.wanted], ?_⟩) hS ?_
      rotate_left
      · intro wz hSw
        clear hSw
        go_simp
        first | done | with_reducible rfl
      try simp only [Act.put, List.setIfInBounds_toArray, List.set_cons_zero, List.set_cons_succ]
      refine wpAnyH_ready (rs := [16]) (by kernel_rfl) (by simp) ?_
      refine AllReadyH.cons (o := ⟨none, _, _, _, _, _⟩) rfl (fun K hK => ?_) AllReadyH.nil
      go_simp
      have hval : Value.int .u8 (IntKind.u8.wrap ((cj : Int) + (yn : Int))) = vb (lc[j] + y) := by
        unfold vb
        rw [UInt8.toNat_add, ← HCJ.out, ← HYN.out, IntKind.wrap_u8]
        congr 1
      have hso := HOR.out.stored j (.int .u8 (IntKind.u8.wrap ((cj : Int) + (yn : Int))))
      have hown : Own (V0.setCell ⟨g, j, none⟩ (.int .u8 (IntKind.u8.wrap ((cj : Int) + (yn : Int))))) B0 (.slice (some ⟨g, 0, none⟩) n capc) (lc.set j (lc[j] + y)) := Own.of hso.1 (by rw [List.length_set]; exact HLC.out.1.symm) (by rw [hval]; simp [vbs, List.map_set])
      have hbel := HL0.out.setCell (p := ⟨g, j, none⟩) hg0 (.int .u8 (IntKind.u8.wrap ((cj : Int) + (yn : Int))))
      have g1 := (World.cell?_setCell_other V0 ⟨g, j, none⟩ ⟨b1, f1 + i, none⟩ (.int .u8 (IntKind.u8.wrap ((cj : Int) + (yn : Int)))) (fun h => by injection h; omega)).trans hS.1
      have g2 := (World.cell?_setCell_other V0 ⟨g, j, none⟩ ⟨b2, f2 + i, none⟩ (.int .u8 (IntKind.u8.wrap ((cj : Int) + (yn : Int)))) (fun h => by injection h; omega)).trans hS.2
      clear hso hval hcc hff
      generalize V0.setCell _ _ = V1 at hown hbel g1 g2 ⊢
      refine hK.out _ _ ⟨g1, g2⟩ (fun hS => ?_)
      clear hK K g1 g2
      try simp only [Act.put, List.setIfInBounds_toArray, List.set_cons_zero, List.set_cons_succ]
      refine wpAnyH_done (by kernel_rfl) ?_ _
      have HN1 := Lib.hid (And.intro hown hbel)
      clear hS hown hbel
      go_wp2_with fail
      go_roundw
      case rel => exact ⟨i + 1, by omega, by go_num, ⟨_, by rw [List.length_set]; exact HLC.out.1, HN1.out.1⟩, HN1.out.2⟩
      case measure => simp [intOf]; omega
  case rest =>
    obtain ⟨⟨lc, hlc, hoc⟩, hbc⟩ := hcut
    have HC := Lib.hid (And.intro hlc hoc)
    have HBC := Lib.hid hbc
    clear hlc hoc hbc HO8 HB8
    have hnb : (n : Int) + 1 ≤ 4611686018427387904 := by omega
    go_upto_if 101 with fail
    go_cut [15] (fun s15 wx => Cutd n g capc wc s15 wx)
    case first =>
      have HEN := Lib.hid hen
      have h5 : ((cut : Int).tmod 3 == 1) = true ∨ ((cut : Int).tmod 3 == 1) = false := by cases ((cut : Int).tmod 3 == 1) <;> simp
      have HK1 := Lib.hid k1
      have HW1 := Lib.hid (show wrap64 ((n : Int) + 1) = n + 1 by simp only [wrap64]; omega)
      clear hnb hcut hz1 hz2 hz4 cb2 hrl hrl' hg0 hwB k2 k1 hn1 hen HA1 HA2 HA4 HB HBC HC HEL HB0 HV HN
      rcases h5 with h5 | h5
      · go_wp2_with fail
        rw [HW1.out]
        refine (withinX_any _ ((n : Int) + 1) (by omega) (by have := HEN.out; omega) _).mono ?_
        rintro e w' ⟨⟨j, rfl, hj⟩, he⟩
        replace he := he.symm
        subst he
        have hj1 : j ≤ n := by omega
        have hj2 : j ≤ capc := by have := HK1.out; omega
        have hj3 : (j : Int) ≤ capc := by omega
        clear h5 hj
        go_wp2_with fail
        go_meet
        exact ⟨j, hj1, rfl, rfl⟩
      · go_wp2_with fail
        go_meet
        exact ⟨n, Nat.le_refl _, rfl, rfl⟩
    case rest =>
      obtain ⟨m, hm, rfl, hwx⟩ := hcut
      subst hwx
      have hbw : Below w.heap.size w wc := HB.out.trans (HBC.out.mono hwB)
      have hnl : n = lc.length := HC.out.1.symm
      have hrow0 : Bs wc (.slice (some ⟨g, 0, none⟩) m capc) (lc.take m) := by
        have h := HC.out.2.bs
        rw [hnl] at h
        exact h.takes m (by omega)
      have hbv : Bs wc (.slice ab n capb) en := by rw [HN.out]; exact HV.out.below ((HB0.out ▸ HBC.out : Below U.heap.size U wc))
      have hraw : Bs wc (.slice a4 rs.length cap4) rs := HA4.out.below hbw
      have HR0 := Lib.hid hrow0
      have HBV := Lib.hid hbv
      have HRW := Lib.hid hraw
      have HBW := Lib.hid hbw
      have hlc : (lc.take m).length ≤ 1000 := by rw [List.length_take]; omega
      generalize lc.take m = l0 at *
      clear hrow0 hbv hraw hbw HC HBC HV HB HB0 HA1 HA2 HA4 hwB hg0 k1 k2 hz1 hz2 hz4 cb2 hn1 hnb hm hnl hcut
      go_wp2_with (at_builtin; refine wpList_append_bytes rfl (.tmp 111) (.tmp 112) rfl wc.heap.size (.slice (some ⟨wc.heap.size, 0, none⟩) 0 0) [] rfl (Own.empty wc wc.heap.size (Nat.le_refl _)) (.slice ab n capb) en rfl (HBV.out.below ?c1) ?c2 ?c3 ?_)
      case c1 => exact (Below.refl _ _).alloc (Nat.le_refl _) _
      case c2 => have := HN.out; simp; omega
      case c3 => simp
      intro dv w9 ho hg
      have hb9 : Below wc.heap.size wc w9 := (Own.empty wc wc.heap.size (Nat.le_refl _)).step ((Below.refl _ _).alloc (Nat.le_refl _) _) hg (Nat.le_refl _) (by simp)
      have HO9 := Lib.hid ho
      have HB9 := Lib.hid hb9
      clear ho hg hb9
      go_wp2_with (at_builtin; refine wpList_append_bytes rfl (.tmp 113) (.tmp 114) rfl wc.heap.size dv en rfl HO9.out (.slice a4 rs.length cap4) rs rfl (HRW.out.below ?d1) ?d2 ?d3 ?_)
      case d1 => exact HB9.out
      case d2 => have := HN.out; omega
      case d3 => exact HB9.out.size
      intro ev w10 ho hg
      have hb10 : Below wc.heap.size wc w10 := HO9.out.step HB9.out hg (Nat.le_refl _) HB9.out.size
      have hl1 : (en ++ rs).length ≤ 1100 := by have := HN.out; rw [List.length_append]; omega
      generalize en ++ rs = l1 at ho hl1
      obtain ⟨ae, ce, rfl, -, ce2, -⟩ := id ho.bs
      clear ce2
      have hbL : Below w10.heap.size w10 (w10.alloc (.cells #[(.slice (some ⟨g, 0, none⟩) m capc), (.slice ae l1.length ce), (.slice a4 rs.length cap4)] 31)) := (Below.refl _ _).alloc (Nat.le_refl _) _
      have k0 : (w10.alloc (.cells #[(.slice (some ⟨g, 0, none⟩) m capc), (.slice ae l1.length ce), (.slice a4 rs.length cap4)] 31)).cell? ⟨w10.heap.size, 0, none⟩ = some (.slice (some ⟨g, 0, none⟩) m capc) := by simp
      have k1 : (w10.alloc (.cells #[(.slice (some ⟨g, 0, none⟩) m capc), (.slice ae l1.length ce), (.slice a4 rs.length cap4)] 31)).cell? ⟨w10.heap.size, 1, none⟩ = some (.slice ae l1.length ce) := by simp
      have k2 : (w10.alloc (.cells #[(.slice (some ⟨g, 0, none⟩) m capc), (.slice ae l1.length ce), (.slice a4 rs.length cap4)] 31)).cell? ⟨w10.heap.size, 2, none⟩ = some (.slice a4 rs.length cap4) := by simp
      have q0 := (HR0.out.below hb10).below hbL
      have q1 := ho.bs.below hbL
      have q2 := (HRW.out.below hb10).below hbL
      have hbW := (HBW.out.trans (hb10.mono HBW.out.size)).trans (hbL.mono (HBW.out.trans (hb10.mono HBW.out.size)).size)
      obtain ⟨WL, hWL⟩ : ∃ WL, WL = w10.alloc (.cells #[(.slice (some ⟨g, 0, none⟩) m capc), (.slice ae l1.length ce), (.slice a4 rs.length cap4)] 31) := ⟨_, rfl⟩
      rw [← hWL] at k0 k1 k2 q0 q1 q2 hbW
      have K0 := Lib.hid k0
      have K1 := Lib.hid k1
      have K2 := Lib.hid k2
      have Q0 := Lib.hid q0
      have Q1 := Lib.hid q1
      have Q2 := Lib.hid q2
      have HBL := Lib.hid hbW
      have HWL := Lib.hid hWL
      clear ho hg hb10 hbL k0 k1 k2 q0 q1 q2 hbW hWL HO9 HB9 HR0 HRW HBW HBV HEL HN hrl'
      go_wp2_with fail
      rw [← HWL.out]
      obtain ⟨bb, hbb⟩ : ∃ bb, bb = w10.heap.size := ⟨_, rfl⟩
      rw [← hbb] at K0 K1 K2 ⊢
      clear HWL hbb
      go_loopw [18, 19, 20, 21, 22, 118, 119, 120, 121, 122, 123, 124, 125, 126, 127, 128, 129, 130, 131, 132, 133, 134, 135, 136, 137, 138, 139, 140, 141, 142, 143, 144, 145, 146, 147] (fun s18 _ _ _ _ _ _ _ _ _ _ _ _ _ _ _ _ _ _ _ _ _ _ _ _ _ _ _ _ _ _ _ _ _ _ wr => ∃ i : Nat, i ≤ 3 ∧ s18 = .int .i64 i ∧ Below WL.heap.size WL wr) (fun s18 _ _ _ _ _ _ _ _ _ _ _ _ _ _ _ _ _ _ _ _ _ _ _ _ _ _ _ _ _ _ _ _ _ _ _ => 3 - (intOf s18).toNat)
      case atStart => exact ⟨0, by omega, rfl, Below.refl _ _⟩
      case round =>
        obtain ⟨i, hi, rfl, hbl⟩ := hrel
        have HWR := Lib.hid hbl
        clear hbl
        have hic : i = 0 ∨ i = 1 ∨ i = 2 ∨ i = 3 := by omega
        rcases hic with rfl | rfl | rfl | rfl
        · have hrow := (HWR.out.cell (p := ⟨bb, 0, none⟩) (World.block_lt_of_cell? WL _ K0.out)).trans K0.out
          have hbs := Q0.out.below HWR.out
          have HBS := Lib.hid hbs
          have hpa := fun v (w : World) (h : Bs w v l0) => parse_any v l0 (by omega) w h
          have hra := fun v (w : World) (h : Bs w v l0) => rparse_any v l0 (by omega) w h
          have hst := equal_term (parseOf l0).1 (parseOf l0).1
          rw [show eqB (parseOf l0).1 (parseOf l0).1 = true from (eqB_iff _ _).2 rfl] at hst
          generalize parseOf l0 = R at hpa hra hst
          obtain ⟨⟨rk, rs', rl, rt⟩, re⟩ := R
          unfold Tm.val at hpa hra hst
          dsimp only at hpa hra hst
          have HPA := Lib.hid hpa
          have HRA := Lib.hid hra
          have HST := Lib.hid hst
          clear hbs hpa hra hst
          have hbb := World.block_lt_of_cell? wr _ hrow
          go_wp2_with (at_builtin; refine wpList_append_bytes rfl (.tmp 123) (.tmp 127) rfl wr.heap.size (.slice (some ⟨wr.heap.size, 0, none⟩) 0 0) [] rfl (Own.empty wr wr.heap.size (Nat.le_refl _)) (.slice (some ⟨g, 0, none⟩) m capc) l0 rfl (HBS.out.below ?u0a) ?u0b (by simp) ?_)
          case u0a => exact (Below.refl _ _).alloc (Nat.le_refl _) _
          case u0b => omega
          intro fv x1 ho hg
          have hx1 : Below wr.heap.size wr x1 := (Own.empty wr wr.heap.size (Nat.le_refl _)).step ((Below.refl _ _).alloc (Nat.le_refl _) _) hg (Nat.le_refl _) (by simp)
          have HO := Lib.hid ho.bs
          have HX1 := Lib.hid hx1
          clear ho hg hx1 hrow hbb
          go_wp2_with fail
          refine (HPA.out _ _ HO.out).mono ?_
          rintro e x2 ⟨rfl, hb2⟩
          have hal : Below x2.heap.size x2 (x2.alloc (.cells #[.int .i64 rk, .string rs', .string rl, .string rt] 23)) := (Below.refl _ _).alloc (Nat.le_refl _) _
          have hx2 := HX1.out.trans (hb2.mono HX1.out.size)
          have hx3 := hx2.trans (hal.mono hx2.size)
          have hbox : Box (x2.alloc (.cells #[.int .i64 rk, .string rs', .string rl, .string rt] 23)) x2.heap.size ⟨rk, rs', rl, rt⟩ := (Mine.at (g := ⟨rk, rs', rl, rt⟩)).1
          have HBX := Lib.hid hbox
          have HX3 := Lib.hid hx3
          have hrow := (hx3.cell (p := ⟨bb, 0, none⟩) (Nat.lt_of_lt_of_le (World.block_lt_of_cell? WL _ K0.out) HWR.out.size)).trans ((HWR.out.cell (p := ⟨bb, 0, none⟩) (World.block_lt_of_cell? WL _ K0.out)).trans K0.out)
          have HBS3 := Lib.hid (HBS.out.below hx3)
          clear hb2 hal hx2 hx3 hbox HO HX1 HPA
          go_wp2_with fail
          generalize x2.alloc _ = x3 at HBX HX3 HBS3 hrow ⊢
          generalize x2.heap.size = pp at HBX ⊢
          refine (HRA.out _ _ HBS3.out).mono ?_
          rintro e x4 ⟨rfl, hb4⟩
          have hal : Below x4.heap.size x4 (x4.alloc (.cells #[.int .i64 rk, .string rs', .string rl, .string rt] 23)) := (Below.refl _ _).alloc (Nat.le_refl _) _
          have hbox2 : Box (x4.alloc (.cells #[.int .i64 rk, .string rs', .string rl, .string rt] 23)) x4.heap.size ⟨rk, rs', rl, rt⟩ := (Mine.at (g := ⟨rk, rs', rl, rt⟩)).1
          have hx4 := HX3.out.trans (hb4.mono HX3.out.size)
          have HX5 := Lib.hid (hx4.trans (hal.mono hx4.size))
          obtain ⟨c0, c1, c2, c3⟩ := (HBX.out.below hb4).below hal
          obtain ⟨d0, d1, d2, d3⟩ := hbox2
          dsimp only at c0 c1 c2 c3 d0 d1 d2 d3
          have hst := HST.out
          clear hb4 hal hx4 hrow HBX HX3 HBS3 HRA HST
          go_wp2_with fail
          go_roundw
          case rel => exact ⟨1, by omega, rfl, HWR.out.trans (HX5.out.mono HWR.out.size)⟩
          case measure => simp [intOf]
        · have hrow := (HWR.out.cell (p := ⟨bb, 1, none⟩) (World.block_lt_of_cell? WL _ K1.out)).trans K1.out
          have hbs := Q1.out.below HWR.out
          have HBS := Lib.hid hbs
          have hpa := fun v (w : World) (h : Bs w v l1) => parse_any v l1 (by omega) w h
          have hra := fun v (w : World) (h : Bs w v l1) => rparse_any v l1 (by omega) w h
          have hst := equal_term (parseOf l1).1 (parseOf l1).1
          rw [show eqB (parseOf l1).1 (parseOf l1).1 = true from (eqB_iff _ _).2 rfl] at hst
          generalize parseOf l1 = R at hpa hra hst
          obtain ⟨⟨rk, rs', rl, rt⟩, re⟩ := R
          unfold Tm.val at hpa hra hst
          dsimp only at hpa hra hst
          have HPA := Lib.hid hpa
          have HRA := Lib.hid hra
          have HST := Lib.hid hst
          clear hbs hpa hra hst
          have hbb := World.block_lt_of_cell? wr _ hrow
          go_wp2_with (at_builtin; refine wpList_append_bytes rfl (.tmp 123) (.tmp 127) rfl wr.heap.size (.slice (some ⟨wr.heap.size, 0, none⟩) 0 0) [] rfl (Own.empty wr wr.heap.size (Nat.le_refl _)) (.slice ae l1.length ce) l1 rfl (HBS.out.below ?u1a) ?u1b (by simp) ?_)
          case u1a => exact (Below.refl _ _).alloc (Nat.le_refl _) _
          case u1b => omega
          intro fv x1 ho hg
          have hx1 : Below wr.heap.size wr x1 := (Own.empty wr wr.heap.size (Nat.le_refl _)).step ((Below.refl _ _).alloc (Nat.le_refl _) _) hg (Nat.le_refl _) (by simp)
          have HO := Lib.hid ho.bs
          have HX1 := Lib.hid hx1
          clear ho hg hx1 hrow hbb
          go_wp2_with fail
          refine (HPA.out _ _ HO.out).mono ?_
          rintro e x2 ⟨rfl, hb2⟩
          have hal : Below x2.heap.size x2 (x2.alloc (.cells #[.int .i64 rk, .string rs', .string rl, .string rt] 23)) := (Below.refl _ _).alloc (Nat.le_refl _) _
          have hx2 := HX1.out.trans (hb2.mono HX1.out.size)
          have hx3 := hx2.trans (hal.mono hx2.size)
          have hbox : Box (x2.alloc (.cells #[.int .i64 rk, .string rs', .string rl, .string rt] 23)) x2.heap.size ⟨rk, rs', rl, rt⟩ := (Mine.at (g := ⟨rk, rs', rl, rt⟩)).1
          have HBX := Lib.hid hbox
          have HX3 := Lib.hid hx3
          have hrow := (hx3.cell (p := ⟨bb, 1, none⟩) (Nat.lt_of_lt_of_le (World.block_lt_of_cell? WL _ K1.out) HWR.out.size)).trans ((HWR.out.cell (p := ⟨bb, 1, none⟩) (World.block_lt_of_cell? WL _ K1.out)).trans K1.out)
          have HBS3 := Lib.hid (HBS.out.below hx3)
          clear hb2 hal hx2 hx3 hbox HO HX1 HPA
          go_wp2_with fail
          generalize x2.alloc _ = x3 at HBX HX3 HBS3 hrow ⊢
          generalize x2.heap.size = pp at HBX ⊢
          refine (HRA.out _ _ HBS3.out).mono ?_
          rintro e x4 ⟨rfl, hb4⟩
          have hal : Below x4.heap.size x4 (x4.alloc (.cells #[.int .i64 rk, .string rs', .string rl, .string rt] 23)) := (Below.refl _ _).alloc (Nat.le_refl _) _
          have hbox2 : Box (x4.alloc (.cells #[.int .i64 rk, .string rs', .string rl, .string rt] 23)) x4.heap.size ⟨rk, rs', rl, rt⟩ := (Mine.at (g := ⟨rk, rs', rl, rt⟩)).1
          have hx4 := HX3.out.trans (hb4.mono HX3.out.size)
          have HX5 := Lib.hid (hx4.trans (hal.mono hx4.size))
          obtain ⟨c0, c1, c2, c3⟩ := (HBX.out.below hb4).below hal
          obtain ⟨d0, d1, d2, d3⟩ := hbox2
          dsimp only at c0 c1 c2 c3 d0 d1 d2 d3
          have hst := HST.out
          clear hb4 hal hx4 hrow HBX HX3 HBS3 HRA HST
          go_wp2_with fail
          go_roundw
          case rel => exact ⟨2, by omega, rfl, HWR.out.trans (HX5.out.mono HWR.out.size)⟩
          case measure => simp [intOf]
        · have hrow := (HWR.out.cell (p := ⟨bb, 2, none⟩) (World.block_lt_of_cell? WL _ K2.out)).trans K2.out
          have hbs := Q2.out.below HWR.out
          have HBS := Lib.hid hbs
          have hpa := fun v (w : World) (h : Bs w v rs) => parse_any v rs (by omega) w h
          have hra := fun v (w : World) (h : Bs w v rs) => rparse_any v rs (by omega) w h
          have hst := equal_term (parseOf rs).1 (parseOf rs).1
          rw [show eqB (parseOf rs).1 (parseOf rs).1 = true from (eqB_iff _ _).2 rfl] at hst
          generalize parseOf rs = R at hpa hra hst
          obtain ⟨⟨rk, rs', rl, rt⟩, re⟩ := R
          unfold Tm.val at hpa hra hst
          dsimp only at hpa hra hst
          have HPA := Lib.hid hpa
          have HRA := Lib.hid hra
          have HST := Lib.hid hst
          clear hbs hpa hra hst
          have hbb := World.block_lt_of_cell? wr _ hrow
          go_wp2_with (at_builtin; refine wpList_append_bytes rfl (.tmp 123) (.tmp 127) rfl wr.heap.size (.slice (some ⟨wr.heap.size, 0, none⟩) 0 0) [] rfl (Own.empty wr wr.heap.size (Nat.le_refl _)) (.slice a4 rs.length cap4) rs rfl (HBS.out.below ?u2a) ?u2b (by simp) ?_)
          case u2a => exact (Below.refl _ _).alloc (Nat.le_refl _) _
          case u2b => omega
          intro fv x1 ho hg
          have hx1 : Below wr.heap.size wr x1 := (Own.empty wr wr.heap.size (Nat.le_refl _)).step ((Below.refl _ _).alloc (Nat.le_refl _) _) hg (Nat.le_refl _) (by simp)
          have HO := Lib.hid ho.bs
          have HX1 := Lib.hid hx1
          clear ho hg hx1 hrow hbb
          go_wp2_with fail
          refine (HPA.out _ _ HO.out).mono ?_
          rintro e x2 ⟨rfl, hb2⟩
          have hal : Below x2.heap.size x2 (x2.alloc (.cells #[.int .i64 rk, .string rs', .string rl, .string rt] 23)) := (Below.refl _ _).alloc (Nat.le_refl _) _
          have hx2 := HX1.out.trans (hb2.mono HX1.out.size)
          have hx3 := hx2.trans (hal.mono hx2.size)
          have hbox : Box (x2.alloc (.cells #[.int .i64 rk, .string rs', .string rl, .string rt] 23)) x2.heap.size ⟨rk, rs', rl, rt⟩ := (Mine.at (g := ⟨rk, rs', rl, rt⟩)).1
          have HBX := Lib.hid hbox
          have HX3 := Lib.hid hx3
          have hrow := (hx3.cell (p := ⟨bb, 2, none⟩) (Nat.lt_of_lt_of_le (World.block_lt_of_cell? WL _ K2.out) HWR.out.size)).trans ((HWR.out.cell (p := ⟨bb, 2, none⟩) (World.block_lt_of_cell? WL _ K2.out)).trans K2.out)
          have HBS3 := Lib.hid (HBS.out.below hx3)
          clear hb2 hal hx2 hx3 hbox HO HX1 HPA
          go_wp2_with fail
          generalize x2.alloc _ = x3 at HBX HX3 HBS3 hrow ⊢
          generalize x2.heap.size = pp at HBX ⊢
          refine (HRA.out _ _ HBS3.out).mono ?_
          rintro e x4 ⟨rfl, hb4⟩
          have hal : Below x4.heap.size x4 (x4.alloc (.cells #[.int .i64 rk, .string rs', .string rl, .string rt] 23)) := (Below.refl _ _).alloc (Nat.le_refl _) _
          have hbox2 : Box (x4.alloc (.cells #[.int .i64 rk, .string rs', .string rl, .string rt] 23)) x4.heap.size ⟨rk, rs', rl, rt⟩ := (Mine.at (g := ⟨rk, rs', rl, rt⟩)).1
          have hx4 := HX3.out.trans (hb4.mono HX3.out.size)
          have HX5 := Lib.hid (hx4.trans (hal.mono hx4.size))
          obtain ⟨c0, c1, c2, c3⟩ := (HBX.out.below hb4).below hal
          obtain ⟨d0, d1, d2, d3⟩ := hbox2
          dsimp only at c0 c1 c2 c3 d0 d1 d2 d3
          have hst := HST.out
          clear hb4 hal hx4 hrow HBX HX3 HBS3 HRA HST
          go_wp2_with fail
          go_roundw
          case rel => exact ⟨3, by omega, rfl, HWR.out.trans (HX5.out.mono HWR.out.size)⟩
          case measure => simp [intOf]
        · go_wp2_with fail
          go_ret
          exact ⟨rfl, HBL.out.trans (HWR.out.mono HBL.out.size)⟩
end Go.Proofs.Ytpoacgnncinmiaa
