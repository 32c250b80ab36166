/- Package value: a run: leave. -/
import Derived.Test.YtecomfhbdonkbaaGreatDoorKq
import Derived.Test.YtecomfhbdonkbaaGreatDoorWR
namespace Go.Proofs.YtecomfhbdonkbaaGreatDoor
open Go.RowKit Go.Shelf Flo
set_option maxRecDepth 100000
set_option linter.unusedVariables false
set_option linter.unusedSimpArgs false

/-- One more Kid was told. -/
theorem kids_up (r : Nat) (sv : Value) (S : Stk) (v : Option Tm) (n k : Nat) (e : Exp) (f : Tm) (b o g cap : Nat) (w : World) (h : RunW w r sv (.slice (some ⟨g, 0, none⟩) (S.length + 1) cap) ((⟨n, e, k, f⟩, b, o) :: S) v) (hg : r < g) :
    RunW (w.setCell ⟨g, S.length * 6 + 1, none⟩ (.int .i64 ((k : Int) + 1))) r sv (.slice (some ⟨g, 0, none⟩) (S.length + 1) cap) ((⟨n, e, k + 1, f⟩, b, o) :: S) v ∧ Below r w (w.setCell ⟨g, S.length * 6 + 1, none⟩ (.int .i64 ((k : Int) + 1))) := by
  obtain ⟨h1, h2⟩ := h
  have hne : r ≠ g := by omega
  rw [← stk_push] at h2
  obtain ⟨a1, b1⟩ := OwG.setLast (a' := ⟨b, o, k + 1, f⟩) h2 waitC_len 1 (S.length * 6 + 1) (.int .i64 ((k : Int) + 1)) rfl (by simp)
  refine ⟨⟨h1.other _ _ hne, ?_⟩, (Below.refl r w).setCell (Nat.le_of_lt hg) _⟩
  rw [← stk_push]
  exact a1
/-- The one that waits last waits no more. -/
theorem way_cut (r : Nat) (sv : Value) (S : Stk) (x : Frm × Nat × Nat) (v : Option Tm) (g cap : Nat) (w : World) (h : RunW w r sv (.slice (some ⟨g, 0, none⟩) (S.length + 1) cap) (x :: S) v) (hg : r < g) :
    RunP (w.setCell ⟨r, 1, none⟩ (.slice (some ⟨g, 0, none⟩) S.length cap)) r sv S v ∧ Below r w (w.setCell ⟨r, 1, none⟩ (.slice (some ⟨g, 0, none⟩) S.length cap)) := by
  obtain ⟨h1, h2⟩ := h
  rw [← stk_push] at h2
  have h3 := OwG.front h2 waitC_len (by simp)
  have hl : (S.reverse.map wcOf).length = S.length := by simp
  rw [hl] at h3
  refine ⟨⟨.slice (some ⟨g, 0, none⟩) S.length cap, h1.set 1 _, h3.moved ((Moved.refl (fun k => k = r) w).setCell _ _ (.inl rfl)) (fun q hq => ?_)⟩, (Below.refl r w).setCell (Nat.le_refl _) _⟩
  have := (h3.lt q hq).1
  omega
set_option maxHeartbeats 1000000 in
theorem leave_any (B r : Nat) (sv : Value) (S : Stk) (v : Option Tm) (n k : Nat) (e : Exp) (f : Tm) (b o g cap : Nat) (w : World) (h : RunW w r sv (.slice (some ⟨g, 0, none⟩) (S.length + 1) cap) ((⟨n, e, k, f⟩, b, o) :: S) v) (hl : S.length < 100) (hk9 : k ≤ 1000)
    (HN : ∀ w1, RunW w1 r sv (.slice (some ⟨g, 0, none⟩) (S.length + 1) cap) ((⟨n, e, k + 1, f⟩, b, o) :: S) v → Below r w w1 → Calls Tryz.prog 49 #[.pointer (some ⟨r, 0, none⟩), .pointer (some ⟨g, S.length * 6, none⟩)] w1 fun e' w' => NextP ⟨n, e, k, f⟩ b o S r sv (.slice (some ⟨g, 0, none⟩) (S.length + 1) cap) v w1 e' w') (h0 : nextK ⟨n, e, k, f⟩ v = 0) :
    Calls Tryz.prog 29 #[.pointer (some ⟨r, 0, none⟩)] w fun e' w' => e' = .returned (.pointer none) ∧ RunP w' r sv S (doneV ⟨n, e, k, f⟩ v) ∧ Below r w w' := by
  have HR := Lib.hid h
  obtain ⟨g', cap', eg, hg1, hg2, hc1, hc2, hfz, hcl⟩ := h.last
  simp only [Value.slice.injEq, Option.some.injEq, Addr.mk.injEq, and_true, true_and] at eg
  obtain ⟨rfl, rfl⟩ := eg
  have q1 : w.cell? ⟨g, S.length * 6 + 1, none⟩ = some (.int .i64 (k : Int)) := hcl 1 _ rfl
  have f1 := hfz (S.length * 6 + 1)
  have c1 : w.cell? ⟨r, 1, none⟩ = some (.slice (some ⟨g, 0, none⟩) (S.length + 1) cap) := h.1.cell 1
  have HU := Lib.hid (kids_up r sv S v n k e f b o g cap w h hg1)
  have HCUT := Lib.hid (fun f' v' w1 h1 => way_cut r sv S (⟨n, e, k + 1, f'⟩, b, o) v' g cap w1 h1 hg1)
  have HNN := Lib.hid HN
  have H0 := Lib.hid h0
  have hne : ¬ g = r := by omega
  clear h HN h0 hfz hcl
  go_enter Tryz.func29, Tryz.ntmps29
  go_wp2_with fail
  refine (HNN.out _ HU.out.1 HU.out.2).mono ?_
  rintro e' w2 ⟨rfl, f', v', hr2, hb2, hv2, -⟩
  have e2 := hv2 H0.out
  subst e2
  rw [H0.out]
  have c2 : w2.cell? ⟨r, 1, none⟩ = some (.slice (some ⟨g, 0, none⟩) (S.length + 1) cap) := hr2.1.cell 1
  have f2 := hr2.1.frozen 1
  have HC2 := Lib.hid (HCUT.out _ _ w2 hr2)
  have HB2 := Lib.hid (HU.out.2.trans hb2)
  clear hr2 hb2 hv2
  go_wp2_with fail
  go_ret
  exact ⟨rfl, HC2.out.1, HB2.out.trans HC2.out.2⟩
set_option maxHeartbeats 1000000 in
theorem leave_on (B r : Nat) (sv : Value) (S : Stk) (v : Option Tm) (n k : Nat) (e : Exp) (f : Tm) (b o g cap m : Nat) (w : World) (h : RunW w r sv (.slice (some ⟨g, 0, none⟩) (S.length + 1) cap) ((⟨n, e, k, f⟩, b, o) :: S) v) (hl : S.length < 100) (hk9 : k ≤ 1000) (hB : B ≤ r) (hx : XP B w m b o e)
    (HN : ∀ w1, RunW w1 r sv (.slice (some ⟨g, 0, none⟩) (S.length + 1) cap) ((⟨n, e, k + 1, f⟩, b, o) :: S) v → Below r w w1 → Calls Tryz.prog 49 #[.pointer (some ⟨r, 0, none⟩), .pointer (some ⟨g, S.length * 6, none⟩)] w1 fun e' w' => NextP ⟨n, e, k, f⟩ b o S r sv (.slice (some ⟨g, 0, none⟩) (S.length + 1) cap) v w1 e' w') (h0 : nextK ⟨n, e, k, f⟩ v ≠ 0) (hlt : nextK ⟨n, e, k, f⟩ v < e.kids.length) :
    Calls Tryz.prog 29 #[.pointer (some ⟨r, 0, none⟩)] w fun e' w' => ∃ kb ko m' v', e' = .returned (.pointer (some ⟨kb, ko + nextK ⟨n, e, k, f⟩ v * 6, none⟩)) ∧ m = m' + 1 ∧ XP B w m' kb (ko + nextK ⟨n, e, k, f⟩ v * 6) (e.kid (nextK ⟨n, e, k, f⟩ v)) ∧ SizeOf.sizeOf (e.kid (nextK ⟨n, e, k, f⟩ v)) < SizeOf.sizeOf e ∧ RunP w' r sv (((⟨n, e, k, f⟩ : Frm).next v, b, o) :: S) v' ∧ Below r w w' := by
  have HR := Lib.hid h
  obtain ⟨kb, ko, kcap, m', hm, x5, hkb, hxk, hsz⟩ := hx.kid hlt
  have hbB := hx.1
  obtain ⟨g', cap', eg, hg1, hg2, hc1, hc2, hfz, hcl⟩ := h.last
  simp only [Value.slice.injEq, Option.some.injEq, Addr.mk.injEq, and_true, true_and] at eg
  obtain ⟨rfl, rfl⟩ := eg
  have q1 : w.cell? ⟨g, S.length * 6 + 1, none⟩ = some (.int .i64 (k : Int)) := hcl 1 _ rfl
  have f1 := hfz (S.length * 6 + 1)
  have c1 : w.cell? ⟨r, 1, none⟩ = some (.slice (some ⟨g, 0, none⟩) (S.length + 1) cap) := h.1.cell 1
  have HU := Lib.hid (kids_up r sv S v n k e f b o g cap w h hg1)
  have HNN := Lib.hid HN
  have H0 := Lib.hid h0
  have HXK := Lib.hid (And.intro hm (And.intro hxk hsz))
  have HX5 := Lib.hid (fun w2 (hb : Below r w w2) => (hb.cell (p := ⟨b, o + 5, none⟩) (Nat.lt_of_lt_of_le hbB hB)).trans x5)
  have hne : ¬ g = r := by omega
  obtain ⟨K, hK⟩ : ∃ K, K = nextK ⟨n, e, k, f⟩ v := ⟨_, rfl⟩
  rw [← hK] at H0 HXK hlt ⊢
  have HK := Lib.hid hK
  have hK0 : ((K : Int) == 0) = false := beq_eq_false_iff_ne.2 (by have := H0.out; omega)
  have hKi : (K : Int) < (e.kids.length : Int) := by omega
  clear h HN h0 hfz hcl hx hxk hm hsz hK x5
  go_enter Tryz.func29, Tryz.ntmps29
  go_wp2_with fail
  refine (HNN.out _ HU.out.1 HU.out.2).mono ?_
  rintro e' w2 ⟨rfl, f', v', hr2, hb2, -, hf2⟩
  have e2 := hf2 (by rw [← HK.out]; exact H0.out)
  subst e2
  rw [← HK.out]
  obtain ⟨g2, cap2, eg2, -, -, -, -, -, hcl2⟩ := hr2.last
  simp only [Value.slice.injEq, Option.some.injEq, Addr.mk.injEq, and_true, true_and] at eg2
  obtain ⟨rfl, rfl⟩ := eg2
  have p0 : w2.cell? ⟨g, S.length * 6, none⟩ = some (.pointer (some ⟨b, o, none⟩)) := hcl2 0 _ rfl
  have HB2 := Lib.hid (HU.out.2.trans hb2)
  have p5 := HX5.out w2 HB2.out
  have HR2 := Lib.hid hr2.runP
  clear hr2 hb2 hf2 hcl2
  go_wp2_with fail
  go_ret
  exact ⟨kb, ko, m', _, rfl, HXK.out.1, HXK.out.2.1, HXK.out.2.2, HR2.out, HB2.out⟩
end Go.Proofs.YtecomfhbdonkbaaGreatDoor
/- Package value, plain: what is told is small. -/
namespace Go.Proofs.YtecomfhbdonkbaaGreatDoor
open Go.RowKit Go.Shelf Flo
set_option maxRecDepth 100000
set_option linter.unusedVariables false
set_option linter.unusedSimpArgs false

theorem nDf_le : ∀ (f u : Nat), nDf f u ≤ f + 1
  | 0, _ => Nat.le_refl _
  | f + 1, u => by
    show (if u < 10 then 1 else nDf f (u / 10) + 1) ≤ f + 1 + 1
    have := nDf_le f (u / 10)
    split <;> omega
theorem absF_len (n s : Nat) (h : s ≤ 20) : (absF n s).length ≤ 60 := by
  have h1 := nDf_le 15 n
  unfold absF
  rw [List.length_append, List.length_take, fixL_length]
  split
  · simp only [List.length_nil]; omega
  · rw [List.length_cons, List.length_drop, fixL_length]; omega
theorem printF_len (m : Int) (s : Nat) (h : s ≤ 20) : (printF m s).length ≤ 61 := by
  have h1 := absF_len m.natAbs s h
  unfold printF
  split
  · rw [List.length_cons]; omega
  · omega
theorem mkT_sm {k : Int} {s l t : List UInt8} (hk : -9223372036854775808 ≤ k ∧ k ≤ 9223372036854775807) (hs : s.length ≤ 200) (hl : l.length ≤ 200) (ht : t.length ≤ 200) : (mkT k s l t).Sm :=
  ⟨hk, by show (s.toArray).size ≤ 200; simpa using hs, by show (l.toArray).size ≤ 200; simpa using hl, by show (t.toArray).size ≤ 200; simpa using ht⟩
theorem boolT_sm (b : Bool) : (boolT b).Sm := by cases b <;> exact mkT_sm (by decide) (by decide) (by decide) (by decide)
theorem zeroT_sm : zeroT.Sm := ⟨by decide, by decide, by decide, by decide⟩
theorem litT_sm {s : List UInt8} (h : s.length ≤ 200) : (litT s).Sm := mkT_sm (by decide) h (by decide) (by decide)
theorem Tm.Sm.sl {t : Tm} (h : t.Sm) : t.sl.length ≤ 200 := h.s
theorem Tm.Sm.ll {t : Tm} (h : t.Sm) : t.ll.length ≤ 200 := h.l
theorem Tm.Sm.tl {t : Tm} (h : t.Sm) : t.tl.length ≤ 200 := h.t
theorem wtNum_num {o : Option (Int × Nat)} {m : Int} {s : Nat} (h : wtNum o = .num m s) : o = some (m, s) := by
  cases o with
  | none => cases h
  | some p =>
    obtain ⟨a, b⟩ := p
    have h' : Wt.num a b = Wt.num m s := h
    cases h'
    rfl
theorem numO_fits {t : Tm} {p : Int × Nat} (h : numO t = some p) : p.2 ≤ 6 := by
  have hd : decO t.sl = some p := by
    unfold numO at h
    generalize hw : wt t = x at h
    cases x with
    | num m s =>
      cases h
      unfold wt at hw
      split at hw
      · split at hw
        · split at hw
          · cases hw
          · exact wtNum_num hw
        · split at hw
          · exact wtNum_num hw
          · split at hw
            · split at hw
              · cases hw
              · split at hw <;> cases hw
            · split at hw
              · split at hw <;> cases hw
              · cases hw
      · cases hw
    | tr b => cases h
    | plain n => cases h
    | spoken => cases h
    | strange => cases h
    | node => cases h
  have hg := decO_good hd
  unfold GoodD at hg
  omega
theorem numeralT_sm {p : Int × Nat} {k : List UInt8} (h : p.2 ≤ 6) (hk : k.length ≤ 200) : (numeralT p k).Sm :=
  mkT_sm (by decide) (by have := printF_len p.1 p.2 (by omega); omega) (by decide) hk
theorem typeL_len {t : Tm} (h : t.Sm) : (typeL t).length ≤ 200 := by
  unfold typeL
  split
  · split <;> decide
  · exact h.tl
theorem map_boolT {o : Option Bool} {f : Bool → Bool} {y : Tm} (h : o.map (fun b => boolT (f b)) = some y) : y.Sm := by
  cases o with
  | none => cases h
  | some b => cases h; exact boolT_sm _
theorem oneO_sm {op : Int} {t y : Tm} (ht : t.Sm) (h : oneO op t = some y) : y.Sm := by
  unfold oneO at h
  split at h
  · exact map_boolT (f := fun b => !b) h
  split at h
  · cases hn : numO t with
    | none => rw [hn] at h; cases h
    | some p => rw [hn] at h; cases h; exact numeralT_sm (p := (-p.1, p.2)) (show p.2 ≤ 6 from numO_fits hn) ht.tl
  split at h
  · split at h
    · cases h; exact litT_sm ht.sl
    · cases h
  split at h
  · split at h
    · cases h; exact litT_sm ht.ll
    · cases h
  split at h
  · split at h
    · cases h; exact mkT_sm (by decide) (typeL_len ht) (by decide) (by decide)
    · cases h
  split at h
  · split at h
    · cases h; exact mkT_sm (by decide) (by have := printF_len (t.s.size : Int) 0 (by omega); omega) (by decide) (by decide)
    · cases h
  split at h
  · cases h; exact boolT_sm _
  split at h
  · cases h; exact boolT_sm _
  split at h
  · cases h; exact boolT_sm _
  · cases h
theorem twoO_sm {op : Int} {a b y : Tm} (ha : a.Sm) (hb : b.Sm) (h : twoO op a b = some y) : y.Sm := by
  unfold twoO at h
  split at h
  · unfold logicO at h
    generalize (if op = 2 then max (lvl a) (lvl b) else min (lvl a) (lvl b)) = z at h
    split at h
    · cases h
    · cases h; exact boolT_sm _
  split at h
  · split at h
    · cases h; exact boolT_sm _
    · cases h
  split at h
  · split at h
    · cases h; exact boolT_sm _
    · cases h
  split at h
  · exact map_boolT (f := fun b => b) h
  split at h
  · exact map_boolT (f := fun b => b) h
  split at h
  · exact map_boolT (f := fun l => l || (equalO a b).1) h
  split at h
  · exact map_boolT (f := fun l => l || (equalO b a).1) h
  split at h
  · split at h
    · cases h; exact boolT_sm _
    · cases h
  split at h
  · cases h; exact boolT_sm _
  split at h
  · unfold reckonO at h
    split at h
    · split at h
      · rename_i hf
        cases h
        refine numeralT_sm ?_ ?_
        · unfold fitsL at hf
          simp only [Bool.and_eq_true, decide_eq_true_eq] at hf
          exact hf.2
        · split
          · exact ha.tl
          · decide
      · cases h
    · cases h
  · cases h
/-- What is told, if anything, is small. -/
def VSm (v : Option Tm) : Prop := (v.getD zeroT).Sm
theorem VSm.of {v : Option Tm} (h : ∀ y, v = some y → y.Sm) : VSm v := by
  cases v with
  | none => exact zeroT_sm
  | some y => exact h y rfl
theorem two2_sm {op : Int} {f : Tm} {v : Option Tm} (hf : f.Sm) (hv : VSm v) : VSm (two2 op f v) := by
  refine VSm.of fun y hy => ?_
  unfold two2 at hy
  split at hy
  · exact twoO_sm hf hv hy
  · cases v with
    | none => cases hy
    | some z => exact twoO_sm hf hv hy
theorem doneV_sm {x : Frm} {v : Option Tm} (hf : x.f.Sm) (hv : VSm v) : VSm (doneV x v) := by
  unfold doneV
  split
  · exact hv
  split
  · split
    · exact zeroT_sm
    · exact hv
  split
  · exact zeroT_sm
  split
  · refine VSm.of fun y hy => ?_
    cases v with
    | none => cases hy
    | some z => exact oneO_sm (show z.Sm from hv) hy
  · exact two2_sm hf hv
theorem nextF_sm {x : Frm} {v : Option Tm} (hf : x.f.Sm) (hv : VSm v) : (nextF x v).Sm := by
  unfold nextF
  split
  · exact hf
  · exact hv
end Go.Proofs.YtecomfhbdonkbaaGreatDoor
/- Package value: a run: next, two. -/
namespace Go.Proofs.YtecomfhbdonkbaaGreatDoor
open Go.RowKit Go.Shelf Flo
set_option maxRecDepth 100000
set_option linter.unusedVariables false
set_option linter.unusedSimpArgs false

/-- The tables that a run leans on. -/
structure Tabs (w : World) : Prop where
  pow : PowAt w
  tab : TabP w
  max : MaxAt w
theorem Tabs.below {w w' : World} (h : Tabs w) (hb : Below w.heap.size w w') : Tabs w' := ⟨h.pow.below hb, h.tab.below hb, h.max.below hb⟩
/-- two2, where it is reckoned. -/
theorem two2_at {op : Int} {f : Tm} {v : Option Tm} (hc : ¬ (v.isNone = true ∧ ¬ (op = 2 ∨ op = 3))) : two2 op f v = twoO op f (v.getD zeroT) := by
  unfold two2
  split
  · rfl
  · rename_i h
    cases v with
    | none => exact absurd ⟨rfl, h⟩ hc
    | some y => rfl
theorem RunW.firstC {w : World} {r : Nat} {sv : Value} {S : Stk} {v : Option Tm} {n k : Nat} {e : Exp} {f : Tm} {b o g cap : Nat} (h : RunW w r sv (.slice (some ⟨g, 0, none⟩) (S.length + 1) cap) ((⟨n, e, k, f⟩, b, o) :: S) v) :
    w.cell? ⟨g, S.length * 6 + 2, none⟩ = some (.int .i64 f.k) ∧ w.cell? ⟨g, S.length * 6 + 3, none⟩ = some (.string f.s) ∧ w.cell? ⟨g, S.length * 6 + 4, none⟩ = some (.string f.l) ∧ w.cell? ⟨g, S.length * 6 + 5, none⟩ = some (.string f.t) := by
  obtain ⟨g', cap', eg, -, -, -, -, -, hcl⟩ := h.last
  simp only [Value.slice.injEq, Option.some.injEq, Addr.mk.injEq, and_true, true_and] at eg
  obtain ⟨rfl, rfl⟩ := eg
  exact ⟨hcl 2 _ rfl, hcl 3 _ rfl, hcl 4 _ rfl, hcl 5 _ rfl⟩
theorem fits_two {op : Int} {n : Nat} (h : fitsO op n = true) (h26 : op ≠ 26) (h25 : op ≠ 25) (h1 : op ≠ 1) (hn : n ≠ 1) : n = 2 ∧ (op = 2 ∨ op = 3 ∨ op = 5 ∨ op = 6 ∨ op = 7 ∨ op = 8 ∨ op = 9 ∨ op = 10 ∨ op = 11 ∨ op = 12 ∨ op = 13 ∨ op = 19 ∨ op = 24) := by
  unfold fitsO at h
  rw [if_neg h26, if_neg h25, if_neg h1] at h
  split at h
  · exact absurd (of_decide_eq_true h) hn
  · rename_i hc
    split at h
    · exact ⟨of_decide_eq_true h, by omega⟩
    · cases h
set_option maxHeartbeats 1000000 in
theorem next_two (B r : Nat) (sv : Value) (S : Stk) (v : Option Tm) (n k : Nat) (e : Exp) (f : Tm) (b o g cap m : Nat) (w : World) (h : RunW w r sv (.slice (some ⟨g, 0, none⟩) (S.length + 1) cap) ((⟨n, e, k + 1, f⟩, b, o) :: S) v) (hB : B ≤ r) (hx : XP B w m b o e) (hok : (⟨n, e, k, f⟩ : Frm).Ok) (hk9 : k ≤ 1000) (h26 : e.op ≠ 26) (h25 : e.op ≠ 25) (hl1 : e.kids.length ≠ 1) (hk0 : k ≠ 0) (hc : ¬ (v.isNone = true ∧ ¬ (e.op = 2 ∨ e.op = 3))) (hv : (v.getD zeroT).Sm) (hf : f.Sm) (hT : ∀ w1, Below r w w1 → Tabs w1) :
    Calls Tryz.prog 49 #[.pointer (some ⟨r, 0, none⟩), .pointer (some ⟨g, S.length * 6, none⟩)] w fun e' w' => NextP ⟨n, e, k, f⟩ b o S r sv (.slice (some ⟨g, 0, none⟩) (S.length + 1) cap) v w e' w' := by
  obtain ⟨hl2, hop2⟩ := fits_two hok.fits h26 h25 hok.op1 hl1
  have hk1 : k = 1 := by
    have h1 : k < e.kids.length := hok.k
    have h2 : e.kids.length = 2 := hl2
    omega
  subst hk1
  have HR := Lib.hid h
  have HRL := Lib.hid h.lt
  obtain ⟨g', cap', eg, hg1, hg2, hc1, hc2, hfz, hcl⟩ := h.last
  simp only [Value.slice.injEq, Option.some.injEq, Addr.mk.injEq, and_true, true_and] at eg
  obtain ⟨rfl, rfl⟩ := eg
  have q0 : w.cell? ⟨g, S.length * 6, none⟩ = some (.pointer (some ⟨b, o, none⟩)) := hcl 0 _ rfl
  have q1 : w.cell? ⟨g, S.length * 6 + 1, none⟩ = some (.int .i64 ((1 + 1 : Nat) : Int)) := hcl 1 _ rfl
  rw [Int.natCast_add, Int.natCast_one] at q1
  obtain ⟨c2, c3, c4, c5, c6⟩ := h.runP.told
  obtain ⟨hbB, hpl, kv, hxc, hop, hsm, hk⟩ := hx
  obtain ⟨hk1000, kp, kcap, rfl⟩ := hk.form
  obtain ⟨x0, x1, x2, x3, x4, x5⟩ := hxc
  have e26 : (e.op == 26) = false := beq_eq_false_iff_ne.2 h26
  have e25 : (e.op == 25) = false := beq_eq_false_iff_ne.2 h25
  have el : ((e.kids.length : Int) == 1) = false := beq_eq_false_iff_ne.2 (by omega)
  have HK := Lib.hid (show nextK ⟨n, e, 1, f⟩ v = 0 from (if_neg h26).trans ((if_neg h25).trans ((if_neg hc).trans ((if_neg hl1).trans (if_neg (show ¬ (1 : Nat) = 0 from by decide))))))
  have HD := Lib.hid (show doneV ⟨n, e, 1, f⟩ v = twoO e.op f (v.getD zeroT) from (if_neg h26).trans ((if_neg h25).trans ((if_neg hc).trans ((if_neg hl1).trans (two2_at hc)))))
  obtain ⟨q, hq⟩ : ∃ q, q = twoO e.op f (v.getD zeroT) := ⟨_, rfl⟩
  have HO := Lib.hid (fun wz (hz : Below r w wz) => two_any e.op hop2 f (v.getD zeroT) hf hv wz (hT wz hz).pow (hT wz hz).tab (hT wz hz).max)
  rw [← hq] at HO HD
  unfold Tm.val at HO
  have q1' : w.cell? ⟨g, S.length * 6 + 1, none⟩ = some (.int .i64 2) := q1
  clear q1
  have HQ := Lib.hid (fun (z : Int) (hz : z = (nextK ⟨n, e, 1, f⟩ v : Int)) (w' : World) (hw : RunW w' r sv (.slice (some ⟨g, 0, none⟩) (S.length + 1) cap) ((⟨n, e, 1 + 1, f⟩, b, o) :: S) (q)) (hb : Below r w w') => show NextP ⟨n, e, 1, f⟩ b o S r sv (.slice (some ⟨g, 0, none⟩) (S.length + 1) cap) v w (.returned (.int .i64 z)) w' from ⟨by rw [hz], f, q, hw, hb, fun _ => HD.out.symm, fun h => absurd HK.out h⟩)
  have hxq := hq
  clear hq hxq
  have hcc : v.isSome = true ∨ e.op = 2 ∨ e.op = 3 := by
    by_cases hh : e.op = 2 ∨ e.op = 3
    · exact .inr hh
    · cases hvv : v with
      | some y => exact .inl rfl
      | none => exact absurd ⟨by rw [hvv]; rfl, hh⟩ hc
  clear hc c2 c3 c4 c5 hT hv hf
  obtain ⟨vi, hvi⟩ : ∃ vi, vi = v.isSome := ⟨_, rfl⟩
  rw [← hvi] at c6 hcc
  clear hvi
  generalize e.op = op at e26 e25 x0 hcc HO
  clear h26 h25 hop2 hok hl1 hk0 hl2
  rcases hcc with rfl | rfl | rfl
  · clear h hk hpl hsm hop hcl
    go_enter Tryz.func49, Tryz.ntmps49
    go_wp2_with fail
    go_quiet (fail)
    go_wp2_with fail
    refine wp_region_any (by kernel_rfl) ?_
    change wpAny _ _ _ _ _ _ _ (World.drew _)
    refine wpAny_of_T (C := fun z => RunW z r sv (.slice (some ⟨g, 0, none⟩) (S.length + 1) cap) ((⟨n, e, 1 + 1, f⟩, b, o) :: S) v ∧ Below r w z) (T := [13]) _ _ _ _ ?_
    have hS : (fun z => RunW z r sv (.slice (some ⟨g, 0, none⟩) (S.length + 1) cap) ((⟨n, e, 1 + 1, f⟩, b, o) :: S) v ∧ Below r w z) (World.drew (w.drewN nq)) := ⟨HR.out.below ⟨rfl, rfl, rfl, Nat.le_refl _, fun _ _ => rfl⟩, ⟨rfl, rfl, rfl, Nat.le_refl _, fun _ _ => rfl⟩⟩
    generalize World.drew (w.drewN nq) = wq at hS ⊢
    refine wpAnyT_take (i := 0) (oi := ⟨some 22, _, _, _, _, _⟩) (v := ?_) rfl (by kernel_rfl) (by kernel_rfl) (by kernel_rfl) (by kernel_rfl) (fun _ _ _ h => h) (Or.inl ⟨by simp only [Region.wanted], ?_⟩) hS ?_
    rotate_left
    · intro wz hSw
      clear hSw
      go_simp
      first | done | with_reducible rfl
    try simp only [Act.put, List.setIfInBounds_toArray, List.set_cons_zero, List.set_cons_succ]
    refine wpAnyT_take (i := 1) (oi := ⟨some 23, _, _, _, _, _⟩) (v := ?_) rfl (by kernel_rfl) (by kernel_rfl) (by kernel_rfl) (by kernel_rfl) (fun _ _ _ h => h) (Or.inl ⟨by simp only [Region.wanted], ?_⟩) hS ?_
    rotate_left
    · intro wz hSw
      clear hSw
      go_simp
      first | done | with_reducible rfl
    try simp only [Act.put, List.setIfInBounds_toArray, List.set_cons_zero, List.set_cons_succ]
    refine wpAnyT_take (i := 2) (oi := ⟨some 24, _, _, _, _, _⟩) (v := ?_) rfl (by kernel_rfl) (by kernel_rfl) (by kernel_rfl) (by kernel_rfl) (fun _ _ _ h => h) (Or.inl ⟨by simp only [Region.wanted], ?_⟩) hS ?_
    rotate_left
    · intro wz hSw
      clear hSw
      go_simp
      first | done | with_reducible rfl
    try simp only [Act.put, List.setIfInBounds_toArray, List.set_cons_zero, List.set_cons_succ]
    refine wpAnyT_take (i := 3) (oi := ⟨some 25, _, _, _, _, _⟩) (v := ?_) rfl (by kernel_rfl) (by kernel_rfl) (by kernel_rfl) (by kernel_rfl) (fun _ _ _ h => h) (Or.inl ⟨by simp only [Region.wanted], ?_⟩) hS ?_
    rotate_left
    · intro wz hSw
      clear hSw
      go_simp
      first | done | with_reducible rfl
    try simp only [Act.put, List.setIfInBounds_toArray, List.set_cons_zero, List.set_cons_succ]
    refine wpAnyT_take (i := 4) (oi := ⟨some 26, _, _, _, _, _⟩) (v := ?_) rfl (by kernel_rfl) (by kernel_rfl) (by kernel_rfl) (by kernel_rfl) (fun _ _ _ h => h) (Or.inl ⟨by simp only [Region.wanted], ?_⟩) hS ?_
    rotate_left
    · intro wz hSw
      clear hSw
      go_simp
      first | done | with_reducible rfl
    try simp only [Act.put, List.setIfInBounds_toArray, List.set_cons_zero, List.set_cons_succ]
    refine wpAnyT_take (i := 5) (oi := ⟨some 27, _, _, _, _, _⟩) (v := ?_) rfl (by kernel_rfl) (by kernel_rfl) (by kernel_rfl) (by kernel_rfl) (fun _ _ _ h => h) (Or.inl ⟨by simp only [Region.wanted], ?_⟩) hS ?_
    rotate_left
    · intro wz hSw; obtain ⟨t2, t3, t4, t5⟩ := hSw.1.firstC
      clear hSw
      go_simp
      first | done | with_reducible rfl
    try simp only [Act.put, List.setIfInBounds_toArray, List.set_cons_zero, List.set_cons_succ]
    refine wpAnyT_take (i := 6) (oi := ⟨some 28, _, _, _, _, _⟩) (v := ?_) rfl (by kernel_rfl) (by kernel_rfl) (by kernel_rfl) (by kernel_rfl) (fun _ _ _ h => h) (Or.inl ⟨by simp only [Region.wanted], ?_⟩) hS ?_
    rotate_left
    · intro wz hSw
      clear hSw
      go_simp
      first | done | with_reducible rfl
    try simp only [Act.put, List.setIfInBounds_toArray, List.set_cons_zero, List.set_cons_succ]
    refine wpAnyT_take (i := 7) (oi := ⟨some 29, _, _, _, _, _⟩) (v := ?_) rfl (by kernel_rfl) (by kernel_rfl) (by kernel_rfl) (by kernel_rfl) (fun _ _ _ h => h) (Or.inl ⟨by simp only [Region.wanted], ?_⟩) hS ?_
    rotate_left
    · intro wz hSw
      clear hSw
      go_simp
      first | done | with_reducible rfl
    try simp only [Act.put, List.setIfInBounds_toArray, List.set_cons_zero, List.set_cons_succ]
    refine wpAnyT_take (i := 8) (oi := ⟨some 30, _, _, _, _, _⟩) (v := ?_) rfl (by kernel_rfl) (by kernel_rfl) (by kernel_rfl) (by kernel_rfl) (fun _ _ _ h => h) (Or.inl ⟨by simp only [Region.wanted], ?_⟩) hS ?_
    rotate_left
    · intro wz hSw
      clear hSw
      go_simp
      first | done | with_reducible rfl
    try simp only [Act.put, List.setIfInBounds_toArray, List.set_cons_zero, List.set_cons_succ]
    refine wpAnyT_take (i := 9) (oi := ⟨some 31, _, _, _, _, _⟩) (v := ?_) rfl (by kernel_rfl) (by kernel_rfl) (by kernel_rfl) (by kernel_rfl) (fun _ _ _ h => h) (Or.inl ⟨by simp only [Region.wanted], ?_⟩) hS ?_
    rotate_left
    · intro wz hSw; obtain ⟨d2, d3, d4, d5, d6⟩ := hSw.1.runP.told
      clear hSw
      go_simp
      first | done | with_reducible rfl
    try simp only [Act.put, List.setIfInBounds_toArray, List.set_cons_zero, List.set_cons_succ]
    refine wpAnyT_ready (rs := [10]) (by kernel_rfl) (by simp) ?_
    refine AllReadyT.cons (o := ⟨some 32, _, _, _, _, _⟩) rfl (fun KK hK => ?_) (AllReadyT.nil)
    · go_simp
      refine (HO.out _ hS.2).mono ?_
      rintro e' w1 ⟨⟨x, rfl, hxo⟩, hb1⟩
      have HX := Lib.hid hxo
      have HC1 := Lib.hid (And.intro (hS.1.below hb1) (hS.2.trans (hb1.mono (Nat.le_of_lt hS.1.lt))))
      clear hxo hb1
      go_wp2_with fail
      refine hK.out _ _ (HC1.out) (fun hS => ?_)
      clear hK KK
      try simp only [Act.put, List.setIfInBounds_toArray, List.set_cons_zero, List.set_cons_succ]
      refine wpAnyT_take (i := 11) (oi := ⟨some 33, _, _, _, _, _⟩) (v := ?_) rfl (by kernel_rfl) (by kernel_rfl) (by kernel_rfl) (by kernel_rfl) (fun _ _ _ h => h) (Or.inl ⟨by simp only [Region.wanted], ?_⟩) hS ?_
      rotate_left
      · intro wz hSw
        clear hSw
        go_simp
        first | done | with_reducible rfl
      try simp only [Act.put, List.setIfInBounds_toArray, List.set_cons_zero, List.set_cons_succ]
      refine wpAnyT_take (i := 12) (oi := ⟨some 34, _, _, _, _, _⟩) (v := ?_) rfl (by kernel_rfl) (by kernel_rfl) (by kernel_rfl) (by kernel_rfl) (fun _ _ _ h => h) (Or.inl ⟨by simp only [Region.wanted], ?_⟩) hS ?_
      rotate_left
      · intro wz hSw
        clear hSw
        go_simp
        first | done | with_reducible rfl
      try simp only [Act.put, List.setIfInBounds_toArray, List.set_cons_zero, List.set_cons_succ]
      refine wpAnyT_ready (rs := [13]) (by kernel_rfl) (by simp) ?_
      refine AllReadyT.last (o := ⟨some 35, _, _, _, _, _⟩) rfl (by kernel_rfl) (fun KK hK => ?_) (AllReadyT.nil)
      · go_simp
        refine (tellW r sv (.slice (some ⟨g, 0, none⟩) (S.length + 1) cap) ((⟨n, e, 1 + 1, f⟩, b, o) :: S) v x q.isSome _ hS.1).mono ?_
        rintro e' w3 ⟨rfl, hr3, hb3⟩
        rw [opt_tells HX.out] at hr3
        have HX3 := Lib.hid (HQ.out 0 (by rw [HK.out]; rfl) w3 hr3 (hS.2.trans hb3))
        clear hr3 hb3
        go_wp2_with fail
        refine hK.out _ _ ?_
        clear hK KK
        try simp only [Act.put, List.setIfInBounds_toArray, List.set_cons_zero, List.set_cons_succ]
        refine wpAnyT_done (by kernel_rfl) ?_ _
        go_wp2_with fail
        go_ret
        exact HX3.out
  · cases vi
    · clear h hk hpl hsm hop hcl
      go_enter Tryz.func49, Tryz.ntmps49
      go_wp2_with fail
      go_quiet (fail)
      go_wp2_with fail
      refine wp_region_any (by kernel_rfl) ?_
      change wpAny _ _ _ _ _ _ _ (World.drew _)
      refine wpAny_of_T (C := fun z => RunW z r sv (.slice (some ⟨g, 0, none⟩) (S.length + 1) cap) ((⟨n, e, 1 + 1, f⟩, b, o) :: S) v ∧ Below r w z) (T := [13]) _ _ _ _ ?_
      have hS : (fun z => RunW z r sv (.slice (some ⟨g, 0, none⟩) (S.length + 1) cap) ((⟨n, e, 1 + 1, f⟩, b, o) :: S) v ∧ Below r w z) (World.drew (w.drewN nq)) := ⟨HR.out.below ⟨rfl, rfl, rfl, Nat.le_refl _, fun _ _ => rfl⟩, ⟨rfl, rfl, rfl, Nat.le_refl _, fun _ _ => rfl⟩⟩
      generalize World.drew (w.drewN nq) = wq at hS ⊢
      refine wpAnyT_take (i := 0) (oi := ⟨some 22, _, _, _, _, _⟩) (v := ?_) rfl (by kernel_rfl) (by kernel_rfl) (by kernel_rfl) (by kernel_rfl) (fun _ _ _ h => h) (Or.inl ⟨by simp only [Region.wanted], ?_⟩) hS ?_
      rotate_left
      · intro wz hSw
        clear hSw
        go_simp
        first | done | with_reducible rfl
      try simp only [Act.put, List.setIfInBounds_toArray, List.set_cons_zero, List.set_cons_succ]
      refine wpAnyT_take (i := 1) (oi := ⟨some 23, _, _, _, _, _⟩) (v := ?_) rfl (by kernel_rfl) (by kernel_rfl) (by kernel_rfl) (by kernel_rfl) (fun _ _ _ h => h) (Or.inl ⟨by simp only [Region.wanted], ?_⟩) hS ?_
      rotate_left
      · intro wz hSw
        clear hSw
        go_simp
        first | done | with_reducible rfl
      try simp only [Act.put, List.setIfInBounds_toArray, List.set_cons_zero, List.set_cons_succ]
      refine wpAnyT_take (i := 2) (oi := ⟨some 24, _, _, _, _, _⟩) (v := ?_) rfl (by kernel_rfl) (by kernel_rfl) (by kernel_rfl) (by kernel_rfl) (fun _ _ _ h => h) (Or.inl ⟨by simp only [Region.wanted], ?_⟩) hS ?_
      rotate_left
      · intro wz hSw
        clear hSw
        go_simp
        first | done | with_reducible rfl
      try simp only [Act.put, List.setIfInBounds_toArray, List.set_cons_zero, List.set_cons_succ]
      refine wpAnyT_take (i := 3) (oi := ⟨some 25, _, _, _, _, _⟩) (v := ?_) rfl (by kernel_rfl) (by kernel_rfl) (by kernel_rfl) (by kernel_rfl) (fun _ _ _ h => h) (Or.inl ⟨by simp only [Region.wanted], ?_⟩) hS ?_
      rotate_left
      · intro wz hSw
        clear hSw
        go_simp
        first | done | with_reducible rfl
      try simp only [Act.put, List.setIfInBounds_toArray, List.set_cons_zero, List.set_cons_succ]
      refine wpAnyT_take (i := 4) (oi := ⟨some 26, _, _, _, _, _⟩) (v := ?_) rfl (by kernel_rfl) (by kernel_rfl) (by kernel_rfl) (by kernel_rfl) (fun _ _ _ h => h) (Or.inl ⟨by simp only [Region.wanted], ?_⟩) hS ?_
      rotate_left
      · intro wz hSw
        clear hSw
        go_simp
        first | done | with_reducible rfl
      try simp only [Act.put, List.setIfInBounds_toArray, List.set_cons_zero, List.set_cons_succ]
      refine wpAnyT_take (i := 5) (oi := ⟨some 27, _, _, _, _, _⟩) (v := ?_) rfl (by kernel_rfl) (by kernel_rfl) (by kernel_rfl) (by kernel_rfl) (fun _ _ _ h => h) (Or.inl ⟨by simp only [Region.wanted], ?_⟩) hS ?_
      rotate_left
      · intro wz hSw; obtain ⟨t2, t3, t4, t5⟩ := hSw.1.firstC
        clear hSw
        go_simp
        first | done | with_reducible rfl
      try simp only [Act.put, List.setIfInBounds_toArray, List.set_cons_zero, List.set_cons_succ]
      refine wpAnyT_take (i := 6) (oi := ⟨some 28, _, _, _, _, _⟩) (v := ?_) rfl (by kernel_rfl) (by kernel_rfl) (by kernel_rfl) (by kernel_rfl) (fun _ _ _ h => h) (Or.inl ⟨by simp only [Region.wanted], ?_⟩) hS ?_
      rotate_left
      · intro wz hSw
        clear hSw
        go_simp
        first | done | with_reducible rfl
      try simp only [Act.put, List.setIfInBounds_toArray, List.set_cons_zero, List.set_cons_succ]
      refine wpAnyT_take (i := 7) (oi := ⟨some 29, _, _, _, _, _⟩) (v := ?_) rfl (by kernel_rfl) (by kernel_rfl) (by kernel_rfl) (by kernel_rfl) (fun _ _ _ h => h) (Or.inl ⟨by simp only [Region.wanted], ?_⟩) hS ?_
      rotate_left
      · intro wz hSw
        clear hSw
        go_simp
        first | done | with_reducible rfl
      try simp only [Act.put, List.setIfInBounds_toArray, List.set_cons_zero, List.set_cons_succ]
      refine wpAnyT_take (i := 8) (oi := ⟨some 30, _, _, _, _, _⟩) (v := ?_) rfl (by kernel_rfl) (by kernel_rfl) (by kernel_rfl) (by kernel_rfl) (fun _ _ _ h => h) (Or.inl ⟨by simp only [Region.wanted], ?_⟩) hS ?_
      rotate_left
      · intro wz hSw
        clear hSw
        go_simp
        first | done | with_reducible rfl
      try simp only [Act.put, List.setIfInBounds_toArray, List.set_cons_zero, List.set_cons_succ]
      refine wpAnyT_take (i := 9) (oi := ⟨some 31, _, _, _, _, _⟩) (v := ?_) rfl (by kernel_rfl) (by kernel_rfl) (by kernel_rfl) (by kernel_rfl) (fun _ _ _ h => h) (Or.inl ⟨by simp only [Region.wanted], ?_⟩) hS ?_
      rotate_left
      · intro wz hSw; obtain ⟨d2, d3, d4, d5, d6⟩ := hSw.1.runP.told
        clear hSw
        go_simp
        first | done | with_reducible rfl
      try simp only [Act.put, List.setIfInBounds_toArray, List.set_cons_zero, List.set_cons_succ]
      refine wpAnyT_ready (rs := [10]) (by kernel_rfl) (by simp) ?_
      refine AllReadyT.cons (o := ⟨some 32, _, _, _, _, _⟩) rfl (fun KK hK => ?_) (AllReadyT.nil)
      · go_simp
        refine (HO.out _ hS.2).mono ?_
        rintro e' w1 ⟨⟨x, rfl, hxo⟩, hb1⟩
        have HX := Lib.hid hxo
        have HC1 := Lib.hid (And.intro (hS.1.below hb1) (hS.2.trans (hb1.mono (Nat.le_of_lt hS.1.lt))))
        clear hxo hb1
        go_wp2_with fail
        refine hK.out _ _ (HC1.out) (fun hS => ?_)
        clear hK KK
        try simp only [Act.put, List.setIfInBounds_toArray, List.set_cons_zero, List.set_cons_succ]
        refine wpAnyT_take (i := 11) (oi := ⟨some 33, _, _, _, _, _⟩) (v := ?_) rfl (by kernel_rfl) (by kernel_rfl) (by kernel_rfl) (by kernel_rfl) (fun _ _ _ h => h) (Or.inl ⟨by simp only [Region.wanted], ?_⟩) hS ?_
        rotate_left
        · intro wz hSw
          clear hSw
          go_simp
          first | done | with_reducible rfl
        try simp only [Act.put, List.setIfInBounds_toArray, List.set_cons_zero, List.set_cons_succ]
        refine wpAnyT_take (i := 12) (oi := ⟨some 34, _, _, _, _, _⟩) (v := ?_) rfl (by kernel_rfl) (by kernel_rfl) (by kernel_rfl) (by kernel_rfl) (fun _ _ _ h => h) (Or.inl ⟨by simp only [Region.wanted], ?_⟩) hS ?_
        rotate_left
        · intro wz hSw
          clear hSw
          go_simp
          first | done | with_reducible rfl
        try simp only [Act.put, List.setIfInBounds_toArray, List.set_cons_zero, List.set_cons_succ]
        refine wpAnyT_ready (rs := [13]) (by kernel_rfl) (by simp) ?_
        refine AllReadyT.last (o := ⟨some 35, _, _, _, _, _⟩) rfl (by kernel_rfl) (fun KK hK => ?_) (AllReadyT.nil)
        · go_simp
          refine (tellW r sv (.slice (some ⟨g, 0, none⟩) (S.length + 1) cap) ((⟨n, e, 1 + 1, f⟩, b, o) :: S) v x q.isSome _ hS.1).mono ?_
          rintro e' w3 ⟨rfl, hr3, hb3⟩
          rw [opt_tells HX.out] at hr3
          have HX3 := Lib.hid (HQ.out 0 (by rw [HK.out]; rfl) w3 hr3 (hS.2.trans hb3))
          clear hr3 hb3
          go_wp2_with fail
          refine hK.out _ _ ?_
          clear hK KK
          try simp only [Act.put, List.setIfInBounds_toArray, List.set_cons_zero, List.set_cons_succ]
          refine wpAnyT_done (by kernel_rfl) ?_ _
          go_wp2_with fail
          go_ret
          exact HX3.out
    · clear h hk hpl hsm hop hcl
      go_enter Tryz.func49, Tryz.ntmps49
      go_wp2_with fail
      go_quiet (fail)
      go_wp2_with fail
      refine wp_region_any (by kernel_rfl) ?_
      change wpAny _ _ _ _ _ _ _ (World.drew _)
      refine wpAny_of_T (C := fun z => RunW z r sv (.slice (some ⟨g, 0, none⟩) (S.length + 1) cap) ((⟨n, e, 1 + 1, f⟩, b, o) :: S) v ∧ Below r w z) (T := [13]) _ _ _ _ ?_
      have hS : (fun z => RunW z r sv (.slice (some ⟨g, 0, none⟩) (S.length + 1) cap) ((⟨n, e, 1 + 1, f⟩, b, o) :: S) v ∧ Below r w z) (World.drew (w.drewN nq)) := ⟨HR.out.below ⟨rfl, rfl, rfl, Nat.le_refl _, fun _ _ => rfl⟩, ⟨rfl, rfl, rfl, Nat.le_refl _, fun _ _ => rfl⟩⟩
      generalize World.drew (w.drewN nq) = wq at hS ⊢
      refine wpAnyT_take (i := 0) (oi := ⟨some 22, _, _, _, _, _⟩) (v := ?_) rfl (by kernel_rfl) (by kernel_rfl) (by kernel_rfl) (by kernel_rfl) (fun _ _ _ h => h) (Or.inl ⟨by simp only [Region.wanted], ?_⟩) hS ?_
      rotate_left
      · intro wz hSw
        clear hSw
        go_simp
        first | done | with_reducible rfl
      try simp only [Act.put, List.setIfInBounds_toArray, List.set_cons_zero, List.set_cons_succ]
      refine wpAnyT_take (i := 1) (oi := ⟨some 23, _, _, _, _, _⟩) (v := ?_) rfl (by kernel_rfl) (by kernel_rfl) (by kernel_rfl) (by kernel_rfl) (fun _ _ _ h => h) (Or.inl ⟨by simp only [Region.wanted], ?_⟩) hS ?_
      rotate_left
      · intro wz hSw
        clear hSw
        go_simp
        first | done | with_reducible rfl
      try simp only [Act.put, List.setIfInBounds_toArray, List.set_cons_zero, List.set_cons_succ]
      refine wpAnyT_take (i := 2) (oi := ⟨some 24, _, _, _, _, _⟩) (v := ?_) rfl (by kernel_rfl) (by kernel_rfl) (by kernel_rfl) (by kernel_rfl) (fun _ _ _ h => h) (Or.inl ⟨by simp only [Region.wanted], ?_⟩) hS ?_
      rotate_left
      · intro wz hSw
        clear hSw
        go_simp
        first | done | with_reducible rfl
      try simp only [Act.put, List.setIfInBounds_toArray, List.set_cons_zero, List.set_cons_succ]
      refine wpAnyT_take (i := 3) (oi := ⟨some 25, _, _, _, _, _⟩) (v := ?_) rfl (by kernel_rfl) (by kernel_rfl) (by kernel_rfl) (by kernel_rfl) (fun _ _ _ h => h) (Or.inl ⟨by simp only [Region.wanted], ?_⟩) hS ?_
      rotate_left
      · intro wz hSw
        clear hSw
        go_simp
        first | done | with_reducible rfl
      try simp only [Act.put, List.setIfInBounds_toArray, List.set_cons_zero, List.set_cons_succ]
      refine wpAnyT_take (i := 4) (oi := ⟨some 26, _, _, _, _, _⟩) (v := ?_) rfl (by kernel_rfl) (by kernel_rfl) (by kernel_rfl) (by kernel_rfl) (fun _ _ _ h => h) (Or.inl ⟨by simp only [Region.wanted], ?_⟩) hS ?_
      rotate_left
      · intro wz hSw
        clear hSw
        go_simp
        first | done | with_reducible rfl
      try simp only [Act.put, List.setIfInBounds_toArray, List.set_cons_zero, List.set_cons_succ]
      refine wpAnyT_take (i := 5) (oi := ⟨some 27, _, _, _, _, _⟩) (v := ?_) rfl (by kernel_rfl) (by kernel_rfl) (by kernel_rfl) (by kernel_rfl) (fun _ _ _ h => h) (Or.inl ⟨by simp only [Region.wanted], ?_⟩) hS ?_
      rotate_left
      · intro wz hSw; obtain ⟨t2, t3, t4, t5⟩ := hSw.1.firstC
        clear hSw
        go_simp
        first | done | with_reducible rfl
      try simp only [Act.put, List.setIfInBounds_toArray, List.set_cons_zero, List.set_cons_succ]
      refine wpAnyT_take (i := 6) (oi := ⟨some 28, _, _, _, _, _⟩) (v := ?_) rfl (by kernel_rfl) (by kernel_rfl) (by kernel_rfl) (by kernel_rfl) (fun _ _ _ h => h) (Or.inl ⟨by simp only [Region.wanted], ?_⟩) hS ?_
      rotate_left
      · intro wz hSw
        clear hSw
        go_simp
        first | done | with_reducible rfl
      try simp only [Act.put, List.setIfInBounds_toArray, List.set_cons_zero, List.set_cons_succ]
      refine wpAnyT_take (i := 7) (oi := ⟨some 29, _, _, _, _, _⟩) (v := ?_) rfl (by kernel_rfl) (by kernel_rfl) (by kernel_rfl) (by kernel_rfl) (fun _ _ _ h => h) (Or.inl ⟨by simp only [Region.wanted], ?_⟩) hS ?_
      rotate_left
      · intro wz hSw
        clear hSw
        go_simp
        first | done | with_reducible rfl
      try simp only [Act.put, List.setIfInBounds_toArray, List.set_cons_zero, List.set_cons_succ]
      refine wpAnyT_take (i := 8) (oi := ⟨some 30, _, _, _, _, _⟩) (v := ?_) rfl (by kernel_rfl) (by kernel_rfl) (by kernel_rfl) (by kernel_rfl) (fun _ _ _ h => h) (Or.inl ⟨by simp only [Region.wanted], ?_⟩) hS ?_
      rotate_left
      · intro wz hSw
        clear hSw
        go_simp
        first | done | with_reducible rfl
      try simp only [Act.put, List.setIfInBounds_toArray, List.set_cons_zero, List.set_cons_succ]
      refine wpAnyT_take (i := 9) (oi := ⟨some 31, _, _, _, _, _⟩) (v := ?_) rfl (by kernel_rfl) (by kernel_rfl) (by kernel_rfl) (by kernel_rfl) (fun _ _ _ h => h) (Or.inl ⟨by simp only [Region.wanted], ?_⟩) hS ?_
      rotate_left
      · intro wz hSw; obtain ⟨d2, d3, d4, d5, d6⟩ := hSw.1.runP.told
        clear hSw
        go_simp
        first | done | with_reducible rfl
      try simp only [Act.put, List.setIfInBounds_toArray, List.set_cons_zero, List.set_cons_succ]
      refine wpAnyT_ready (rs := [10]) (by kernel_rfl) (by simp) ?_
      refine AllReadyT.cons (o := ⟨some 32, _, _, _, _, _⟩) rfl (fun KK hK => ?_) (AllReadyT.nil)
      · go_simp
        refine (HO.out _ hS.2).mono ?_
        rintro e' w1 ⟨⟨x, rfl, hxo⟩, hb1⟩
        have HX := Lib.hid hxo
        have HC1 := Lib.hid (And.intro (hS.1.below hb1) (hS.2.trans (hb1.mono (Nat.le_of_lt hS.1.lt))))
        clear hxo hb1
        go_wp2_with fail
        refine hK.out _ _ (HC1.out) (fun hS => ?_)
        clear hK KK
        try simp only [Act.put, List.setIfInBounds_toArray, List.set_cons_zero, List.set_cons_succ]
        refine wpAnyT_take (i := 11) (oi := ⟨some 33, _, _, _, _, _⟩) (v := ?_) rfl (by kernel_rfl) (by kernel_rfl) (by kernel_rfl) (by kernel_rfl) (fun _ _ _ h => h) (Or.inl ⟨by simp only [Region.wanted], ?_⟩) hS ?_
        rotate_left
        · intro wz hSw
          clear hSw
          go_simp
          first | done | with_reducible rfl
        try simp only [Act.put, List.setIfInBounds_toArray, List.set_cons_zero, List.set_cons_succ]
        refine wpAnyT_take (i := 12) (oi := ⟨some 34, _, _, _, _, _⟩) (v := ?_) rfl (by kernel_rfl) (by kernel_rfl) (by kernel_rfl) (by kernel_rfl) (fun _ _ _ h => h) (Or.inl ⟨by simp only [Region.wanted], ?_⟩) hS ?_
        rotate_left
        · intro wz hSw
          clear hSw
          go_simp
          first | done | with_reducible rfl
        try simp only [Act.put, List.setIfInBounds_toArray, List.set_cons_zero, List.set_cons_succ]
        refine wpAnyT_ready (rs := [13]) (by kernel_rfl) (by simp) ?_
        refine AllReadyT.last (o := ⟨some 35, _, _, _, _, _⟩) rfl (by kernel_rfl) (fun KK hK => ?_) (AllReadyT.nil)
        · go_simp
          refine (tellW r sv (.slice (some ⟨g, 0, none⟩) (S.length + 1) cap) ((⟨n, e, 1 + 1, f⟩, b, o) :: S) v x q.isSome _ hS.1).mono ?_
          rintro e' w3 ⟨rfl, hr3, hb3⟩
          rw [opt_tells HX.out] at hr3
          have HX3 := Lib.hid (HQ.out 0 (by rw [HK.out]; rfl) w3 hr3 (hS.2.trans hb3))
          clear hr3 hb3
          go_wp2_with fail
          refine hK.out _ _ ?_
          clear hK KK
          try simp only [Act.put, List.setIfInBounds_toArray, List.set_cons_zero, List.set_cons_succ]
          refine wpAnyT_done (by kernel_rfl) ?_ _
          go_wp2_with fail
          go_ret
          exact HX3.out
  · cases vi
    · clear h hk hpl hsm hop hcl
      go_enter Tryz.func49, Tryz.ntmps49
      go_wp2_with fail
      go_quiet (fail)
      go_wp2_with fail
      refine wp_region_any (by kernel_rfl) ?_
      change wpAny _ _ _ _ _ _ _ (World.drew _)
      refine wpAny_of_T (C := fun z => RunW z r sv (.slice (some ⟨g, 0, none⟩) (S.length + 1) cap) ((⟨n, e, 1 + 1, f⟩, b, o) :: S) v ∧ Below r w z) (T := [13]) _ _ _ _ ?_
      have hS : (fun z => RunW z r sv (.slice (some ⟨g, 0, none⟩) (S.length + 1) cap) ((⟨n, e, 1 + 1, f⟩, b, o) :: S) v ∧ Below r w z) (World.drew (w.drewN nq)) := ⟨HR.out.below ⟨rfl, rfl, rfl, Nat.le_refl _, fun _ _ => rfl⟩, ⟨rfl, rfl, rfl, Nat.le_refl _, fun _ _ => rfl⟩⟩
      generalize World.drew (w.drewN nq) = wq at hS ⊢
      refine wpAnyT_take (i := 0) (oi := ⟨some 22, _, _, _, _, _⟩) (v := ?_) rfl (by kernel_rfl) (by kernel_rfl) (by kernel_rfl) (by kernel_rfl) (fun _ _ _ h => h) (Or.inl ⟨by simp only [Region.wanted], ?_⟩) hS ?_
      rotate_left
      · intro wz hSw
        clear hSw
        go_simp
        first | done | with_reducible rfl
      try simp only [Act.put, List.setIfInBounds_toArray, List.set_cons_zero, List.set_cons_succ]
      refine wpAnyT_take (i := 1) (oi := ⟨some 23, _, _, _, _, _⟩) (v := ?_) rfl (by kernel_rfl) (by kernel_rfl) (by kernel_rfl) (by kernel_rfl) (fun _ _ _ h => h) (Or.inl ⟨by simp only [Region.wanted], ?_⟩) hS ?_
      rotate_left
      · intro wz hSw
        clear hSw
        go_simp
        first | done | with_reducible rfl
      try simp only [Act.put, List.setIfInBounds_toArray, List.set_cons_zero, List.set_cons_succ]
      refine wpAnyT_take (i := 2) (oi := ⟨some 24, _, _, _, _, _⟩) (v := ?_) rfl (by kernel_rfl) (by kernel_rfl) (by kernel_rfl) (by kernel_rfl) (fun _ _ _ h => h) (Or.inl ⟨by simp only [Region.wanted], ?_⟩) hS ?_
      rotate_left
      · intro wz hSw
        clear hSw
        go_simp
        first | done | with_reducible rfl
      try simp only [Act.put, List.setIfInBounds_toArray, List.set_cons_zero, List.set_cons_succ]
      refine wpAnyT_take (i := 3) (oi := ⟨some 25, _, _, _, _, _⟩) (v := ?_) rfl (by kernel_rfl) (by kernel_rfl) (by kernel_rfl) (by kernel_rfl) (fun _ _ _ h => h) (Or.inl ⟨by simp only [Region.wanted], ?_⟩) hS ?_
      rotate_left
      · intro wz hSw
        clear hSw
        go_simp
        first | done | with_reducible rfl
      try simp only [Act.put, List.setIfInBounds_toArray, List.set_cons_zero, List.set_cons_succ]
      refine wpAnyT_take (i := 4) (oi := ⟨some 26, _, _, _, _, _⟩) (v := ?_) rfl (by kernel_rfl) (by kernel_rfl) (by kernel_rfl) (by kernel_rfl) (fun _ _ _ h => h) (Or.inl ⟨by simp only [Region.wanted], ?_⟩) hS ?_
      rotate_left
      · intro wz hSw
        clear hSw
        go_simp
        first | done | with_reducible rfl
      try simp only [Act.put, List.setIfInBounds_toArray, List.set_cons_zero, List.set_cons_succ]
      refine wpAnyT_take (i := 5) (oi := ⟨some 27, _, _, _, _, _⟩) (v := ?_) rfl (by kernel_rfl) (by kernel_rfl) (by kernel_rfl) (by kernel_rfl) (fun _ _ _ h => h) (Or.inl ⟨by simp only [Region.wanted], ?_⟩) hS ?_
      rotate_left
      · intro wz hSw; obtain ⟨t2, t3, t4, t5⟩ := hSw.1.firstC
        clear hSw
        go_simp
        first | done | with_reducible rfl
      try simp only [Act.put, List.setIfInBounds_toArray, List.set_cons_zero, List.set_cons_succ]
      refine wpAnyT_take (i := 6) (oi := ⟨some 28, _, _, _, _, _⟩) (v := ?_) rfl (by kernel_rfl) (by kernel_rfl) (by kernel_rfl) (by kernel_rfl) (fun _ _ _ h => h) (Or.inl ⟨by simp only [Region.wanted], ?_⟩) hS ?_
      rotate_left
      · intro wz hSw
        clear hSw
        go_simp
        first | done | with_reducible rfl
      try simp only [Act.put, List.setIfInBounds_toArray, List.set_cons_zero, List.set_cons_succ]
      refine wpAnyT_take (i := 7) (oi := ⟨some 29, _, _, _, _, _⟩) (v := ?_) rfl (by kernel_rfl) (by kernel_rfl) (by kernel_rfl) (by kernel_rfl) (fun _ _ _ h => h) (Or.inl ⟨by simp only [Region.wanted], ?_⟩) hS ?_
      rotate_left
      · intro wz hSw
        clear hSw
        go_simp
        first | done | with_reducible rfl
      try simp only [Act.put, List.setIfInBounds_toArray, List.set_cons_zero, List.set_cons_succ]
      refine wpAnyT_take (i := 8) (oi := ⟨some 30, _, _, _, _, _⟩) (v := ?_) rfl (by kernel_rfl) (by kernel_rfl) (by kernel_rfl) (by kernel_rfl) (fun _ _ _ h => h) (Or.inl ⟨by simp only [Region.wanted], ?_⟩) hS ?_
      rotate_left
      · intro wz hSw
        clear hSw
        go_simp
        first | done | with_reducible rfl
      try simp only [Act.put, List.setIfInBounds_toArray, List.set_cons_zero, List.set_cons_succ]
      refine wpAnyT_take (i := 9) (oi := ⟨some 31, _, _, _, _, _⟩) (v := ?_) rfl (by kernel_rfl) (by kernel_rfl) (by kernel_rfl) (by kernel_rfl) (fun _ _ _ h => h) (Or.inl ⟨by simp only [Region.wanted], ?_⟩) hS ?_
      rotate_left
      · intro wz hSw; obtain ⟨d2, d3, d4, d5, d6⟩ := hSw.1.runP.told
        clear hSw
        go_simp
        first | done | with_reducible rfl
      try simp only [Act.put, List.setIfInBounds_toArray, List.set_cons_zero, List.set_cons_succ]
      refine wpAnyT_ready (rs := [10]) (by kernel_rfl) (by simp) ?_
      refine AllReadyT.cons (o := ⟨some 32, _, _, _, _, _⟩) rfl (fun KK hK => ?_) (AllReadyT.nil)
      · go_simp
        refine (HO.out _ hS.2).mono ?_
        rintro e' w1 ⟨⟨x, rfl, hxo⟩, hb1⟩
        have HX := Lib.hid hxo
        have HC1 := Lib.hid (And.intro (hS.1.below hb1) (hS.2.trans (hb1.mono (Nat.le_of_lt hS.1.lt))))
        clear hxo hb1
        go_wp2_with fail
        refine hK.out _ _ (HC1.out) (fun hS => ?_)
        clear hK KK
        try simp only [Act.put, List.setIfInBounds_toArray, List.set_cons_zero, List.set_cons_succ]
        refine wpAnyT_take (i := 11) (oi := ⟨some 33, _, _, _, _, _⟩) (v := ?_) rfl (by kernel_rfl) (by kernel_rfl) (by kernel_rfl) (by kernel_rfl) (fun _ _ _ h => h) (Or.inl ⟨by simp only [Region.wanted], ?_⟩) hS ?_
        rotate_left
        · intro wz hSw
          clear hSw
          go_simp
          first | done | with_reducible rfl
        try simp only [Act.put, List.setIfInBounds_toArray, List.set_cons_zero, List.set_cons_succ]
        refine wpAnyT_take (i := 12) (oi := ⟨some 34, _, _, _, _, _⟩) (v := ?_) rfl (by kernel_rfl) (by kernel_rfl) (by kernel_rfl) (by kernel_rfl) (fun _ _ _ h => h) (Or.inl ⟨by simp only [Region.wanted], ?_⟩) hS ?_
        rotate_left
        · intro wz hSw
          clear hSw
          go_simp
          first | done | with_reducible rfl
        try simp only [Act.put, List.setIfInBounds_toArray, List.set_cons_zero, List.set_cons_succ]
        refine wpAnyT_ready (rs := [13]) (by kernel_rfl) (by simp) ?_
        refine AllReadyT.last (o := ⟨some 35, _, _, _, _, _⟩) rfl (by kernel_rfl) (fun KK hK => ?_) (AllReadyT.nil)
        · go_simp
          refine (tellW r sv (.slice (some ⟨g, 0, none⟩) (S.length + 1) cap) ((⟨n, e, 1 + 1, f⟩, b, o) :: S) v x q.isSome _ hS.1).mono ?_
          rintro e' w3 ⟨rfl, hr3, hb3⟩
          rw [opt_tells HX.out] at hr3
          have HX3 := Lib.hid (HQ.out 0 (by rw [HK.out]; rfl) w3 hr3 (hS.2.trans hb3))
          clear hr3 hb3
          go_wp2_with fail
          refine hK.out _ _ ?_
          clear hK KK
          try simp only [Act.put, List.setIfInBounds_toArray, List.set_cons_zero, List.set_cons_succ]
          refine wpAnyT_done (by kernel_rfl) ?_ _
          go_wp2_with fail
          go_ret
          exact HX3.out
    · clear h hk hpl hsm hop hcl
      go_enter Tryz.func49, Tryz.ntmps49
      go_wp2_with fail
      go_quiet (fail)
      go_wp2_with fail
      refine wp_region_any (by kernel_rfl) ?_
      change wpAny _ _ _ _ _ _ _ (World.drew _)
      refine wpAny_of_T (C := fun z => RunW z r sv (.slice (some ⟨g, 0, none⟩) (S.length + 1) cap) ((⟨n, e, 1 + 1, f⟩, b, o) :: S) v ∧ Below r w z) (T := [13]) _ _ _ _ ?_
      have hS : (fun z => RunW z r sv (.slice (some ⟨g, 0, none⟩) (S.length + 1) cap) ((⟨n, e, 1 + 1, f⟩, b, o) :: S) v ∧ Below r w z) (World.drew (w.drewN nq)) := ⟨HR.out.below ⟨rfl, rfl, rfl, Nat.le_refl _, fun _ _ => rfl⟩, ⟨rfl, rfl, rfl, Nat.le_refl _, fun _ _ => rfl⟩⟩
      generalize World.drew (w.drewN nq) = wq at hS ⊢
      refine wpAnyT_take (i := 0) (oi := ⟨some 22, _, _, _, _, _⟩) (v := ?_) rfl (by kernel_rfl) (by kernel_rfl) (by kernel_rfl) (by kernel_rfl) (fun _ _ _ h => h) (Or.inl ⟨by simp only [Region.wanted], ?_⟩) hS ?_
      rotate_left
      · intro wz hSw
        clear hSw
        go_simp
        first | done | with_reducible rfl
      try simp only [Act.put, List.setIfInBounds_toArray, List.set_cons_zero, List.set_cons_succ]
      refine wpAnyT_take (i := 1) (oi := ⟨some 23, _, _, _, _, _⟩) (v := ?_) rfl (by kernel_rfl) (by kernel_rfl) (by kernel_rfl) (by kernel_rfl) (fun _ _ _ h => h) (Or.inl ⟨by simp only [Region.wanted], ?_⟩) hS ?_
      rotate_left
      · intro wz hSw
        clear hSw
        go_simp
        first | done | with_reducible rfl
      try simp only [Act.put, List.setIfInBounds_toArray, List.set_cons_zero, List.set_cons_succ]
      refine wpAnyT_take (i := 2) (oi := ⟨some 24, _, _, _, _, _⟩) (v := ?_) rfl (by kernel_rfl) (by kernel_rfl) (by kernel_rfl) (by kernel_rfl) (fun _ _ _ h => h) (Or.inl ⟨by simp only [Region.wanted], ?_⟩) hS ?_
      rotate_left
      · intro wz hSw
        clear hSw
        go_simp
        first | done | with_reducible rfl
      try simp only [Act.put, List.setIfInBounds_toArray, List.set_cons_zero, List.set_cons_succ]
      refine wpAnyT_take (i := 3) (oi := ⟨some 25, _, _, _, _, _⟩) (v := ?_) rfl (by kernel_rfl) (by kernel_rfl) (by kernel_rfl) (by kernel_rfl) (fun _ _ _ h => h) (Or.inl ⟨by simp only [Region.wanted], ?_⟩) hS ?_
      rotate_left
      · intro wz hSw
        clear hSw
        go_simp
        first | done | with_reducible rfl
      try simp only [Act.put, List.setIfInBounds_toArray, List.set_cons_zero, List.set_cons_succ]
      refine wpAnyT_take (i := 4) (oi := ⟨some 26, _, _, _, _, _⟩) (v := ?_) rfl (by kernel_rfl) (by kernel_rfl) (by kernel_rfl) (by kernel_rfl) (fun _ _ _ h => h) (Or.inl ⟨by simp only [Region.wanted], ?_⟩) hS ?_
      rotate_left
      · intro wz hSw
        clear hSw
        go_simp
        first | done | with_reducible rfl
      try simp only [Act.put, List.setIfInBounds_toArray, List.set_cons_zero, List.set_cons_succ]
      refine wpAnyT_take (i := 5) (oi := ⟨some 27, _, _, _, _, _⟩) (v := ?_) rfl (by kernel_rfl) (by kernel_rfl) (by kernel_rfl) (by kernel_rfl) (fun _ _ _ h => h) (Or.inl ⟨by simp only [Region.wanted], ?_⟩) hS ?_
      rotate_left
      · intro wz hSw; obtain ⟨t2, t3, t4, t5⟩ := hSw.1.firstC
        clear hSw
        go_simp
        first | done | with_reducible rfl
      try simp only [Act.put, List.setIfInBounds_toArray, List.set_cons_zero, List.set_cons_succ]
      refine wpAnyT_take (i := 6) (oi := ⟨some 28, _, _, _, _, _⟩) (v := ?_) rfl (by kernel_rfl) (by kernel_rfl) (by kernel_rfl) (by kernel_rfl) (fun _ _ _ h => h) (Or.inl ⟨by simp only [Region.wanted], ?_⟩) hS ?_
      rotate_left
      · intro wz hSw
        clear hSw
        go_simp
        first | done | with_reducible rfl
      try simp only [Act.put, List.setIfInBounds_toArray, List.set_cons_zero, List.set_cons_succ]
      refine wpAnyT_take (i := 7) (oi := ⟨some 29, _, _, _, _, _⟩) (v := ?_) rfl (by kernel_rfl) (by kernel_rfl) (by kernel_rfl) (by kernel_rfl) (fun _ _ _ h => h) (Or.inl ⟨by simp only [Region.wanted], ?_⟩) hS ?_
      rotate_left
      · intro wz hSw
        clear hSw
        go_simp
        first | done | with_reducible rfl
      try simp only [Act.put, List.setIfInBounds_toArray, List.set_cons_zero, List.set_cons_succ]
      refine wpAnyT_take (i := 8) (oi := ⟨some 30, _, _, _, _, _⟩) (v := ?_) rfl (by kernel_rfl) (by kernel_rfl) (by kernel_rfl) (by kernel_rfl) (fun _ _ _ h => h) (Or.inl ⟨by simp only [Region.wanted], ?_⟩) hS ?_
      rotate_left
      · intro wz hSw
        clear hSw
        go_simp
        first | done | with_reducible rfl
      try simp only [Act.put, List.setIfInBounds_toArray, List.set_cons_zero, List.set_cons_succ]
      refine wpAnyT_take (i := 9) (oi := ⟨some 31, _, _, _, _, _⟩) (v := ?_) rfl (by kernel_rfl) (by kernel_rfl) (by kernel_rfl) (by kernel_rfl) (fun _ _ _ h => h) (Or.inl ⟨by simp only [Region.wanted], ?_⟩) hS ?_
      rotate_left
      · intro wz hSw; obtain ⟨d2, d3, d4, d5, d6⟩ := hSw.1.runP.told
        clear hSw
        go_simp
        first | done | with_reducible rfl
      try simp only [Act.put, List.setIfInBounds_toArray, List.set_cons_zero, List.set_cons_succ]
      refine wpAnyT_ready (rs := [10]) (by kernel_rfl) (by simp) ?_
      refine AllReadyT.cons (o := ⟨some 32, _, _, _, _, _⟩) rfl (fun KK hK => ?_) (AllReadyT.nil)
      · go_simp
        refine (HO.out _ hS.2).mono ?_
        rintro e' w1 ⟨⟨x, rfl, hxo⟩, hb1⟩
        have HX := Lib.hid hxo
        have HC1 := Lib.hid (And.intro (hS.1.below hb1) (hS.2.trans (hb1.mono (Nat.le_of_lt hS.1.lt))))
        clear hxo hb1
        go_wp2_with fail
        refine hK.out _ _ (HC1.out) (fun hS => ?_)
        clear hK KK
        try simp only [Act.put, List.setIfInBounds_toArray, List.set_cons_zero, List.set_cons_succ]
        refine wpAnyT_take (i := 11) (oi := ⟨some 33, _, _, _, _, _⟩) (v := ?_) rfl (by kernel_rfl) (by kernel_rfl) (by kernel_rfl) (by kernel_rfl) (fun _ _ _ h => h) (Or.inl ⟨by simp only [Region.wanted], ?_⟩) hS ?_
        rotate_left
        · intro wz hSw
          clear hSw
          go_simp
          first | done | with_reducible rfl
        try simp only [Act.put, List.setIfInBounds_toArray, List.set_cons_zero, List.set_cons_succ]
        refine wpAnyT_take (i := 12) (oi := ⟨some 34, _, _, _, _, _⟩) (v := ?_) rfl (by kernel_rfl) (by kernel_rfl) (by kernel_rfl) (by kernel_rfl) (fun _ _ _ h => h) (Or.inl ⟨by simp only [Region.wanted], ?_⟩) hS ?_
        rotate_left
        · intro wz hSw
          clear hSw
          go_simp
          first | done | with_reducible rfl
        try simp only [Act.put, List.setIfInBounds_toArray, List.set_cons_zero, List.set_cons_succ]
        refine wpAnyT_ready (rs := [13]) (by kernel_rfl) (by simp) ?_
        refine AllReadyT.last (o := ⟨some 35, _, _, _, _, _⟩) rfl (by kernel_rfl) (fun KK hK => ?_) (AllReadyT.nil)
        · go_simp
          refine (tellW r sv (.slice (some ⟨g, 0, none⟩) (S.length + 1) cap) ((⟨n, e, 1 + 1, f⟩, b, o) :: S) v x q.isSome _ hS.1).mono ?_
          rintro e' w3 ⟨rfl, hr3, hb3⟩
          rw [opt_tells HX.out] at hr3
          have HX3 := Lib.hid (HQ.out 0 (by rw [HK.out]; rfl) w3 hr3 (hS.2.trans hb3))
          clear hr3 hb3
          go_wp2_with fail
          refine hK.out _ _ ?_
          clear hK KK
          try simp only [Act.put, List.setIfInBounds_toArray, List.set_cons_zero, List.set_cons_succ]
          refine wpAnyT_done (by kernel_rfl) ?_ _
          go_wp2_with fail
          go_ret
          exact HX3.out
end Go.Proofs.YtecomfhbdonkbaaGreatDoor
/- Package value: a run: next, leave, enter, whole. -/
namespace Go.Proofs.YtecomfhbdonkbaaGreatDoor
open Go.RowKit Go.Shelf Flo
set_option maxRecDepth 100000
set_option linter.unusedVariables false
set_option linter.unusedSimpArgs false

theorem getO_sm {B : Nat} {w : World} {v : Value} {s : Slt} {name : List UInt8} {y : Tm} (h : SolAt B w v s) (hy : getO s name = some y) : y.Sm := by
  unfold getO at hy
  obtain ⟨p, hp, rfl⟩ := Option.map_eq_some_iff.1 hy
  obtain ⟨i, hi, rfl⟩ := List.getElem_of_mem (List.mem_of_find?_eq_some hp)
  obtain ⟨-, ao, cap, rfl, hat⟩ := h
  obtain ⟨_, _, _, -, -, -, -, -, -, -, -, h⟩ := hat i hi
  exact h
theorem fits_one {op : Int} {n : Nat} (h : fitsO op n = true) (h26 : op ≠ 26) (h1 : op ≠ 1) (h15 : op ≠ 15) (hn : n = 1) : op = 4 ∨ op = 14 ∨ op = 16 ∨ op = 17 ∨ op = 18 ∨ op = 20 ∨ op = 21 ∨ op = 22 ∨ op = 23 := by
  subst hn
  unfold fitsO at h
  rw [if_neg h26] at h
  split at h
  · simp at h
  split at h
  · omega
  split at h
  · simp at h
  · cases h
theorem next_any (B r : Nat) (sv : Value) (S : Stk) (v : Option Tm) (n k : Nat) (e : Exp) (f : Tm) (b o g cap m : Nat) (w : World) (h : RunW w r sv (.slice (some ⟨g, 0, none⟩) (S.length + 1) cap) ((⟨n, e, k + 1, f⟩, b, o) :: S) v) (hB : B ≤ r) (hx : XP B w m b o e) (hok : (⟨n, e, k, f⟩ : Frm).Ok) (hk9 : k ≤ 1000) (hv : VSm v) (hf : f.Sm) (hT : ∀ w1, Below r w w1 → Tabs w1) :
    Calls Tryz.prog 49 #[.pointer (some ⟨r, 0, none⟩), .pointer (some ⟨g, S.length * 6, none⟩)] w fun e' w' => NextP ⟨n, e, k, f⟩ b o S r sv (.slice (some ⟨g, 0, none⟩) (S.length + 1) cap) v w e' w' := by
  by_cases h26 : e.op = 26
  · exact next_coal B r sv S v n k e f b o g cap m w h hB hx hok hk9 h26
  by_cases h25 : e.op = 25
  · exact next_if B r sv S v n k e f b o g cap m w h hB hx hok hk9 h25 hv
  by_cases hc : v.isNone = true ∧ ¬ (e.op = 2 ∨ e.op = 3)
  · refine next_stay B r sv S v n k e f b o g cap m w h hB hx hok hk9 h26 h25 (fun h => hc.2 (.inl h)) (fun h => hc.2 (.inr h)) ?_
    obtain ⟨h1, -⟩ := hc
    cases v with
    | none => rfl
    | some y => cases h1
  by_cases hl1 : e.kids.length = 1
  · have hop := fits_one (op := e.op) (n := e.kids.length) hok.fits h26 hok.op1 hok.op15 hl1
    cases v with
    | none =>
      refine absurd ⟨rfl, ?_⟩ hc
      rintro (h | h) <;> omega
    | some y => exact next_one B r sv S (some y) n k e f b o g cap m w h hB hx hok hk9 h26 h25 hop hl1 y rfl hv (hT w (Below.refl _ _)).tab
  by_cases hk0 : k = 0
  · exact next_first B r sv S v n k e f b o g cap m w h hB hx hok hk9 h26 h25 hl1 hk0 hc
  · exact next_two B r sv S v n k e f b o g cap m w h hB hx hok hk9 h26 h25 hl1 hk0 hc hv hf hT
theorem leave_all (B r : Nat) (sv : Value) (S : Stk) (v : Option Tm) (n k : Nat) (e : Exp) (f : Tm) (b o m : Nat) (w : World) (h : RunP w r sv ((⟨n, e, k, f⟩, b, o) :: S) v) (hl : S.length < 100) (hB : B ≤ r) (hx : XP B w m b o e) (hok : (⟨n, e, k, f⟩ : Frm).Ok) (hv : VSm v) (hf : f.Sm) (hrT : ∀ w', Below r w w' → Tabs w') :
    Calls Tryz.prog 29 #[.pointer (some ⟨r, 0, none⟩)] w fun e' w' => Below r w w' ∧
      ((nextK ⟨n, e, k, f⟩ v = 0 ∧ e' = .returned (.pointer none) ∧ RunP w' r sv S (doneV ⟨n, e, k, f⟩ v)) ∨
      (nextK ⟨n, e, k, f⟩ v ≠ 0 ∧ ∃ kb ko m' v', e' = .returned (.pointer (some ⟨kb, ko, none⟩)) ∧ m = m' + 1 ∧ XP B w m' kb ko (e.kid (nextK ⟨n, e, k, f⟩ v)) ∧ SizeOf.sizeOf (e.kid (nextK ⟨n, e, k, f⟩ v)) < SizeOf.sizeOf e ∧ RunP w' r sv (((⟨n, e, k, f⟩ : Frm).next v, b, o) :: S) v')) := by
  obtain ⟨way, hw⟩ := h
  have hw' : RunW w r sv way ((⟨n, e, k, f⟩, b, o) :: S) v := hw
  obtain ⟨g, cap, rfl, -⟩ := hw'.last
  have hk9 : k ≤ 1000 := by
    have h1 := hok.k
    obtain ⟨-, -, kv, -, -, -, hk⟩ := hx
    have h2 := hk.form.1
    have h3 : k < e.kids.length := h1
    omega
  have HN : ∀ w1, RunW w1 r sv (.slice (some ⟨g, 0, none⟩) (S.length + 1) cap) ((⟨n, e, k + 1, f⟩, b, o) :: S) v → Below r w w1 → Calls Tryz.prog 49 #[.pointer (some ⟨r, 0, none⟩), .pointer (some ⟨g, S.length * 6, none⟩)] w1 fun e' w' => NextP ⟨n, e, k, f⟩ b o S r sv (.slice (some ⟨g, 0, none⟩) (S.length + 1) cap) v w1 e' w' :=
    fun w1 h1 hb1 => next_any B r sv S v n k e f b o g cap m w1 h1 hB (hx.keep (hb1.mono hB)) hok hk9 hv hf (fun w2 hb2 => hrT w2 (hb1.trans hb2))
  by_cases h0 : nextK ⟨n, e, k, f⟩ v = 0
  · refine (leave_any B r sv S v n k e f b o g cap w hw' hl hk9 HN h0).mono ?_
    rintro e' w' ⟨g1, g2, g3⟩
    exact ⟨g3, .inl ⟨h0, g1, g2⟩⟩
  · refine (leave_on B r sv S v n k e f b o g cap m w hw' hl hk9 hB hx HN h0 (cont_next (s := []) hok h0).2.1).mono ?_
    rintro e' w' ⟨kb, ko, m', v', g1, g2, g3, g4, g5, g6⟩
    exact ⟨g6, .inr ⟨h0, kb, _, m', v', g1, g2, g3, g4, g5⟩⟩
theorem enter_all (B r : Nat) (sv : Value) (s : Slt) (S : Stk) (v : Option Tm) (n b o : Nat) (e : Exp) (w : World) (h : RunP w r sv S v) (hB : B ≤ r) (hS : StkP B w S) (hx : XP B w n b o e) (hs : ∀ x ∈ S, SizeOf.sizeOf e < SizeOf.sizeOf x.1.e) (hsol : SolAt B w sv s) (hl : S.length < 100) :
    Calls Tryz.prog 27 #[.pointer (some ⟨r, 0, none⟩), .pointer (some ⟨b, o, none⟩)] w fun e' w' => Below r w w' ∧
      ((e' = .returned (.bool false) ∧ RunP w' r sv S (evalO (n + 1) e s) ∧ VSm (evalO (n + 1) e s)) ∨
      (e' = .returned (.bool true) ∧ (⟨n, e, 0, zeroT⟩ : Frm).Ok ∧ evalO (n + 1) e s = contO s ⟨n, e, 0, zeroT⟩ (evalO n (e.kid 0) s) ∧ RunP w' r sv ((⟨n, e, 0, zeroT⟩, b, o) :: S) v)) := by
  have ev : evalO (n + 1) e s = (if fitsO e.op e.kids.length then
      (if e.op = 1 then (if e.tm.k = 4 then getO s e.tm.sl else some e.tm)
      else if e.op = 15 then boundO (e.kid 0) s
      else opO e.op (e.kids.map (fun k => evalO n k s)))
    else none) := rfl
  have fin : ∀ {V : Option Tm}, evalO (n + 1) e s = V → VSm V → Calls Tryz.prog 27 #[.pointer (some ⟨r, 0, none⟩), .pointer (some ⟨b, o, none⟩)] w (fun e' w' => e' = .returned (.bool false) ∧ RunP w' r sv S V ∧ Below r w w') → Calls Tryz.prog 27 #[.pointer (some ⟨r, 0, none⟩), .pointer (some ⟨b, o, none⟩)] w (fun e' w' => Below r w w' ∧
      ((e' = .returned (.bool false) ∧ RunP w' r sv S (evalO (n + 1) e s) ∧ VSm (evalO (n + 1) e s)) ∨
      (e' = .returned (.bool true) ∧ (⟨n, e, 0, zeroT⟩ : Frm).Ok ∧ evalO (n + 1) e s = contO s ⟨n, e, 0, zeroT⟩ (evalO n (e.kid 0) s) ∧ RunP w' r sv ((⟨n, e, 0, zeroT⟩, b, o) :: S) v))) := by
    intro V hV hsm hc
    refine hc.mono ?_
    rintro e' w' ⟨g1, g2, g3⟩
    rw [hV]
    exact ⟨g3, .inl ⟨g1, g2, hsm⟩⟩
  by_cases hf : fitsO e.op e.kids.length = true
  · rw [if_pos hf] at ev
    by_cases h1 : e.op = 1
    · rw [if_pos h1] at ev
      by_cases h4 : e.tm.k = 4
      · rw [if_pos h4] at ev
        exact fin ev (VSm.of fun y hy => getO_sm hsol hy) (enter_bare B r sv s S v n b o e w h hB hS hx hs hsol hf h1 h4)
      · rw [if_neg h4] at ev
        refine fin ev ?_ (enter_term B r sv s S v n b o e w h hB hS hx hs hsol hf h1 h4)
        obtain ⟨-, -, kv, -, -, hsm, -⟩ := hx
        exact hsm
    · rw [if_neg h1] at ev
      by_cases h15 : e.op = 15
      · rw [if_pos h15] at ev
        refine fin ev (VSm.of fun y hy => ?_) (enter_bound B r sv s S v n b o e w h hB hS hx hs hsol hf h15)
        unfold boundO at hy
        split at hy
        · cases hy; exact boolT_sm _
        · cases hy
      · refine (enter_push B r sv s S v n b o e w h hB hS hx hs hsol hf h1 h15 hl).mono ?_
        rintro e' w' ⟨g1, g2, g3⟩
        obtain ⟨q1, q2⟩ := eval_push (s := s) (n := n) hf h1 h15
        exact ⟨g3, .inr ⟨g1, q2, q1, g2⟩⟩
  · rw [if_neg hf] at ev
    exact fin ev zeroT_sm (enter_nofit B r sv s S v n b o e w h hB hS hx hs hsol (by simpa using hf))
end Go.Proofs.YtecomfhbdonkbaaGreatDoor
