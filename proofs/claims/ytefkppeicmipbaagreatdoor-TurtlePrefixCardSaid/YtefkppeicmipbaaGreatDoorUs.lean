/- Triples as text: what a collection does with its next blank. -/
import Derived.Test.YtefkppeicmipbaaGreatDoorUq
namespace Go.Proofs.YtefkppeicmipbaaGreatDoor
open Go.RowKit Go.Shelf Go.Maps
set_option maxRecDepth 100000
set_option linter.unusedVariables false
set_option linter.unusedSimpArgs false
theorem Tp.moved {w w' : World} {P : Pl} {tv : Value} {T F : Nat} {cs : Array Value} {t : TypeId} (h : Tp w P tv T cs t) (m : Moved (· = F) w w') (hn : T ≠ F) : Tp w' P tv T cs t := ⟨h.blk.moved m hn, h.ge, h.own⟩
/-- A block of a caller's own is turned, and blocks are made. -/
theorem Go12.turnT {P : Pl} {w w1 w2 : World} {tv tv1 : Value} {s1 : St} {F : Nat} {cs : Array Value} {t : TypeId} (h : Go12 P w tv w1 tv1 s1) (k : Tp w1 P tv1 F cs t) (m : Moved (· = F) w1 w2) (hF : w.heap.size ≤ F) : Go12 P w tv w2 tv1 s1 := by
  have r := h.rd
  have l := r.lts
  have hg := k.ge
  have hlow := r.low
  obtain ⟨rv, h1, h2⟩ := r.cells
  exact ⟨⟨⟨rv, h1.moved m (by omega), h2.moved m (by omega)⟩, r.n.moved m (by omega), r.lb.moved m (by omega), r.pm.moved m (by omega), r.told.moved m (fun q hq e => k.own (by rw [← e]; exact hq)), r.inv, r.lts, Nat.le_trans r.B m.size, r.ne, r.lab, r.tab.moved m (by omega), r.low⟩, h.mv.trans m (fun j hj => .inr (by omega)), h.own⟩
set_option maxHeartbeats 4000000 in
theorem tlink1 {w : World} {F : Nat} {o0 o1 o2 o3 : Value} (hF : Blk w F #[o0, o1, o2, o3] 33) (x : Tm) :
    Calls Tryz.prog 73 #[x.val, .pointer (some ⟨F, 0, none⟩)] w fun e w' => (∃ v, e = .returned v) ∧ Moved (· = F) w w' ∧ Blk w' F #[.int .i64 x.k, .string x.s, .string x.l, .string x.t] 33 := by
  obtain ⟨xk, xs, xl, xt⟩ := x
  unfold Tm.val
  dsimp only
  have e0 := hF.cell 0
  have e1 := hF.cell 1
  have e2 := hF.cell 2
  have e3 := hF.cell 3
  have y0 := hF.frozen 0
  have y1 := hF.frozen 1
  have y2 := hF.frozen 2
  have y3 := hF.frozen 3
  have hlt := hF.lt
  have HB := Lib.hid ((((hF.set 0 (.int .i64 xk)).set 1 (.string xs)).set 2 (.string xl)).set 3 (.string xt))
  have HM := Lib.hid (((((Moved.refl (· = F) w).setCell ⟨F, 0, none⟩ (.int .i64 xk) (.inl rfl)).setCell ⟨F, 1, none⟩ (.string xs) (.inl rfl)).setCell ⟨F, 2, none⟩ (.string xl) (.inl rfl)).setCell ⟨F, 3, none⟩ (.string xt) (.inl rfl))
  simp only [List.setIfInBounds_toArray, List.set_cons_zero, List.set_cons_succ] at HB
  simp only [List.getElem?_toArray, List.getElem?_cons_zero, List.getElem?_cons_succ] at e0 e1 e2 e3
  clear hF
  go_enter Tryz.func73, Tryz.ntmps73
  go_wp2_with fail
  exact bodyPost_end (results_none rfl _ _ _) rfl ⟨⟨_, rfl⟩, HM.out.alloc _, HB.out.alloc _⟩
set_option maxHeartbeats 8000000 in
theorem tlink2 {w : World} {P : Pl} {tv : Value} {s : St} (h : RdT w P tv s) {RB BB : Nat} (l x : Tm) (hl : l.Ok) (hx : x.Ok) (hR : Tp w P tv RB #[.pointer (some ⟨P.r, 0, none⟩)] 51) (hB : Tp w P tv BB #[.int .i64 l.k, .string l.s, .string l.l, .string l.t] 33) :
    Calls Tryz.prog 74 #[x.val, .pointer (some ⟨RB, 0, none⟩), .pointer (some ⟨BB, 0, none⟩)] w (ToV12 P w tv (s.tell l (named rRestB) x)) := by
  have HTL := Lib.hid (fun w1 tv1 (r : RdT w1 P tv1 s) => ttell r l (named rRestB) x hl (named_ok (by decide)) hx)
  have HNM := Lib.hid (fun w => tnamed rRestB w)
  obtain ⟨xk, xs, xl, xt⟩ := x
  obtain ⟨lk, ls, ll, lt⟩ := l
  obtain ⟨S1, hS1⟩ : ∃ q, q = s.tell ⟨lk, ls, ll, lt⟩ (named rRestB) ⟨xk, xs, xl, xt⟩ := ⟨_, rfl⟩
  rw [← hS1] at HTL ⊢
  unfold named Tm.val at HTL
  unfold named Tm.val nobT at HNM
  unfold Tm.val
  unfold nobT rRestB bl rdfL at HTL
  unfold rRestB bl rdfL at HNM
  dsimp only [List.cons_append, List.nil_append] at HTL HNM hB ⊢
  have HG := Lib.hid ((Go12.refl h).alloc (.cells #[.int .i64 xk, .string xs, .string xl, .string xt] 33))
  have HX := Lib.hid (Tp.new h #[.int .i64 xk, .string xs, .string xl, .string xt] 33)
  have HR := Lib.hid (hR.alloc (.cells #[.int .i64 xk, .string xs, .string xl, .string xt] 33))
  have HB := Lib.hid (hB.alloc (.cells #[.int .i64 xk, .string xs, .string xl, .string xt] 33))
  clear h hl hx hR hB hS1
  go_enter Tryz.func74, Tryz.ntmps74
  go_wp2_with fail
  generalize World.alloc w _ = W at HG HX HR HB ⊢
  refine wp_region_any (by kernel_rfl) ?_
  change wpAny _ _ _ _ _ _ _ (World.drew _)
  refine wpAny_of_held (S := fun w' => ∃ tvx sx, Go12 P w tv w' tvx sx ∧ Tp w' P tvx w.heap.size #[.int .i64 xk, .string xs, .string xl, .string xt] 33 ∧ Tp w' P tvx RB #[.pointer (some ⟨P.r, 0, none⟩)] 51 ∧ Tp w' P tvx BB #[.int .i64 lk, .string ls, .string ll, .string lt] 33) _ _ _ _ ?_
  have hS : (fun w' => ∃ tvx sx, Go12 P w tv w' tvx sx ∧ Tp w' P tvx w.heap.size #[.int .i64 xk, .string xs, .string xl, .string xt] 33 ∧ Tp w' P tvx RB #[.pointer (some ⟨P.r, 0, none⟩)] 51 ∧ Tp w' P tvx BB #[.int .i64 lk, .string ls, .string ll, .string lt] 33) _ := ⟨tv, s, HG.out.below (below_drew1 _), HX.out.go ((Go12.refl HG.out.rd).below (below_drew1 _)), HR.out.go ((Go12.refl HG.out.rd).below (below_drew1 _)), HB.out.go ((Go12.refl HG.out.rd).below (below_drew1 _))⟩
  refine wpAnyH_take (i := 0) (oi := ⟨some 4, _, _, _, _, _⟩) (v := ?_) rfl (by kernel_rfl) (by kernel_rfl) (by kernel_rfl) (fun _ _ _ h => h) (Or.inl ⟨by simp only [Region.wanted], ?_⟩) hS ?_
  rotate_left
  · intro wz hSw; obtain ⟨tvx, sx, hx1, hx2, hx3, hx4⟩ := hSw; have z9 := hx3.blk.cell 0
    go_simp
    first | done | with_reducible rfl
  try simp only [Act.put, List.setIfInBounds_toArray, List.set_cons_zero, List.set_cons_succ]
  refine wpAnyH_take (i := 1) (oi := ⟨some 5, _, _, _, _, _⟩) (v := ?_) rfl (by kernel_rfl) (by kernel_rfl) (by kernel_rfl) (fun _ _ _ h => h) (Or.inl ⟨by simp only [Region.wanted], ?_⟩) hS ?_
  rotate_left
  · intro wz hSw; obtain ⟨tvx, sx, hx1, hx2, hx3, hx4⟩ := hSw; obtain ⟨-, z0, z1, z2, z3, -, -, -, -⟩ := hx4.four
    go_simp
    first | done | with_reducible rfl
  try simp only [Act.put, List.setIfInBounds_toArray, List.set_cons_zero, List.set_cons_succ]
  refine wpAnyH_take (i := 3) (oi := ⟨some 7, _, _, _, _, _⟩) (v := ?_) rfl (by kernel_rfl) (by kernel_rfl) (by kernel_rfl) (fun _ _ _ h => h) (Or.inl ⟨by simp only [Region.wanted], ?_⟩) hS ?_
  rotate_left
  · intro wz hSw; obtain ⟨tvx, sx, hx1, hx2, hx3, hx4⟩ := hSw; obtain ⟨-, z0, z1, z2, z3, -, -, -, -⟩ := hx2.four
    go_simp
    first | done | with_reducible rfl
  try simp only [Act.put, List.setIfInBounds_toArray, List.set_cons_zero, List.set_cons_succ]
  refine wpAnyH_ready (rs := [2]) (by kernel_rfl) (by simp) ?_
  refine AllReadyH.cons (o := ⟨some 6, _, _, _, _, _⟩) rfl (fun K hK => ?_) AllReadyH.nil
  go_simp
  refine (HNM.out _).mono ?_
  rintro e w3 ⟨rfl, hb3⟩
  have HG3 := Lib.hid ((HG.out.below (below_drew1 _)).below hb3)
  have HX3 := Lib.hid (HX.out.go (((Go12.refl HG.out.rd).below (below_drew1 _)).below hb3))
  have HR3 := Lib.hid (HR.out.go (((Go12.refl HG.out.rd).below (below_drew1 _)).below hb3))
  have HB3 := Lib.hid (HB.out.go (((Go12.refl HG.out.rd).below (below_drew1 _)).below hb3))
  clear hb3
  refine hK.out _ _ (⟨tv, s, HG3.out, HX3.out, HR3.out, HB3.out⟩) (fun hS => ?_)
  clear hK K
  try simp only [Act.put, List.setIfInBounds_toArray, List.set_cons_zero, List.set_cons_succ]
  refine wpAnyH_ready (rs := [4]) (by kernel_rfl) (by simp) ?_
  refine AllReadyH.cons (o := ⟨some 8, _, _, _, _, _⟩) rfl (fun K hK => ?_) AllReadyH.nil
  go_simp
  refine (HTL.out _ _ HG3.out.rd).mono ?_
  rintro e w4 ⟨⟨v4, rfl⟩, tv4, hg4⟩
  have HG4 := Lib.hid (HG3.out.trans hg4)
  have HX4 := Lib.hid (HX3.out.go hg4)
  have HR4 := Lib.hid (HR3.out.go hg4)
  have HB4 := Lib.hid (HB3.out.go hg4)
  clear hg4
  refine hK.out _ _ (⟨tv4, S1, HG4.out, HX4.out, HR4.out, HB4.out⟩) (fun hS => ?_)
  clear hK K
  try simp only [Act.put, List.setIfInBounds_toArray, List.set_cons_zero, List.set_cons_succ]
  refine wpAnyH_done (by kernel_rfl) ?_ _
  go_wp2_with fail
  exact bodyPost_end (results_none rfl _ _ _) rfl ⟨⟨_, rfl⟩, tv4, HG4.out⟩
end Go.Proofs.YtefkppeicmipbaaGreatDoor
/- Triples as text: collection. -/
namespace Go.Proofs.YtefkppeicmipbaaGreatDoor
open Go.RowKit Go.Shelf Go.Maps
set_option maxRecDepth 100000
set_option linter.unusedVariables false
set_option linter.unusedSimpArgs false
theorem fail_dead {s : St} (h : s.e ≠ 0) (x : Int) : s.fail x = s := if_neg h
theorem tell_dead {s : St} (h : s.e ≠ 0) (x y z : Tm) : (s.tell x y z).e ≠ 0 := by
  have h1 : s.many.e ≠ 0 := by unfold St.many; split; (rw [fail_dead h 4]; exact h); exact h
  have h2 : (s.many.wrong (fitsK x y z)).e ≠ 0 := by unfold St.wrong; split; (rw [fail_dead h1 _]; exact h1); exact h1
  unfold St.tell
  rw [put_dead h2]
  exact h2
theorem link_dead {s : St} (h : s.e ≠ 0) (b : Tm) (l : Option Tm) : (linkS b l s).e ≠ 0 := by cases l; exact h; exact tell_dead h _ _ _
theorem col_stop (lab : ByteArray) (n : Nat) (f : Tm) (l : Option Tm) {s : St} (h : s.e ≠ 0) : colP lab (n + 1) f l s = (linkT (named rNilB) l f, linkS (named rNilB) l s) := by
  rw [colP, if_neg (fun e => h e.1), if_neg h]
theorem col_end (lab : ByteArray) (n : Nat) (f : Tm) (l : Option Tm) {s : St} (h : s.e = 0) (hp : s.peek = sg [41]) : colP lab (n + 1) f l s = (linkT (named rNilB) l f, linkS (named rNilB) l s.next) := by
  rw [colP, if_neg (fun e => e.2 hp), if_pos h]
theorem col_more (lab : ByteArray) (n : Nat) (f : Tm) (l : Option Tm) {s : St} (h : s.e = 0) (hp : ¬ s.peek = sg [41]) : colP lab (n + 1) f l s =
    colP lab n (linkT (blankT lab (objP lab n s).2.fresh.n) l f) (some (blankT lab (objP lab n s).2.fresh.n)) ((linkS (blankT lab (objP lab n s).2.fresh.n) l (objP lab n s).2.fresh).tell (blankT lab (objP lab n s).2.fresh.n) (named rFirstB) (objP lab n s).1) := by
  rw [colP, if_pos ⟨h, hp⟩]
theorem fresh_call {w : World} {P : Pl} {tv : Value} {s : St} (h : RdT w P tv s) (X : Tm) (hX : X = blankT P.lab s.fresh.n) : Calls Tryz.prog 15 #[.pointer (some ⟨P.nb, 0, none⟩), .pointer (some ⟨P.lb, 0, none⟩)] w (To12 P w tv (.agg #[.int .i64 X.k, .string X.s, .string X.l, .string X.t]) s.fresh) := by
  rw [hX]
  exact tfresh h
def linkV (P : Pl) (F RB BB : Nat) : Option Tm → Value
  | none => .func (.func 73) #[] #[.pointer (some ⟨F, 0, none⟩)]
  | some _ => .func (.func 74) #[] #[.pointer (some ⟨RB, 0, none⟩), .pointer (some ⟨BB, 0, none⟩)]
set_option maxHeartbeats 32000000 in
theorem tcollection {N : Nat} (hI : ∀ m, m < N → C12 m) {w : World} {P : Pl} {tv : Value} {s : St} (h : RdT w P tv s) (hn : 4 * s.len + 3 ≤ N) :
    Calls Tryz.prog 48 #[.pointer (some ⟨P.r, 0, none⟩)] w (To12 P w tv (colP P.lab N ⟨0, nobT, nobT, nobT⟩ none s).1.val (colP P.lab N ⟨0, nobT, nobT, nobT⟩ none s).2) := by
  obtain ⟨O, hO⟩ : ∃ O, O = colP P.lab N ⟨0, nobT, nobT, nobT⟩ none s := ⟨_, rfl⟩
  rw [← hO]
  obtain ⟨X, Q⟩ := O
  dsimp only
  have HII := Lib.hid hI
  have HLAB := Lib.hid h.lab
  have HTK := Lib.hid (fun w1 tv1 s1 (r : RdT w1 P tv1 s1) => ttake r ⟨#[41]⟩)
  have HNIL := Lib.hid (fun w => tnamed rNilB w)
  have HFIR := Lib.hid (fun w => tnamed rFirstB w)
  have hmf : ∀ (f : Nat) (a b : Array Value) (w : World), (Instr.makeFunc (.func f) a b).run Tryz.prog w = .ok (.func (.func f) a b) w := fun f a b w => rfl
  have g1 := (Go12.refl h).alloc (.cells #[.pointer (some ⟨P.r, 0, none⟩)] 51)
  have g2 := g1.alloc (.cells #[.int .i64 0, .string ⟨#[]⟩, .string ⟨#[]⟩, .string ⟨#[]⟩] 33)
  have g3 := g2.alloc (.cells #[.int .i64 0, .string ⟨#[]⟩, .string ⟨#[]⟩, .string ⟨#[]⟩] 33)
  have t1 := ((Tp.new h #[.pointer (some ⟨P.r, 0, none⟩)] 51).alloc (.cells #[.int .i64 0, .string ⟨#[]⟩, .string ⟨#[]⟩, .string ⟨#[]⟩] 33)).alloc (.cells #[.int .i64 0, .string ⟨#[]⟩, .string ⟨#[]⟩, .string ⟨#[]⟩] 33)
  have t2 := (Tp.new g1.rd #[.int .i64 0, .string ⟨#[]⟩, .string ⟨#[]⟩, .string ⟨#[]⟩] 33).alloc (.cells #[.int .i64 0, .string ⟨#[]⟩, .string ⟨#[]⟩, .string ⟨#[]⟩] 33)
  have t3 := Tp.new g2.rd #[.int .i64 0, .string ⟨#[]⟩, .string ⟨#[]⟩, .string ⟨#[]⟩] 33
  have hz1 : (w.alloc (.cells #[.pointer (some ⟨P.r, 0, none⟩)] 51)).heap.size = w.heap.size + 1 := by simp
  have hz2 : ((w.alloc (.cells #[.pointer (some ⟨P.r, 0, none⟩)] 51)).alloc (.cells #[.int .i64 0, .string ⟨#[]⟩, .string ⟨#[]⟩, .string ⟨#[]⟩] 33)).heap.size = w.heap.size + 1 + 1 := by simp
  rw [hz1] at t2
  rw [hz2] at t3
  have HG0 := Lib.hid g3
  have HA0 := Lib.hid t1
  have HR0 := Lib.hid t2
  have HF0 := Lib.hid t3
  have HO := Lib.hid hO
  have HN := Lib.hid hn
  clear hI h g1 g2 g3 t1 t2 t3 hz1 hz2 hO hn
  go_enter Tryz.func48, Tryz.ntmps48
  go_wp2_with fail
  generalize World.alloc (World.alloc (World.alloc w _) _) _ = W0 at HG0 HA0 HR0 HF0 ⊢
  go_loopg [4, 5, 6] N (fun g v4 _ _ wx => ∃ (m : Nat) (f : Tm) (l : Option Tm) (s' : St) (tv' : Value) (BB : Nat), v4 = linkV P (w.heap.size + 1 + 1) w.heap.size BB l ∧ (X, Q) = colP P.lab m f l s' ∧ (s'.e = 0 → 4 * s'.len + 3 ≤ m) ∧ 1 ≤ m ∧ m ≤ N ∧ m ≤ g ∧ Go12 P w tv wx tv' s' ∧ Tp wx P tv' w.heap.size #[.pointer (some ⟨P.r, 0, none⟩)] 51 ∧ Tp wx P tv' (w.heap.size + 1) #[.int .i64 0, .string ⟨#[]⟩, .string ⟨#[]⟩, .string ⟨#[]⟩] 33 ∧ Tp wx P tv' (w.heap.size + 1 + 1) #[.int .i64 f.k, .string f.s, .string f.l, .string f.t] 33 ∧ (∀ x, l = some x → x.Ok ∧ Tp wx P tv' BB #[.int .i64 x.k, .string x.s, .string x.l, .string x.t] 33 ∧ w.heap.size + 1 + 1 < BB))
  case atStart => exact ⟨N, ⟨0, nobT, nobT, nobT⟩, none, s, tv, 0, rfl, HO.out, fun _ => HN.out, by have := HN.out; omega, Nat.le_refl _, Nat.le_refl _, HG0.out, HA0.out, HR0.out, HF0.out, fun x h => by cases h⟩
  case round =>
    obtain ⟨m, f, l, s', tv', BB, rfl, hxq, hlm, hm1, hmN, hmg, hg, ha, hr, hf, hbl⟩ := hrel
    obtain ⟨k, rfl⟩ : ∃ k, m = k + 1 := ⟨m - 1, by omega⟩
    obtain ⟨g1, rfl⟩ : ∃ g1, gk = g1 + 1 := ⟨gk - 1, by omega⟩
    obtain ⟨rvx, -, -, -, -, e3, -, -, e6⟩ := hg.rd.open
    unfold freshV at e3
    have a0 := ha.blk.cell 0
    have alt := ha.blk.lt
    simp only [List.getElem?_toArray, List.getElem?_cons_zero] at a0
    have HG := Lib.hid hg
    have HA := Lib.hid ha
    have HR := Lib.hid hr
    have HF := Lib.hid hf
    have HB := Lib.hid hbl
    have HM := Lib.hid (And.intro hlm (And.intro hmN hmg))
    have HXQ0 := Lib.hid hxq
    clear hg ha hr hf hbl hlm hm1 hmN hmg hxq
    by_cases he : s'.e = 0
    rotate_left
    · have hneb : (s'.e == 0) = false := by simpa using he
      have hcs := HXQ0.out.trans (col_stop P.lab k f l he)
      have HXQ := Lib.hid (And.intro (congrArg Prod.fst hcs) (congrArg Prod.snd hcs))
      clear hcs he HXQ0
      cases l with
      | none =>
        unfold linkV
        dsimp only at HXQ
        -- the end: HG at the world, its triples TV, its state SF
        go_wp2_with fail
        refine (HNIL.out _).mono ?_
        rintro e wn ⟨rfl, hbn⟩
        have HGn := Lib.hid (HG.out.below hbn)
        have HAn := Lib.hid (HA.out.go ((Go12.refl HG.out.rd).below hbn))
        have HRn := Lib.hid (HR.out.go ((Go12.refl HG.out.rd).below hbn))
        have HFn := Lib.hid (HF.out.go ((Go12.refl HG.out.rd).below hbn))
        clear hbn
        go_wp2_with fail
        refine (tlink1 HFn.out.blk (named rNilB)).mono ?_
        rintro e wl ⟨⟨vl, rfl⟩, hml, hbl⟩
        have HGl := Lib.hid (HGn.out.turnT HFn.out hml (by omega))
        have HRl := Lib.hid (HRn.out.moved hml (by omega))
        have HF := Lib.hid (HGl.out.temp4 HRl.out (.int .i64 (named rNilB).k) (.string (named rNilB).s) (.string (named rNilB).l) (.string (named rNilB).t) (by omega))
        obtain ⟨t0, t1, t2, t3, t4, y1, y2, y3, y4⟩ := HRl.out.four
        have f0 := hbl.cell 0
        have f1 := hbl.cell 1
        have f2 := hbl.cell 2
        have f3 := hbl.cell 3
        have flt := hbl.lt
        clear hml hbl
        simp only [List.getElem?_toArray, List.getElem?_cons_zero, List.getElem?_cons_succ] at f0 f1 f2 f3
        go_wp2_with fail
        exact bodyPost_ret (results_tm (p := 2) (by kernel_rfl) _ _ (w.heap.size + 1) _ _ _ _ _ rfl HF.out.2.blk) rfl ⟨by rw [HXQ.out.1]; rfl, tv', by rw [HXQ.out.2]; exact HF.out.1⟩
      | some lx =>
        obtain ⟨lk, ls, ll, lt⟩ := lx
        have hbx := HB.out _ rfl
        have HLO := Lib.hid hbx.1
        have HBB := Lib.hid hbx.2.1
        obtain ⟨fk, fs, fl, ft⟩ := f
        unfold linkV
        dsimp only at HXQ HBB HF
        clear hbx
        -- the end: HG at the world, its triples TV, its state SF
        go_wp2_with fail
        refine (HNIL.out _).mono ?_
        rintro e wn ⟨rfl, hbn⟩
        have HGn := Lib.hid (HG.out.below hbn)
        have HAn := Lib.hid (HA.out.go ((Go12.refl HG.out.rd).below hbn))
        have HRn := Lib.hid (HR.out.go ((Go12.refl HG.out.rd).below hbn))
        have HFn := Lib.hid (HF.out.go ((Go12.refl HG.out.rd).below hbn))
        have HBn := Lib.hid (HBB.out.go ((Go12.refl HG.out.rd).below hbn))
        clear hbn
        go_wp2_with fail
        refine (tlink2 HGn.out.rd ⟨lk, ls, ll, lt⟩ (named rNilB) HLO.out rnil_ok HAn.out HBn.out).mono ?_
        rintro e wl ⟨⟨vl, rfl⟩, tvl, hgl⟩
        have HGl := Lib.hid (HGn.out.trans hgl)
        have HRl := Lib.hid (HRn.out.go hgl)
        have HFl := Lib.hid (HFn.out.go hgl)
        have HF := Lib.hid (HGl.out.temp4 HRl.out (.int .i64 fk) (.string fs) (.string fl) (.string ft) (by omega))
        obtain ⟨t0, t1, t2, t3, t4, y1, y2, y3, y4⟩ := HRl.out.four
        obtain ⟨flt, f0, f1, f2, f3, -, -, -, -⟩ := HFl.out.four
        clear hgl
        go_wp2_with fail
        exact bodyPost_ret (results_tm (p := 2) (by kernel_rfl) _ _ (w.heap.size + 1) _ _ _ _ _ rfl HF.out.2.blk) rfl ⟨by rw [HXQ.out.1]; rfl, tvl, by rw [HXQ.out.2]; exact HF.out.1⟩
    have hneb : (s'.e == 0) = true := by rw [he]; rfl
    obtain ⟨d, hd⟩ : ∃ d, d = decide (s'.peek = sg [41]) := ⟨_, rfl⟩
    have htk := HTK.out _ _ _ HG.out.rd
    rw [show decide (s'.peek = sg (⟨#[41]⟩ : ByteArray).data.toList) = d from hd.symm] at htk
    have HTK1 := Lib.hid htk
    have HD := Lib.hid hd
    have HE := Lib.hid he
    clear htk hd he
    go_wp2_with fail
    refine (HTK1.out).mono ?_
    rintro e w1 ⟨rfl, tv1, hg1⟩
    have HA1 := Lib.hid (HA.out.go hg1)
    have HR1 := Lib.hid (HR.out.go hg1)
    have HF1 := Lib.hid (HF.out.go hg1)
    have HB1 := Lib.hid (fun x (h : l = some x) => ((HB.out x h).2.1).go hg1)
    cases d with
    | true =>
      have hp : s'.peek = sg [41] := of_decide_eq_true HD.out.symm
      rw [show s'.take (⟨#[41]⟩ : ByteArray).data.toList = s'.next from take_pos hp] at hg1
      have hcs := HXQ0.out.trans (col_end P.lab k f l HE.out hp)
      have HXQ := Lib.hid (And.intro (congrArg Prod.fst hcs) (congrArg Prod.snd hcs))
      have HG1 := Lib.hid (HG.out.trans hg1)
      clear hcs hp hg1 HXQ0
      cases l with
      | none =>
        unfold linkV
        dsimp only at HXQ
        -- the end: HG at the world, its triples TV, its state SF
        go_wp2_with fail
        refine (HNIL.out _).mono ?_
        rintro e wn ⟨rfl, hbn⟩
        have HGn := Lib.hid (HG1.out.below hbn)
        have HAn := Lib.hid (HA1.out.go ((Go12.refl HG1.out.rd).below hbn))
        have HRn := Lib.hid (HR1.out.go ((Go12.refl HG1.out.rd).below hbn))
        have HFn := Lib.hid (HF1.out.go ((Go12.refl HG1.out.rd).below hbn))
        clear hbn
        go_wp2_with fail
        refine (tlink1 HFn.out.blk (named rNilB)).mono ?_
        rintro e wl ⟨⟨vl, rfl⟩, hml, hbl⟩
        have HGl := Lib.hid (HGn.out.turnT HFn.out hml (by omega))
        have HRl := Lib.hid (HRn.out.moved hml (by omega))
        have HF := Lib.hid (HGl.out.temp4 HRl.out (.int .i64 (named rNilB).k) (.string (named rNilB).s) (.string (named rNilB).l) (.string (named rNilB).t) (by omega))
        obtain ⟨t0, t1, t2, t3, t4, y1, y2, y3, y4⟩ := HRl.out.four
        have f0 := hbl.cell 0
        have f1 := hbl.cell 1
        have f2 := hbl.cell 2
        have f3 := hbl.cell 3
        have flt := hbl.lt
        clear hml hbl
        simp only [List.getElem?_toArray, List.getElem?_cons_zero, List.getElem?_cons_succ] at f0 f1 f2 f3
        go_wp2_with fail
        exact bodyPost_ret (results_tm (p := 2) (by kernel_rfl) _ _ (w.heap.size + 1) _ _ _ _ _ rfl HF.out.2.blk) rfl ⟨by rw [HXQ.out.1]; rfl, tv1, by rw [HXQ.out.2]; exact HF.out.1⟩
      | some lx =>
        obtain ⟨lk, ls, ll, lt⟩ := lx
        have HLO := Lib.hid (HB.out _ rfl).1
        have HBB := Lib.hid (HB1.out _ rfl)
        obtain ⟨fk, fs, fl, ft⟩ := f
        unfold linkV
        dsimp only at HXQ HBB HF1
        -- the end: HG at the world, its triples TV, its state SF
        go_wp2_with fail
        refine (HNIL.out _).mono ?_
        rintro e wn ⟨rfl, hbn⟩
        have HGn := Lib.hid (HG1.out.below hbn)
        have HAn := Lib.hid (HA1.out.go ((Go12.refl HG1.out.rd).below hbn))
        have HRn := Lib.hid (HR1.out.go ((Go12.refl HG1.out.rd).below hbn))
        have HFn := Lib.hid (HF1.out.go ((Go12.refl HG1.out.rd).below hbn))
        have HBn := Lib.hid (HBB.out.go ((Go12.refl HG1.out.rd).below hbn))
        clear hbn
        go_wp2_with fail
        refine (tlink2 HGn.out.rd ⟨lk, ls, ll, lt⟩ (named rNilB) HLO.out rnil_ok HAn.out HBn.out).mono ?_
        rintro e wl ⟨⟨vl, rfl⟩, tvl, hgl⟩
        have HGl := Lib.hid (HGn.out.trans hgl)
        have HRl := Lib.hid (HRn.out.go hgl)
        have HFl := Lib.hid (HFn.out.go hgl)
        have HF := Lib.hid (HGl.out.temp4 HRl.out (.int .i64 fk) (.string fs) (.string fl) (.string ft) (by omega))
        obtain ⟨t0, t1, t2, t3, t4, y1, y2, y3, y4⟩ := HRl.out.four
        obtain ⟨flt, f0, f1, f2, f3, -, -, -, -⟩ := HFl.out.four
        clear hgl
        go_wp2_with fail
        exact bodyPost_ret (results_tm (p := 2) (by kernel_rfl) _ _ (w.heap.size + 1) _ _ _ _ _ rfl HF.out.2.blk) rfl ⟨by rw [HXQ.out.1]; rfl, tvl, by rw [HXQ.out.2]; exact HF.out.1⟩
    | false =>
      have hp : ¬ s'.peek = sg [41] := of_decide_eq_false HD.out.symm
      rw [show s'.take (⟨#[41]⟩ : ByteArray).data.toList = s' from take_neg hp] at hg1
      have hcs := HXQ0.out.trans (col_more P.lab k f l HE.out hp)
      have hlk := HM.out.1 HE.out
      have hob := fun w1 tv1 (r : RdT w1 P tv1 s') => (HII.out k (by have := HM.out.2.1; omega)).obj w1 P tv1 s' r (by omega)
      have hok := obj_ok HLAB.out k HG.out.rd.inv
      have hon : (objP P.lab k s').2.e = 0 → 4 * (objP P.lab k s').2.len + 3 ≤ k := fun h0 => by
        obtain ⟨k', rfl⟩ : ∃ k', k = k' + 2 := ⟨k - 2, by omega⟩
        have hx : (objP P.lab (k' + 2) s').2.len ≤ s'.next.len := obj_next P.lab (k' + 1) s'
        by_cases hz : s'.rest = []
        · exact absurd h0 (obj_nil P.lab k' s' hz)
        · have : s'.next.len + 1 ≤ s'.len := by
            unfold St.len St.next
            cases hr : s'.rest with
            | nil => exact absurd hr hz
            | cons a r => simp
          omega
      obtain ⟨Y, hY⟩ : ∃ Y, Y = objP P.lab k s' := ⟨_, rfl⟩
      rw [← hY] at hcs hob hok hon
      obtain ⟨⟨ok, os, ol, ot⟩, s0⟩ := Y
      dsimp only at hcs hob hok hon
      obtain ⟨b, hb⟩ : ∃ b, b = blankT P.lab s0.fresh.n := ⟨_, rfl⟩
      have hbo : b.Ok := by rw [hb]; exact blank_ok HLAB.out s0
      have hfr := fun w1 tv1 (r : RdT w1 P tv1 s0) => fresh_call r b hb
      rw [← hb] at hcs
      obtain ⟨bk, bs, bl', bt⟩ := b
      unfold Tm.val at hob
      dsimp only at hob hfr
      have HOB := Lib.hid hob
      have HFR := Lib.hid hfr
      have HCS := Lib.hid hcs
      have HOK := Lib.hid (And.intro hok hbo)
      have HON := Lib.hid hon
      have HG1 := Lib.hid (HG.out.trans hg1)
      have a0' := HA1.out.blk.cell 0
      have alt' := HA1.out.blk.lt
      simp only [List.getElem?_toArray, List.getElem?_cons_zero] at a0'
      clear hp hg1 hob hok hon hY hb hbo hfr hcs hlk HXQ0 a0 alt e3 e6
      go_wp2_with fail
      refine (HOB.out _ _ HG1.out.rd).mono ?_
      rintro e w2 ⟨rfl, tv2, hg2⟩
      have HG2 := Lib.hid ((HG1.out.trans hg2).alloc (.cells #[.int .i64 ok, .string os, .string ol, .string ot] 33))
      have HA2 := Lib.hid ((HA1.out.go hg2).alloc (.cells #[.int .i64 ok, .string os, .string ol, .string ot] 33))
      have HR2 := Lib.hid ((HR1.out.go hg2).alloc (.cells #[.int .i64 ok, .string os, .string ol, .string ot] 33))
      have HF2 := Lib.hid ((HF1.out.go hg2).alloc (.cells #[.int .i64 ok, .string os, .string ol, .string ot] 33))
      have HB2 := Lib.hid (fun x (h : l = some x) => ((HB1.out x h).go hg2).alloc (.cells #[.int .i64 ok, .string os, .string ol, .string ot] 33))
      have HO2 := Lib.hid (Tp.new hg2.rd #[.int .i64 ok, .string os, .string ol, .string ot] 33)
      have HLT := Lib.hid (HF1.out.go hg2).blk.lt
      have a0 := (HA1.out.go hg2).blk.cell 0
      have alt := (HA1.out.go hg2).blk.lt
      obtain ⟨rvx, -, -, -, -, e3, -, -, e6⟩ := hg2.rd.open
      have hlt2 := hg2.rd.rlt
      unfold freshV at e3
      simp only [List.getElem?_toArray, List.getElem?_cons_zero] at a0
      clear hg2 a0' alt'
      go_wp2_with fail
      generalize World.alloc w2 _ = W2 at HG2 HA2 HR2 HF2 HB2 HO2 ⊢
      generalize w2.heap.size = OB at HO2 HLT ⊢
      refine (HFR.out _ _ HG2.out.rd).mono ?_
      rintro e w3 ⟨rfl, tv3, hg3⟩
      have HG3 := Lib.hid ((HG2.out.trans hg3).alloc (.cells #[.int .i64 bk, .string bs, .string bl', .string bt] 33))
      have HA3 := Lib.hid ((HA2.out.go hg3).alloc (.cells #[.int .i64 bk, .string bs, .string bl', .string bt] 33))
      have HR3 := Lib.hid ((HR2.out.go hg3).alloc (.cells #[.int .i64 bk, .string bs, .string bl', .string bt] 33))
      have HF3 := Lib.hid ((HF2.out.go hg3).alloc (.cells #[.int .i64 bk, .string bs, .string bl', .string bt] 33))
      have HB3 := Lib.hid (fun x (h : l = some x) => ((HB2.out x h).go hg3).alloc (.cells #[.int .i64 bk, .string bs, .string bl', .string bt] 33))
      have HO3 := Lib.hid ((HO2.out.go hg3).alloc (.cells #[.int .i64 bk, .string bs, .string bl', .string bt] 33))
      have HK3 := Lib.hid (Tp.new hg3.rd #[.int .i64 bk, .string bs, .string bl', .string bt] 33)
      have HLT3 := Lib.hid (HO2.out.go hg3).blk.lt
      clear hg3 a0 alt e3 e6 hlt2
      have hk3 := HK3.out.four
      obtain ⟨b9, b0, b1, b2, b3, -, -, -, -⟩ := hk3
      have HW3 := Lib.hid (show (w3.alloc (.cells #[.int .i64 bk, .string bs, .string bl', .string bt] 33)).heap.size = w3.heap.size + 1 by simp)
      cases l with
      | none =>
        unfold linkV
        go_upto_region 6 with fail
        generalize World.alloc w3 _ = W3 at HG3 HA3 HR3 HF3 HB3 HO3 HK3 HW3 b9 b0 b1 b2 b3 ⊢
        generalize w3.heap.size = KB at HK3 HLT3 HW3 b9 b0 b1 b2 b3 ⊢
        go_wp2_with fail
        refine (tlink1 HF3.out.blk ⟨bk, bs, bl', bt⟩).mono ?_
        rintro e w4 ⟨⟨v4, rfl⟩, hm4, hb4⟩
        have HG4 := Lib.hid (HG3.out.turnT HF3.out hm4 (by omega))
        have HA4 := Lib.hid (HA3.out.moved hm4 (by omega))
        have HR4 := Lib.hid (HR3.out.moved hm4 (by omega))
        have HF4 := Lib.hid (show Tp w4 P tv3 (w.heap.size + 1 + 1) #[.int .i64 bk, .string bs, .string bl', .string bt] 33 from ⟨hb4, HF3.out.ge, HF3.out.own⟩)
        have HO4 := Lib.hid (HO3.out.moved hm4 (by have := HLT.out; omega))
        have HK4 := Lib.hid (HK3.out.moved hm4 (by have := HLT.out; have := HLT3.out; omega))
        have HTE := Lib.hid (fun w1 tv1 (r : RdT w1 P tv1 s0.fresh) => ttell r ⟨bk, bs, bl', bt⟩ (named rFirstB) ⟨ok, os, ol, ot⟩ HOK.out.2 (named_ok (by decide)) HOK.out.1)
        have HSS := Lib.hid (show (X, Q) = colP P.lab k ⟨bk, bs, bl', bt⟩ (some ⟨bk, bs, bl', bt⟩) (s0.fresh.tell ⟨bk, bs, bl', bt⟩ (named rFirstB) ⟨ok, os, ol, ot⟩) from HCS.out)
        have HSE := Lib.hid (show (s0.fresh.tell ⟨bk, bs, bl', bt⟩ (named rFirstB) ⟨ok, os, ol, ot⟩).e = 0 → 4 * (s0.fresh.tell ⟨bk, bs, bl', bt⟩ (named rFirstB) ⟨ok, os, ol, ot⟩).len + 3 ≤ k from fun h0 => by
          by_cases hz : s0.e = 0
          · have := HON.out hz; have h1 := len_tell s0.fresh ⟨bk, bs, bl', bt⟩ (named rFirstB) ⟨ok, os, ol, ot⟩; rw [len_fresh] at h1; omega
          · exact absurd h0 (tell_dead (s := s0.fresh) hz _ _ _))
        generalize s0.fresh.tell ⟨bk, bs, bl', bt⟩ (named rFirstB) ⟨ok, os, ol, ot⟩ = s5 at HTE HSS HSE
        clear hm4 hb4 b9 b0 b1 b2 b3
        unfold named nobT Tm.val rFirstB bl rdfL at HTE
        unfold named nobT Tm.val rFirstB bl rdfL at HFIR
        dsimp only [List.cons_append, List.nil_append] at HTE HFIR
        go_wp2_with fail
        refine wp_region_any (by kernel_rfl) ?_
        change wpAny _ _ _ _ _ _ _ (World.drew _)
        refine wpAny_of_held (S := fun w' => ∃ tvy sy, Go12 P w tv w' tvy sy ∧ Tp w' P tvy w.heap.size #[.pointer (some ⟨P.r, 0, none⟩)] 51 ∧ Tp w' P tvy KB #[.int .i64 bk, .string bs, .string bl', .string bt] 33 ∧ Tp w' P tvy OB #[.int .i64 ok, .string os, .string ol, .string ot] 33) _ _ _ _ ?_
        have hS : (fun w' => ∃ tvy sy, Go12 P w tv w' tvy sy ∧ Tp w' P tvy w.heap.size #[.pointer (some ⟨P.r, 0, none⟩)] 51 ∧ Tp w' P tvy KB #[.int .i64 bk, .string bs, .string bl', .string bt] 33 ∧ Tp w' P tvy OB #[.int .i64 ok, .string os, .string ol, .string ot] 33) _ := ⟨tv3, s0.fresh, HG4.out.below (below_drew1 _), HA4.out.go ((Go12.refl HG4.out.rd).below (below_drew1 _)), HK4.out.go ((Go12.refl HG4.out.rd).below (below_drew1 _)), HO4.out.go ((Go12.refl HG4.out.rd).below (below_drew1 _))⟩
        refine wpAnyH_take (i := 0) (oi := ⟨some 28, _, _, _, _, _⟩) (v := ?_) rfl (by kernel_rfl) (by kernel_rfl) (by kernel_rfl) (fun _ _ _ h => h) (Or.inl ⟨by simp only [Region.wanted], ?_⟩) hS ?_
        rotate_left
        · intro wz hSw; obtain ⟨tvy, sy, hx1, hx2, hx3, hx4⟩ := hSw; have z9 := hx2.blk.cell 0; simp only [List.getElem?_toArray, List.getElem?_cons_zero] at z9
          go_simp
          first | done | with_reducible rfl
        try simp only [Act.put, List.setIfInBounds_toArray, List.set_cons_zero, List.set_cons_succ]
        refine wpAnyH_take (i := 1) (oi := ⟨some 29, _, _, _, _, _⟩) (v := ?_) rfl (by kernel_rfl) (by kernel_rfl) (by kernel_rfl) (fun _ _ _ h => h) (Or.inl ⟨by simp only [Region.wanted], ?_⟩) hS ?_
        rotate_left
        · intro wz hSw; obtain ⟨tvy, sy, hx1, hx2, hx3, hx4⟩ := hSw; obtain ⟨-, z0, z1, z2, z3, -, -, -, -⟩ := hx3.four
          go_simp
          first | done | with_reducible rfl
        try simp only [Act.put, List.setIfInBounds_toArray, List.set_cons_zero, List.set_cons_succ]
        refine wpAnyH_take (i := 3) (oi := ⟨some 31, _, _, _, _, _⟩) (v := ?_) rfl (by kernel_rfl) (by kernel_rfl) (by kernel_rfl) (fun _ _ _ h => h) (Or.inl ⟨by simp only [Region.wanted], ?_⟩) hS ?_
        rotate_left
        · intro wz hSw; obtain ⟨tvy, sy, hx1, hx2, hx3, hx4⟩ := hSw; obtain ⟨-, z0, z1, z2, z3, -, -, -, -⟩ := hx4.four
          go_simp
          first | done | with_reducible rfl
        try simp only [Act.put, List.setIfInBounds_toArray, List.set_cons_zero, List.set_cons_succ]
        refine wpAnyH_ready (rs := [2]) (by kernel_rfl) (by simp) ?_
        refine AllReadyH.cons (o := ⟨some 30, _, _, _, _, _⟩) rfl (fun K hK => ?_) AllReadyH.nil
        go_simp
        refine (HFIR.out _).mono ?_
        rintro e w5 ⟨rfl, hb5⟩
        have HG5 := Lib.hid ((HG4.out.below (below_drew1 _)).below hb5)
        have HA5 := Lib.hid (HA4.out.go (((Go12.refl HG4.out.rd).below (below_drew1 _)).below hb5))
        have HR5 := Lib.hid (HR4.out.go (((Go12.refl HG4.out.rd).below (below_drew1 _)).below hb5))
        have HF5 := Lib.hid (HF4.out.go (((Go12.refl HG4.out.rd).below (below_drew1 _)).below hb5))
        have HO5 := Lib.hid (HO4.out.go (((Go12.refl HG4.out.rd).below (below_drew1 _)).below hb5))
        have HK5 := Lib.hid (HK4.out.go (((Go12.refl HG4.out.rd).below (below_drew1 _)).below hb5))
        clear hb5
        refine hK.out _ _ (⟨tv3, s0.fresh, HG5.out, HA5.out, HK5.out, HO5.out⟩) (fun hS => ?_)
        clear hK K
        try simp only [Act.put, List.setIfInBounds_toArray, List.set_cons_zero, List.set_cons_succ]
        refine wpAnyH_ready (rs := [4]) (by kernel_rfl) (by simp) ?_
        refine AllReadyH.cons (o := ⟨some 32, _, _, _, _, _⟩) rfl (fun K hK => ?_) AllReadyH.nil
        go_simp
        refine (HTE.out _ _ HG5.out.rd).mono ?_
        rintro e w6 ⟨⟨v6, rfl⟩, tv6, hg6⟩
        have HG6 := Lib.hid (HG5.out.trans hg6)
        have HA6 := Lib.hid (HA5.out.go hg6)
        have HR6 := Lib.hid (HR5.out.go hg6)
        have HF6 := Lib.hid (HF5.out.go hg6)
        have HO6 := Lib.hid (HO5.out.go hg6)
        have HK6 := Lib.hid (HK5.out.go hg6)
        clear hg6
        refine hK.out _ _ (⟨tv6, s5, HG6.out, HA6.out, HK6.out, HO6.out⟩) (fun hS => ?_)
        clear hK K
        try simp only [Act.put, List.setIfInBounds_toArray, List.set_cons_zero, List.set_cons_succ]
        refine wpAnyH_done (by kernel_rfl) ?_ _
        clear hS
        go_wp2_with fail
        go_roundg g1
        case measure => omega
        case rel => exact ⟨k, ⟨bk, bs, bl', bt⟩, some ⟨bk, bs, bl', bt⟩, s5, tv6, KB, rfl, HSS.out, HSE.out, by have := HM.out.1 HE.out; omega, by have := HM.out; omega, by have := HM.out; omega, HG6.out, HA6.out, HR6.out, HF6.out, fun x hx => by cases hx; exact ⟨HOK.out.2, HK6.out, by have := HLT.out; have := HLT3.out; omega⟩⟩
      | some lx =>
        obtain ⟨lk, ls, ll, lt⟩ := lx
        have HLO := Lib.hid (HB.out _ rfl).1
        have HLB := Lib.hid (HB3.out _ rfl)
        obtain ⟨fk, fs, fl, ft⟩ := f
        unfold linkV
        dsimp only at HLB HF3
        go_upto_region 6 with fail
        generalize World.alloc w3 _ = W3 at HG3 HA3 HR3 HF3 HLB HB3 HO3 HK3 HW3 b9 b0 b1 b2 b3 ⊢
        generalize w3.heap.size = KB at HK3 HLT3 HW3 b9 b0 b1 b2 b3 ⊢
        go_wp2_with fail
        refine (tlink2 HG3.out.rd ⟨lk, ls, ll, lt⟩ ⟨bk, bs, bl', bt⟩ HLO.out HOK.out.2 HA3.out HLB.out).mono ?_
        rintro e w4 ⟨⟨v4, rfl⟩, tv4, hg4⟩
        have HG4 := Lib.hid (HG3.out.trans hg4)
        have HA4 := Lib.hid (HA3.out.go hg4)
        have HR4 := Lib.hid (HR3.out.go hg4)
        have HF4 := Lib.hid (HF3.out.go hg4)
        have HO4 := Lib.hid (HO3.out.go hg4)
        have HK4 := Lib.hid (HK3.out.go hg4)
        obtain ⟨sl, hsl⟩ : ∃ q, q = s0.fresh.tell ⟨lk, ls, ll, lt⟩ (named rRestB) ⟨bk, bs, bl', bt⟩ := ⟨_, rfl⟩
        have HCS2 := Lib.hid (show (X, Q) = colP P.lab k ⟨fk, fs, fl, ft⟩ (some ⟨bk, bs, bl', bt⟩) (sl.tell ⟨bk, bs, bl', bt⟩ (named rFirstB) ⟨ok, os, ol, ot⟩) from by rw [hsl]; exact HCS.out)
        rw [← hsl] at HG4
        have HTE := Lib.hid (fun w1 tv1 (r : RdT w1 P tv1 sl) => ttell r ⟨bk, bs, bl', bt⟩ (named rFirstB) ⟨ok, os, ol, ot⟩ HOK.out.2 (named_ok (by decide)) HOK.out.1)
        have HSE := Lib.hid (show (sl.tell ⟨bk, bs, bl', bt⟩ (named rFirstB) ⟨ok, os, ol, ot⟩).e = 0 → 4 * (sl.tell ⟨bk, bs, bl', bt⟩ (named rFirstB) ⟨ok, os, ol, ot⟩).len + 3 ≤ k from fun h0 => by
          by_cases hz : s0.e = 0
          · have := HON.out hz; have h1 := len_tell sl ⟨bk, bs, bl', bt⟩ (named rFirstB) ⟨ok, os, ol, ot⟩; have h2 := len_tell s0.fresh ⟨lk, ls, ll, lt⟩ (named rRestB) ⟨bk, bs, bl', bt⟩; rw [len_fresh, ← hsl] at h2; omega
          · exact absurd h0 (tell_dead (by rw [hsl]; exact tell_dead (s := s0.fresh) hz _ _ _) _ _ _))
        have HSS := HCS2
        generalize sl.tell ⟨bk, bs, bl', bt⟩ (named rFirstB) ⟨ok, os, ol, ot⟩ = s5 at HTE HSS HSE
        clear hg4 hsl HCS2 b9 b0 b1 b2 b3
        unfold named nobT Tm.val rFirstB bl rdfL at HTE
        unfold named nobT Tm.val rFirstB bl rdfL at HFIR
        dsimp only [List.cons_append, List.nil_append] at HTE HFIR
        go_wp2_with fail
        refine wp_region_any (by kernel_rfl) ?_
        change wpAny _ _ _ _ _ _ _ (World.drew _)
        refine wpAny_of_held (S := fun w' => ∃ tvy sy, Go12 P w tv w' tvy sy ∧ Tp w' P tvy w.heap.size #[.pointer (some ⟨P.r, 0, none⟩)] 51 ∧ Tp w' P tvy KB #[.int .i64 bk, .string bs, .string bl', .string bt] 33 ∧ Tp w' P tvy OB #[.int .i64 ok, .string os, .string ol, .string ot] 33) _ _ _ _ ?_
        have hS : (fun w' => ∃ tvy sy, Go12 P w tv w' tvy sy ∧ Tp w' P tvy w.heap.size #[.pointer (some ⟨P.r, 0, none⟩)] 51 ∧ Tp w' P tvy KB #[.int .i64 bk, .string bs, .string bl', .string bt] 33 ∧ Tp w' P tvy OB #[.int .i64 ok, .string os, .string ol, .string ot] 33) _ := ⟨tv4, sl, HG4.out.below (below_drew1 _), HA4.out.go ((Go12.refl HG4.out.rd).below (below_drew1 _)), HK4.out.go ((Go12.refl HG4.out.rd).below (below_drew1 _)), HO4.out.go ((Go12.refl HG4.out.rd).below (below_drew1 _))⟩
        refine wpAnyH_take (i := 0) (oi := ⟨some 28, _, _, _, _, _⟩) (v := ?_) rfl (by kernel_rfl) (by kernel_rfl) (by kernel_rfl) (fun _ _ _ h => h) (Or.inl ⟨by simp only [Region.wanted], ?_⟩) hS ?_
        rotate_left
        · intro wz hSw; obtain ⟨tvy, sy, hx1, hx2, hx3, hx4⟩ := hSw; have z9 := hx2.blk.cell 0; simp only [List.getElem?_toArray, List.getElem?_cons_zero] at z9
          go_simp
          first | done | with_reducible rfl
        try simp only [Act.put, List.setIfInBounds_toArray, List.set_cons_zero, List.set_cons_succ]
        refine wpAnyH_take (i := 1) (oi := ⟨some 29, _, _, _, _, _⟩) (v := ?_) rfl (by kernel_rfl) (by kernel_rfl) (by kernel_rfl) (fun _ _ _ h => h) (Or.inl ⟨by simp only [Region.wanted], ?_⟩) hS ?_
        rotate_left
        · intro wz hSw; obtain ⟨tvy, sy, hx1, hx2, hx3, hx4⟩ := hSw; obtain ⟨-, z0, z1, z2, z3, -, -, -, -⟩ := hx3.four
          go_simp
          first | done | with_reducible rfl
        try simp only [Act.put, List.setIfInBounds_toArray, List.set_cons_zero, List.set_cons_succ]
        refine wpAnyH_take (i := 3) (oi := ⟨some 31, _, _, _, _, _⟩) (v := ?_) rfl (by kernel_rfl) (by kernel_rfl) (by kernel_rfl) (fun _ _ _ h => h) (Or.inl ⟨by simp only [Region.wanted], ?_⟩) hS ?_
        rotate_left
        · intro wz hSw; obtain ⟨tvy, sy, hx1, hx2, hx3, hx4⟩ := hSw; obtain ⟨-, z0, z1, z2, z3, -, -, -, -⟩ := hx4.four
          go_simp
          first | done | with_reducible rfl
        try simp only [Act.put, List.setIfInBounds_toArray, List.set_cons_zero, List.set_cons_succ]
        refine wpAnyH_ready (rs := [2]) (by kernel_rfl) (by simp) ?_
        refine AllReadyH.cons (o := ⟨some 30, _, _, _, _, _⟩) rfl (fun K hK => ?_) AllReadyH.nil
        go_simp
        refine (HFIR.out _).mono ?_
        rintro e w5 ⟨rfl, hb5⟩
        have HG5 := Lib.hid ((HG4.out.below (below_drew1 _)).below hb5)
        have HA5 := Lib.hid (HA4.out.go (((Go12.refl HG4.out.rd).below (below_drew1 _)).below hb5))
        have HR5 := Lib.hid (HR4.out.go (((Go12.refl HG4.out.rd).below (below_drew1 _)).below hb5))
        have HF5 := Lib.hid (HF4.out.go (((Go12.refl HG4.out.rd).below (below_drew1 _)).below hb5))
        have HO5 := Lib.hid (HO4.out.go (((Go12.refl HG4.out.rd).below (below_drew1 _)).below hb5))
        have HK5 := Lib.hid (HK4.out.go (((Go12.refl HG4.out.rd).below (below_drew1 _)).below hb5))
        clear hb5
        refine hK.out _ _ (⟨tv4, sl, HG5.out, HA5.out, HK5.out, HO5.out⟩) (fun hS => ?_)
        clear hK K
        try simp only [Act.put, List.setIfInBounds_toArray, List.set_cons_zero, List.set_cons_succ]
        refine wpAnyH_ready (rs := [4]) (by kernel_rfl) (by simp) ?_
        refine AllReadyH.cons (o := ⟨some 32, _, _, _, _, _⟩) rfl (fun K hK => ?_) AllReadyH.nil
        go_simp
        refine (HTE.out _ _ HG5.out.rd).mono ?_
        rintro e w6 ⟨⟨v6, rfl⟩, tv6, hg6⟩
        have HG6 := Lib.hid (HG5.out.trans hg6)
        have HA6 := Lib.hid (HA5.out.go hg6)
        have HR6 := Lib.hid (HR5.out.go hg6)
        have HF6 := Lib.hid (HF5.out.go hg6)
        have HO6 := Lib.hid (HO5.out.go hg6)
        have HK6 := Lib.hid (HK5.out.go hg6)
        clear hg6
        refine hK.out _ _ (⟨tv6, s5, HG6.out, HA6.out, HK6.out, HO6.out⟩) (fun hS => ?_)
        clear hK K
        try simp only [Act.put, List.setIfInBounds_toArray, List.set_cons_zero, List.set_cons_succ]
        refine wpAnyH_done (by kernel_rfl) ?_ _
        clear hS
        go_wp2_with fail
        go_roundg g1
        case measure => omega
        case rel => exact ⟨k, ⟨fk, fs, fl, ft⟩, some ⟨bk, bs, bl', bt⟩, s5, tv6, KB, rfl, HSS.out, HSE.out, by have := HM.out.1 HE.out; omega, by have := HM.out; omega, by have := HM.out; omega, HG6.out, HA6.out, HR6.out, HF6.out, fun x hx => by cases hx; exact ⟨HOK.out.2, HK6.out, by have := HLT.out; have := HLT3.out; omega⟩⟩
end Go.Proofs.YtefkppeicmipbaaGreatDoor
