/- Hj -/
import Derived.Test.YtpfjbcfnpfgidaaKHf
import Derived.Test.YtpfjbcfnpfgidaaKHg
namespace Go.Proofs.Ytpfjbcfnpfgidaa
open Go.RowKit Go.Maps
set_option maxRecDepth 100000
set_option linter.unusedVariables false
theorem gK_empty (x : Ent) : gK ⟨#[]⟩ x = true := ge_empty x.key
/-- The way of the empty key is the way to the first leaf. -/
theorem first_leaf {n : Nat} {P : BT.Path Ent 0 n} {f : BT Ent 0} {m : Nat} (hs : (P.plug f).flat.Pairwise rK) (hr : BT.Root (P.plug f)) (ho : P.On (leK ⟨#[]⟩) f) (hp : PlaceOf f.flat ⟨#[]⟩ m) : P.pre = [] ∧ m = 0 := by
 have hc := (BT.root_cut (gK_up _) (le_below _) (not_le _) (le_down _) hs hr ho (place_cut (leaf_sorted hs) hp)).1
 refine ⟨?_, place_empty hp⟩
 cases hpre : P.pre with
 | nil => rfl
 | cons x l =>
  have := hc.1 x (by rw [hpre]; simp)
  rw [gK_empty] at this
  cases this
/-- How many pages stand ahead of a way. -/
def ahead : {n N : Nat} → BT.Path Ent n N → Nat
 | _, _, .top => 0
 | _, _, .up page ka kb rest => (ka.flatMap BT.pages).length + ahead rest
theorem ahead_le : {n N : Nat} → (p : BT.Path Ent n N) → (t : BT Ent n) → ahead p + t.pages.length ≤ (p.plug t).pages.length
 | _, _, .top, t => by show 0 + _ ≤ _; rw [Nat.zero_add]; exact Nat.le_refl _
 | n, N, .up page ka kb rest, t => by
  have h := ahead_le rest (BT.node page (ka ++ t :: kb))
  rw [BT.node_pages, List.flatMap_append, List.flatMap_cons, List.length_cons, List.length_append, List.length_append] at h
  show (ka.flatMap BT.pages).length + ahead rest + _ ≤ (rest.plug (BT.node page (ka ++ t :: kb))).pages.length
  omega
theorem ahead_app : {n m N : Nat} → (p : BT.Path Ent n m) → (q : BT.Path Ent m N) → ahead (p.app q) = ahead p + ahead q
 | _, _, _, .top, q => by show ahead q = 0 + _; omega
 | _, _, _, .up page ka kb rest, q => by
  show (ka.flatMap BT.pages).length + ahead (rest.app q) = (ka.flatMap BT.pages).length + ahead rest + ahead q
  rw [ahead_app rest q]; omega
/-- What is known in the loop of onward: all below is behind. -/
structure Climb {R : Nat} (path : BT.Path Ent 0 R) (f : BT Ent 0) (full : List Stp) (k : Nat) {j : Nat} (rest : BT.Path Ent j R) (u : BT Ent j) : Prop where
 plug : rest.plug u = path.plug f
 pre : rest.pre ++ u.flat = path.pre ++ f.flat
 post : rest.post = path.post
 way : OnWay rest u.page (full.take k)
 cnt : ahead path + 1 ≤ ahead rest + u.pages.length
theorem Climb.up {R : Nat} {path : BT.Path Ent 0 R} {f : BT Ent 0} {full : List Stp} {km j page : Nat} {ka : List (BT Ent j)} {rest : BT.Path Ent (j + 1) R} {u : BT Ent j} (h : Climb path f full (km + 1) (.up page ka [] rest) u) (hk : km < full.length) : Climb path f full km rest (BT.node page (ka ++ [u])) := by
 refine ⟨h.plug, ?_, h.post, ?_, ?_⟩
 rotate_left 2
 ·have hc := h.cnt
  have e : ahead (BT.Path.up page ka [] rest) = (ka.flatMap BT.pages).length + ahead rest := rfl
  rw [BT.node_pages, List.flatMap_append, List.flatMap_cons, List.flatMap_nil, List.append_nil, List.length_cons, List.length_append]
  omega
 ·rw [← h.pre]
  simp only [BT.Path.pre, BT.node_flat, List.flatMap_append, List.flatMap_cons, List.flatMap_nil, List.append_nil, List.append_assoc]
 ·obtain ⟨ss', s, he, -, -, -, -, h5⟩ := h.way
  rw [List.take_succ_eq_append_getElem hk] at he
  obtain ⟨e1, -⟩ := List.append_inj' he rfl
  rw [e1]; exact h5
theorem Climb.step {R : Nat} {path : BT.Path Ent 0 R} {f : BT Ent 0} {full : List Stp} {km j page : Nat} {ka kb : List (BT Ent j)} {rest : BT.Path Ent (j + 1) R} {u : BT Ent j} (h : Climb path f full (km + 1) (.up page ka kb rest) u) (hk : km < full.length) :
 full[km].at' = (page : Int) ∧ full[km].lvl = (j : Int) + 1 ∧ full[km].es = (ka ++ u :: kb).map (fun k => kidE (k.page : Int)) ∧ full[km].i = ka.length ∧ OnWay rest page (full.take km) := by
 obtain ⟨ss', s, he, h1, h2, h3, h4, h5⟩ := h.way
 rw [List.take_succ_eq_append_getElem hk] at he
 obtain ⟨e1, e2⟩ := List.append_inj' he rfl
 have e3 : full[km] = s := by simpa using e2
 rw [e3, e1]
 exact ⟨h1, by rw [h2]; omega, by rw [h3, kids_map], h4, h5⟩
/-- At the next leaf. -/
theorem Climb.found {R : Nat} {path : BT.Path Ent 0 R} {f : BT Ent 0} {full : List Stp} {k j page : Nat} {ka kb : List (BT Ent j)} {rest : BT.Path Ent (j + 1) R} {u k1 : BT Ent j} (h : Climb path f full k (.up page ka (k1 :: kb) rest) u) {P : BT.Path Ent 0 j} {f' : BT Ent 0} (hp : P.plug f' = k1) (hpre : P.pre = []) :
 (P.app (.up page (ka ++ [u]) kb rest)).plug f' = path.plug f ∧ f'.flat ++ (P.app (.up page (ka ++ [u]) kb rest)).post = path.post ∧ (P.app (.up page (ka ++ [u]) kb rest)).pre = path.pre ++ f.flat ∧ ahead path + 1 ≤ ahead (P.app (.up page (ka ++ [u]) kb rest)) := by
 have hfl : k1.flat = f'.flat ++ P.post := by rw [← hp, P.flat, hpre]; rfl
 refine ⟨?_, ?_, ?_, ?_⟩
 rotate_left 3
 ·have hc := h.cnt
  have e : ahead (BT.Path.up page ka (k1 :: kb) rest) = (ka.flatMap BT.pages).length + ahead rest := rfl
  have e2 : ahead (BT.Path.up page (ka ++ [u]) kb rest) = ((ka ++ [u]).flatMap BT.pages).length + ahead rest := rfl
  rw [ahead_app, e2, List.flatMap_append, List.flatMap_cons, List.flatMap_nil, List.append_nil, List.length_append]
  omega
 ·rw [BT.Path.app_plug, hp, ← h.plug, BT.Path.plug_up, BT.Path.plug_up, List.append_assoc]; rfl
 ·rw [← h.post, BT.Path.app_post]
  simp only [BT.Path.post, List.flatMap_cons]
  rw [hfl]; simp only [List.append_assoc]
 ·rw [← h.pre, BT.Path.app_pre, hpre, List.append_nil]
  simp only [BT.Path.pre, List.flatMap_append, List.flatMap_cons, List.flatMap_nil, List.append_nil, List.append_assoc]
set_option maxHeartbeats 8000000 in
theorem onward_any {w0 w : World} {X S : Nat → Prop} {r p N M c : Nat} {G : Lg} {H : Option Lg} (h : Pb w0 w X r p N M c G H) {R m : Nat} {path : BT.Path Ent 0 R} {f : BT Ent 0} (hs : Stored N (H.getD G) (path.plug f)) (hr : BT.Root (path.plug f)) (hso : (path.plug f).flat.Pairwise rK) (lv : Value) (full : List Stp)
 (hst : Sts w S lv full) (hS : ∀ q, S q → X q ∧ w0.heap.size ≤ q ∧ q < w.heap.size) (hway : Way path f m full) (hR : R ≤ 12) :
 Calls Try.prog 48 #[.pointer (some ⟨p, 0, none⟩), lv] w fun e w' => ∃ lv' : Value, e = .returned (.tuple #[lv', .int .i64 0]) ∧ Moved (fun k => lv.ownBlock = some k) w w' ∧
  ((lv' = .slice none 0 0 ∧ path.post = []) ∨ ∃ (path' : BT.Path Ent 0 R) (f' : BT Ent 0) (full' : List Stp), path'.plug f' = path.plug f ∧ f'.flat ++ path'.post = path.post ∧ path'.pre = path.pre ++ f.flat ∧ ahead path + 1 ≤ ahead path' ∧ Way path' f' 0 full' ∧ Sts w' (fun q => S q ∨ (w.heap.size ≤ q ∧ q < w'.heap.size)) lv' full') := by
 obtain ⟨⟨ss', s, rfl, hsa, hsl, hse, hsi, how⟩⟩ := hway
 have hlen := how.length
 have hlev := path.levels
 obtain ⟨g, cap, rfl, hg, hgS, hc1, hc2, -, -, -, -, -⟩ := hst.at ss'.length (by rw [List.length_append]; simp)
 obtain ⟨L0, hL0⟩ : ∃ L0, L0 = (ss' ++ [s]).length := ⟨_, rfl⟩
 have hL1 : L0 = ss'.length + 1 := by rw [hL0, List.length_append]; rfl
 obtain ⟨full, hfull⟩ : ∃ full, full = ss' ++ [s] := ⟨_, rfl⟩
 rw [← hL0] at hst hc1 ⊢
 rw [← hfull] at hst hL0
 have hcl : Climb path f full ss'.length path f := ⟨rfl, rfl, rfl, by rw [hfull, List.take_left']; exact how; rfl, Nat.le_refl _⟩
 have HP := Lib.hid h
 have HS := Lib.hid hs
 have HSO := Lib.hid hso
 have HRT := Lib.hid hr
 have HST := Lib.hid hst
 have HSS := Lib.hid hS
 have HCL := Lib.hid hcl
 have HL0 := Lib.hid hL0
 have HG := Lib.hid (And.intro hg hgS)
 obtain ⟨q0, hq0⟩ : ∃ q0, q0 = ss'.length := ⟨_, rfl⟩
 rw [← hq0] at HCL hL1
 have i1 : (L0 : Int) - 2 = (q0 : Int) - 1 := by omega
 have i2 : L0 ≤ 20 := by omega
 have HL1 := Lib.hid hL1
 clear h hs hr hso hst hS hsa hsl hse hsi how hlen hlev hg hgS hL0 hL1 hfull hcl hq0
 go_enter Try.func48, Try.ntmps48
 go_wp2_with fail
 go_loopw [6, 7, 8, 9] (fun k _ _ _ wr => ∃ (q j : Nat) (rest : BT.Path Ent j R) (u : BT Ent j), k = .int .i64 ((q : Int) - 1) ∧ q < L0 ∧ Climb path f full q rest u ∧ wr = w) (fun k _ _ _ _ => (intOf k + 1).toNat)
 case atStart => exact ⟨q0, 0, path, f, by go_num, by have := HL1.out; omega, HCL.out, rfl⟩
 case round =>
  obtain ⟨q, j, rest, u, rfl, hql, hcl, hw⟩ := hrel
  replace hw := hw.symm
  subst hw
  cases rest with
  | top =>
   have hq0 : q = 0 := by
    have h1 : full.take q = [] := hcl.way
    have h3 := congrArg List.length h1
    rw [List.length_take, List.length_nil] at h3
    have := HL0.out
    omega
   subst hq0
   have HC := Lib.hid hcl
   clear hcl
   go_wp2_with fail
   go_ret2
   exact ⟨.slice none 0 0, rfl, Moved.refl _ _, .inl ⟨rfl, by rw [← HC.out.post]; rfl⟩⟩
  | up pgn ka kb rest =>
   obtain ⟨km, hkm⟩ : ∃ km, q = km + 1 := by
    obtain ⟨ss, s, he, -⟩ := hcl.way
    cases q with
    | zero => simp at he
    | succ km => exact ⟨km, rfl⟩
   subst hkm
   have hlen := HL0.out
   have hkl : km < full.length := by omega
   have HKL := Lib.hid hkl
   clear hkl
   obtain ⟨p1, p2, p3, p4, p5⟩ := hcl.step HKL.out
   obtain ⟨g', cp', hsl, -, -, -, -, hfrz, d0, d1, d2, d3⟩ := HST.out.at km HKL.out
   obtain ⟨hen, hob⟩ := HST.out.ens km HKL.out
   rw [← hlen] at hsl
   simp only [Value.slice.injEq, Option.some.injEq, Addr.mk.injEq, and_true, true_and] at hsl
   obtain ⟨rfl, rfl⟩ := hsl
   rw [p1] at d0
   rw [p2] at d1
   rw [p4] at d3
   rw [p3] at hen
   obtain ⟨eo, ec, hv, he1, he2⟩ := hen.form
   obtain ⟨ql, hql⟩ : ∃ ql, ql = (ka ++ u :: kb).length := ⟨_, rfl⟩
   rw [List.length_map, ← hql] at hv he1
   rw [hv] at d2 hen hob
   obtain ⟨kn, hkn⟩ : ∃ kn, kn = ka.length := ⟨_, rfl⟩
   obtain ⟨pp, hpp⟩ : ∃ pp : Int, pp = (pgn : Int) := ⟨_, rfl⟩
   obtain ⟨lvl, hlvl⟩ : ∃ lvl : Int, lvl = (j : Int) + 1 := ⟨_, rfl⟩
   rw [← hpp] at d0
   rw [← hlvl] at d1
   rw [← hkn] at d3
   have hst2 : Stored N (H.getD G) (BT.node pgn (ka ++ u :: kb)) := by
    have := HS.out
    rw [← hcl.plug, BT.Path.plug_up] at this
    exact (Stored.split rest _ this).2
   have hql2 : ql ≤ 255 := by
    have := hst2.node.few
    have e : (ents (BT.node pgn (ka ++ u :: kb))).length = (ka ++ u :: kb).length := List.length_map ..
    omega
   have hqk : ql = kn + 1 + kb.length := by rw [hql, hkn, List.length_append, List.length_cons]; omega
   have e1 : (((km + 1 : Nat) : Int) - 1) = (km : Int) := by omega
   rw [e1]
   have i3 : (km : Int) < L0 := by omega
   have i4 : ¬ ((km : Int) < 0) := by omega
   have HC := Lib.hid hcl
   have HEN := Lib.hid (And.intro hen hob)
   have HQ := Lib.hid (And.intro hql (And.intro hkn (And.intro hpp hlvl)))
   have HPS := Lib.hid (And.intro p1 (And.intro p2 (And.intro p3 (And.intro p4 p5))))
   have HST2 := Lib.hid hst2
   have HFZ := Lib.hid hfrz
   have HV := Lib.hid hv
   have HQK := Lib.hid hqk
   clear hcl hen hob hql hkn hpp hlvl p1 p2 p3 p4 p5 hst2 hfrz hv hqk hlen e1
   cases kb with
   | nil =>
    have i5 : (kn : Int) + 1 = ql := by have := HQK.out; simp at this; omega
    go_wp2_with fail
    go_roundw
    case rel => exact ⟨km, j + 1, rest, _, by go_num, by omega, HC.out.up HKL.out, trivial⟩
    case measure => simp [intOf]
   | cons k1 kb =>
    obtain ⟨kn1, hkn1⟩ : ∃ kn1 : Nat, kn1 = kn + 1 := ⟨_, rfl⟩
    have i6 : (kn : Int) + 1 = kn1 := by omega
    have i10 : kn1 ≤ 1000 := by have := HQK.out; simp only [List.length_cons] at this; omega
    have i5 : ((kn1 : Int) == ql) = false := by have := HQK.out; simp only [List.length_cons] at this; simp; omega
    have hk1s : Stored N (H.getD G) k1 := HST2.out.kids k1 (by show k1 ∈ ka ++ u :: k1 :: kb; simp)
    have hk1p : k1.Proper := by
     have h1 := HRT.out
     rw [← HC.out.plug, BT.Path.plug_up] at h1
     have h2 : BT.Proper (BT.node pgn (ka ++ u :: k1 :: kb)) := by
      cases R with
      | zero => have := rest.levels; omega
      | succ R => exact (rest.of_proper _ h1).2
     exact h2.2 k1 (by show k1 ∈ ka ++ u :: k1 :: kb; simp)
    have hj : j ≤ 20 := by have := rest.levels; omega
    have hkd := kid_any HP.out hk1s hk1p pp (.slice eo ql ec) _ kn1 HEN.out.1 (by
     rw [List.getElem?_map, hkn1, HQ.out.2.1, List.getElem?_append_right (by omega), show ka.length + 1 - ka.length = 1 by omega]; rfl) hj lvl HQ.out.2.2.2
    obtain ⟨kp, hkp⟩ : ∃ kp : Int, kp = (k1.page : Int) := ⟨_, rfl⟩
    rw [← hkp] at hkd
    unfold nodeV at hkd
    have HKD := Lib.hid hkd
    have HK1 := Lib.hid (And.intro hk1s (And.intro hk1p (And.intro hkp hkn1)))
    clear hk1s hk1p hkd hkp hkn1
    go_wp2_with fail
    refine HKD.out.mono ?_
    rintro en w3 ⟨v3, rfl, ho3, hb3⟩
    obtain ⟨vo, vc, rfl, -⟩ := ho3.form
    obtain ⟨vn, hvn⟩ : ∃ vn, vn = (ents k1).length := ⟨_, rfl⟩
    rw [← hvn] at ho3 ⊢
    have hal : Below w3.heap.size w3 (w3.alloc (.cells #[.int .i64 kp, .int .i64 j, .slice vo vn vc] 62)) := (Below.refl _ w3).alloc (Nat.le_refl _) _
    have hbn : Blk (w3.alloc (.cells #[.int .i64 kp, .int .i64 j, .slice vo vn vc] 62)) w3.heap.size #[.int .i64 kp, .int .i64 j, .slice vo vn vc] 62 := Blk.new w3 #[.int .i64 kp, .int .i64 j, .slice vo vn vc] 62
    have hb4 : Below w.heap.size w (w3.alloc (.cells #[.int .i64 kp, .int .i64 j, .slice vo vn vc] 62)) := hb3.trans (hal.mono hb3.size)
    have hst4 := HST.out.below hb4
    have hl4 : ∀ q, (Value.slice vo vn vc).ownBlock = some q → w.heap.size ≤ q ∧ q < w3.heap.size := ho3.lt
    obtain ⟨sn, hsn⟩ : ∃ sn : Stp, sn = { full[km]'HKL.out with i := kn1 } := ⟨_, rfl⟩
    have hset := Sts.set (g := g) (cap := cap) (show Sts (w3.alloc (.cells #[.int .i64 kp, .int .i64 j, .slice vo vn vc] 62)) S (.slice (some ⟨g, 0, none⟩) full.length cap) full by rw [← HL0.out]; exact hst4) km HKL.out 3 (by omega) (.int .i64 kn1) sn (by rw [hsn]; rfl) (by
     rw [hsn]
     obtain ⟨a1, a2⟩ := hst4.ens km HKL.out
     exact ⟨a1, fun k hk => ⟨(a2 k hk).1, (a2 k hk).2.1, fun e => (a2 k hk).2.2 (by rw [e]; rfl)⟩⟩)
    have hms : Moved (· = g) (w3.alloc (.cells #[.int .i64 kp, .int .i64 j, .slice vo vn vc] 62)) ((w3.alloc (.cells #[.int .i64 kp, .int .i64 j, .slice vo vn vc] 62)).setCell ⟨g, km * 4 + 3, none⟩ (.int .i64 kn1)) := (Moved.refl (· = g) _).setCell _ _ (.inl rfl)
    have c3 : (w3.alloc (.cells #[.int .i64 kp, .int .i64 j, .slice vo vn vc] 62)).cell? ⟨g, km * 4 + 3, none⟩ = some (.int .i64 kn) := (hb4.cell (show (⟨g, km * 4 + 3, none⟩ : Addr).block < _ from HG.out.1)).trans d3
    have f3 : (w3.alloc (.cells #[.int .i64 kp, .int .i64 j, .slice vo vn vc] 62)).frozen? ⟨g, km * 4 + 3, none⟩ = false := (World.frozen?_of_block (a := ⟨g, km * 4 + 3, none⟩) (hb4.block g HG.out.1)).trans (HFZ.out _)
    have hsz5 : ((w3.alloc (.cells #[.int .i64 kp, .int .i64 j, .slice vo vn vc] 62)).setCell ⟨g, km * 4 + 3, none⟩ (.int .i64 kn1)).heap.size = w3.heap.size + 1 := by simp
    have hgw := HSS.out g HG.out.2
    have h3s := hb3.size
    have hpb5 := (HP.out.grow hb4).mv hms (fun k hk => by rw [hk]; exact ⟨hgw.1, hgw.2.1⟩)
    rw [← HL0.out] at hset
    obtain ⟨k1n, hk1n⟩ : ∃ k1n, k1n = km + 1 := ⟨_, rfl⟩
    have htk := Sts.takes hset k1n (by rw [List.length_set]; have := HKL.out; omega)
    have hss0 : (full.set km sn).take k1n = full.take km ++ [sn] := by
     rw [hk1n, List.take_succ_eq_append_getElem (by rw [List.length_set]; exact HKL.out), List.take_set_of_le (Nat.le_refl _), List.getElem_set_self]
    rw [hss0] at htk
    have htk2 := htk.more (S' := fun q => S q ∨ (w.heap.size ≤ q ∧ q < w3.heap.size + 1)) (fun q hq _ => .inl hq)
    obtain ⟨p1, p2, p3, p4, p5⟩ := HPS.out
    have how0 : OnWay (.up pgn (ka ++ [u]) kb rest) k1.page (full.take km ++ [sn]) := by
     refine ⟨_, sn, rfl, by rw [hsn]; exact p1, by rw [hsn]; show (full[km]'HKL.out).lvl = _; rw [p2]; omega, ?_, by rw [hsn]; show kn1 = _; rw [List.length_append, HK1.out.2.2.2, HQ.out.2.1]; rfl, p5⟩
     rw [kids_map, hsn]
     show (full[km]'HKL.out).es = _
     rw [p3, List.append_assoc]; rfl
    have hk1so : k1.flat.Pairwise rK := by
     have h1 := HSO.out
     rw [← HC.out.plug, BT.Path.plug_up, rest.flat, List.pairwise_append, List.pairwise_append, BT.node_flat, List.flatMap_append, List.flatMap_cons, List.flatMap_cons, List.pairwise_append, List.pairwise_append, List.pairwise_append] at h1
     exact h1.2.1.1.2.1.2.1.1
    have hv0 : Ens ((w3.alloc (.cells #[.int .i64 kp, .int .i64 j, .slice vo vn vc] 62)).setCell ⟨g, km * 4 + 3, none⟩ (.int .i64 kn1)) (.slice vo vn vc) (ents k1) := (ho3.ens.below hal).moved hms (fun _ q hq e => by have := hl4 q hq; have := HG.out.1; omega)
    have hdn := down_any (hpb5.grow ((Below.refl _ _).drew)) HK1.out.1 (root_of_proper HK1.out.2.1) hk1so (.up pgn (ka ++ [u]) kb rest) (full.take km ++ [sn]) (fun q => S q ∨ (w.heap.size ≤ q ∧ q < w3.heap.size + 1)) (.slice (some ⟨g, 0, none⟩) k1n cap) (show Sts ((w3.alloc (.cells #[.int .i64 kp, .int .i64 j, .slice vo vn vc] 62)).setCell ⟨g, km * 4 + 3, none⟩ (.int .i64 kn1)).drew _ _ _ from htk2) (fun q hq => by
     show q < ((w3.alloc (.cells #[.int .i64 kp, .int .i64 j, .slice vo vn vc] 62)).setCell ⟨g, km * 4 + 3, none⟩ (.int .i64 kn1)).heap.size
     rw [hsz5]
     rcases hq with hq | hq
     ·have := (HSS.out q hq).2.2; omega
     ·exact hq.2) how0 (fun q hq => by
     have hgq : g = q := Option.some.inj hq
     subst hgq
     exact ⟨hgw.1, hgw.2.1⟩) (.slice vo vn vc) (show Ens ((w3.alloc (.cells #[.int .i64 kp, .int .i64 j, .slice vo vn vc] 62)).setCell ⟨g, km * 4 + 3, none⟩ (.int .i64 kn1)).drew _ _ from hv0) (fun q hq => ⟨.inr ⟨(hl4 q hq).1, by have := (hl4 q hq).2; omega⟩, fun e => by have h1 : g = q := Option.some.inj e; have := hl4 q hq; have := HG.out.1; omega⟩) ⟨#[]⟩ (by have := rest.levels; omega) (by rw [List.length_append, List.length_take]; have := HL0.out; simp; omega)
    rw [← HK1.out.2.2.1] at hdn
    unfold nodeV at hdn
    have hbn5 := hbn.moved hms (fun e => by have := HG.out.1; omega)
    have z0 : ((w3.alloc (.cells #[.int .i64 kp, .int .i64 j, .slice vo vn vc] 62)).setCell ⟨g, km * 4 + 3, none⟩ (.int .i64 kn1)).cell? ⟨w3.heap.size, 0, none⟩ = some (.int .i64 kp) := by rw [hbn5.cell]; rfl
    have z1 : ((w3.alloc (.cells #[.int .i64 kp, .int .i64 j, .slice vo vn vc] 62)).setCell ⟨g, km * 4 + 3, none⟩ (.int .i64 kn1)).cell? ⟨w3.heap.size, 1, none⟩ = some (.int .i64 j) := by rw [hbn5.cell]; rfl
    have z2 : ((w3.alloc (.cells #[.int .i64 kp, .int .i64 j, .slice vo vn vc] 62)).setCell ⟨g, km * 4 + 3, none⟩ (.int .i64 kn1)).cell? ⟨w3.heap.size, 2, none⟩ = some (.slice vo vn vc) := by rw [hbn5.cell]; rfl
    have HZ := Lib.hid (And.intro z0 (And.intro z1 z2))
    have HDN := Lib.hid hdn
    have HB4 := Lib.hid hb4
    have HMS := Lib.hid hms
    have HK1N := Lib.hid hk1n
    have HSZ5 := Lib.hid hsz5
    have HSO1 := Lib.hid hk1so
    have HG3 := Lib.hid (show g ≠ w3.heap.size from by have := HG.out.1; omega)
    have i7 : (km : Int) + 1 = k1n := by omega
    have i8 : (k1n : Int) ≤ cap := by have := HKL.out; have := HL0.out; omega
    have i9 : (k1n : Int) ≤ L0 := by have := HKL.out; have := HL0.out; omega
    have hwk : IntKind.i64.wrap (k1n : Int) = (k1n : Int) := wrap_small (by omega) (by have := HKL.out; have := HL0.out; omega)
    clear hvn ho3 hb3 hal hbn hb4 hst4 hl4 hset hms hsz5 hgw h3s hpb5 hk1n htk hss0 htk2 p1 p2 p3 p4 p5 how0 hk1so hv0 hdn hbn5 z0 z1 z2 hsn HKD d0 d1 d2 d3
    go_wp2_with fail
    refine wp_region_any (by kernel_rfl) ?_
    change wpAny _ _ _ _ _ _ _ (World.drew _)
    refine wpAny_of_held (S := fun (w' : World) => w'.cell? ⟨w3.heap.size, 0, none⟩ = some (.int .i64 kp) ∧ w'.cell? ⟨w3.heap.size, 1, none⟩ = some (.int .i64 j) ∧ w'.cell? ⟨w3.heap.size, 2, none⟩ = some (.slice vo vn vc)) _ _ _ _ ?_
    have hS : (fun (w' : World) => w'.cell? ⟨w3.heap.size, 0, none⟩ = some (.int .i64 kp) ∧ w'.cell? ⟨w3.heap.size, 1, none⟩ = some (.int .i64 j) ∧ w'.cell? ⟨w3.heap.size, 2, none⟩ = some (.slice vo vn vc)) _ := HZ.out
    try simp only [Act.put, List.setIfInBounds_toArray, List.set_cons_zero, List.set_cons_succ]
    refine wpAnyH_take (i := 0) (oi := ⟨some 51, _, _, _, _, _⟩) (v := ?_) rfl (by kernel_rfl) (by kernel_rfl) (by kernel_rfl) (fun _ _ _ h => h) (Or.inl ⟨by simp only [Region.wanted], ?_⟩) hS ?_
    rotate_left
    ·intro wz hSw
     clear hSw
     go_simp
     first | done | with_reducible rfl
    try simp only [Act.put, List.setIfInBounds_toArray, List.set_cons_zero, List.set_cons_succ]
    refine wpAnyH_take (i := 1) (oi := ⟨some 52, _, _, _, _, _⟩) (v := ?_) rfl (by kernel_rfl) (by kernel_rfl) (by kernel_rfl) (fun _ _ _ h => h) (Or.inl ⟨by simp only [Region.wanted], ?_⟩) hS ?_
    rotate_left
    ·intro wz hSw
     clear hSw
     go_simp
     first | done | with_reducible rfl
    try simp only [Act.put, List.setIfInBounds_toArray, List.set_cons_zero, List.set_cons_succ]
    refine wpAnyH_take (i := 2) (oi := ⟨some 53, _, _, _, _, _⟩) (v := ?_) rfl (by kernel_rfl) (by kernel_rfl) (by kernel_rfl) (fun _ _ _ h => h) (Or.inl ⟨by simp only [Region.wanted], ?_⟩) hS ?_
    rotate_left
    ·intro wz hSw
     clear hSw
     go_simp
     first | done | with_reducible rfl
    try simp only [Act.put, List.setIfInBounds_toArray, List.set_cons_zero, List.set_cons_succ]
    refine wpAnyH_take (i := 3) (oi := ⟨some 54, _, _, _, _, _⟩) (v := ?_) rfl (by kernel_rfl) (by kernel_rfl) (by kernel_rfl) (fun _ _ _ h => h) (Or.inl ⟨by simp only [Region.wanted], ?_⟩) hS ?_
    rotate_left
    ·intro wz hSw
     clear hSw
     go_simp
     first | done | with_reducible rfl
    try simp only [Act.put, List.setIfInBounds_toArray, List.set_cons_zero, List.set_cons_succ]
    refine wpAnyH_take (i := 4) (oi := ⟨some 55, _, _, _, _, _⟩) (v := ?_) rfl (by kernel_rfl) (by kernel_rfl) (by kernel_rfl) (fun _ _ _ h => h) (Or.inl ⟨by simp only [Region.wanted], ?_⟩) hS ?_
    rotate_left
    ·intro wz hSw
     clear hSw
     go_simp
     first | done | with_reducible rfl
    try simp only [Act.put, List.setIfInBounds_toArray, List.set_cons_zero, List.set_cons_succ]
    refine wpAnyH_take (i := 5) (oi := ⟨some 56, _, _, _, _, _⟩) (v := ?_) rfl (by kernel_rfl) (by kernel_rfl) (by kernel_rfl) (fun _ _ _ h => h) (Or.inl ⟨by simp only [Region.wanted], ?_⟩) hS ?_
    rotate_left
    ·intro wz hSw
     (try dsimp only at hSw)
     (try go_split_ands)
     go_simp
     first | done | with_reducible rfl
    try simp only [Act.put, List.setIfInBounds_toArray, List.set_cons_zero, List.set_cons_succ]
    refine wpAnyH_ready (rs := [6]) (by kernel_rfl) (by simp) ?_
    refine AllReadyH.cons (o := ⟨some 57, _, _, _, _, _⟩) rfl (fun K hK => ?_) AllReadyH.nil
    go_simp
    refine HDN.out.mono ?_
    rintro en w6 ⟨P', f', m', ss6, lv6, rfl, hpl6, hon6, hpo6, hwy6, hst6, hmv6⟩
    have H6 := Lib.hid (And.intro hpl6 (And.intro hon6 (And.intro hpo6 (And.intro hwy6 (And.intro hst6 hmv6)))))
    have hbk6 := hmv6.block w3.heap.size (by have h1 := HSZ5.out; have h2 : ∀ w' : World, w'.drew.heap.size = w'.heap.size := fun _ => rfl; rw [h2, h1]; omega) (fun e => HG3.out (Option.some.inj e))
    clear hpl6 hon6 hpo6 hwy6 hst6 hmv6 HDN
    refine hK.out _ _ (⟨(World.cell?_of_block (a := ⟨w3.heap.size, 0, none⟩) hbk6).trans HZ.out.1, (World.cell?_of_block (a := ⟨w3.heap.size, 1, none⟩) hbk6).trans HZ.out.2.1, (World.cell?_of_block (a := ⟨w3.heap.size, 2, none⟩) hbk6).trans HZ.out.2.2⟩) (fun hS => ?_)
    clear hK K
    try simp only [Act.put, List.setIfInBounds_toArray, List.set_cons_zero, List.set_cons_succ]
    refine wpAnyH_take (i := 7) (oi := ⟨some 58, _, _, _, _, _⟩) (v := ?_) rfl (by kernel_rfl) (by kernel_rfl) (by kernel_rfl) (fun _ _ _ h => h) (Or.inl ⟨by simp only [Region.wanted], ?_⟩) hS ?_
    rotate_left
    ·intro wz hSw
     clear hSw
     go_simp
     first | done | with_reducible rfl
    try simp only [Act.put, List.setIfInBounds_toArray, List.set_cons_zero, List.set_cons_succ]
    refine wpAnyH_take (i := 8) (oi := ⟨some 59, _, _, _, _, _⟩) (v := ?_) rfl (by kernel_rfl) (by kernel_rfl) (by kernel_rfl) (fun _ _ _ h => h) (Or.inl ⟨by simp only [Region.wanted], ?_⟩) hS ?_
    rotate_left
    ·intro wz hSw
     clear hSw
     go_simp
     first | done | with_reducible rfl
    try simp only [Act.put, List.setIfInBounds_toArray, List.set_cons_zero, List.set_cons_succ]
    refine wpAnyH_take (i := 9) (oi := ⟨some 4, _, _, _, _, _⟩) (v := ?_) rfl (by kernel_rfl) (by kernel_rfl) (by kernel_rfl) (fun _ _ _ h => h) (Or.inl ⟨by simp only [Region.wanted], ?_⟩) hS ?_
    rotate_left
    ·intro wz hSw
     clear hSw
     go_simp
     first | done | with_reducible rfl
    try simp only [Act.put, List.setIfInBounds_toArray, List.set_cons_zero, List.set_cons_succ]
    refine wpAnyH_take (i := 10) (oi := ⟨some 5, _, _, _, _, _⟩) (v := ?_) rfl (by kernel_rfl) (by kernel_rfl) (by kernel_rfl) (fun _ _ _ h => h) (Or.inl ⟨by simp only [Region.wanted], ?_⟩) hS ?_
    rotate_left
    ·intro wz hSw
     clear hSw
     go_simp
     first | done | with_reducible rfl
    try simp only [Act.put, List.setIfInBounds_toArray, List.set_cons_zero, List.set_cons_succ]
    refine wpAnyH_done (by kernel_rfl) ?_ _
    clear hS hbk6 hwk
    go_wp2_with fail
    go_ret2
    obtain ⟨hpl6, hon6, hpo6, hwy6, hst6, hmv6⟩ := H6.out
    have hsz := HSZ5.out
    have h6s := hmv6.size
    have h3s := HB4.out.size
    obtain ⟨hpre, hm0⟩ := first_leaf (by rw [hpl6]; exact HSO1.out) (by rw [hpl6]; exact root_of_proper HK1.out.2.1) hon6 hpo6
    subst hm0
    obtain ⟨g1, g2, g3, g4⟩ := HC.out.found hpl6 hpre
    refine ⟨lv6, rfl, ?_, .inr ⟨_, f', g1, g2, g3, g4, ss6, hwy6, hst6.more (fun q hq hlt => ?_)⟩⟩
    ·refine ((Moved.of_below HB4.out (fun k => (Value.slice (some ⟨g, 0, none⟩) L0 cap).ownBlock = some k)).trans HMS.out (fun k hk => .inl (by rw [hk]; rfl))).trans (Moved.trans (Moved.of_below ((Below.refl _ _).drew) (fun k => (Value.slice (some ⟨g, 0, none⟩) L0 cap).ownBlock = some k)) hmv6 (fun k hk => .inl hk)) (fun k hk => .inl hk)
    ·rcases hq with (hq | hq) | hq
     ·exact .inl hq
     ·exact .inr ⟨hq.1, hlt⟩
     ·have h7 : w3.heap.size + 1 ≤ q := by rw [← hsz]; exact hq.1
      have h8 : (w3.alloc (.cells #[.int .i64 kp, .int .i64 j, .slice vo vn vc] 62)).heap.size = w3.heap.size + 1 := by simp
      exact .inr ⟨by omega, hlt⟩
end Go.Proofs.Ytpfjbcfnpfgidaa
