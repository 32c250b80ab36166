/- Hg -/
import Derived.Test.YtbpdapcmaioeiaaGreatKHd
import Derived.Test.YtbpdapcmaioeiaaGreatKHe
namespace Go.Proofs.YtbpdapcmaioeiaaGreat
open Go.RowKit Go.Maps
set_option maxRecDepth 100000
set_option linter.unusedVariables false
theorem root_reads {n : Nat} {t : BT Ent n} (h : BT.Root t) : ((n : Nat) : Int) = 0 ∨ 1 < (ents t).length := by
 cases n with
 | zero => exact .inl rfl
 | succ n => exact (ents_many (n := n + 1) h).1
set_option maxHeartbeats 2000000 in
theorem way_any {w0 w : World} {X : Nat → Prop} {r p N M c : Nat} {G : Lg} {H : Option Lg} (h : Pb w0 w X r p N M c G H) {n : Nat} {t : BT Ent n} (hs : Stored N (H.getD G) t) (hr : BT.Root t) (hso : t.flat.Pairwise rK) (key : ByteArray) (hn : n ≤ 20) :
 Calls Tryz.prog 77 #[.pointer (some ⟨p, 0, none⟩), .int .i64 (t.page : Int), .string key] w fun e w' => ∃ (P' : BT.Path Ent 0 n) (f : BT Ent 0) (m : Nat) (ss : List Stp) (lv : Value), e = .returned (.tuple #[lv, .int .i64 0]) ∧ P'.plug f = t ∧ P'.On (leK key) f ∧ PlaceOf f.flat key m ∧
  Way P' f m ss ∧ Sts w' (fun q => w.heap.size ≤ q ∧ q < w'.heap.size) lv ss ∧ Below w.heap.size w w' := by
 have hrd := read_node h hs.node (root_reads hr)
 have HRD := Lib.hid hrd
 have HP := Lib.hid h
 have HS := Lib.hid hs
 have HR := Lib.hid hr
 have HSO := Lib.hid hso
 obtain ⟨pg, hpg⟩ : ∃ pg : Int, pg = (t.page : Int) := ⟨_, rfl⟩
 have HPG := Lib.hid hpg
 rw [← hpg] at HRD ⊢
 clear hrd h hs hr hso hpg
 go_enter Tryz.func77, Tryz.ntmps77
 go_wp2_with fail
 refine HRD.out.mono ?_
 rintro en w1 ⟨v, rfl, ho, hb1⟩
 obtain ⟨ao, cap, rfl, -⟩ := ho.form
 obtain ⟨q, hq⟩ : ∃ q, q = (ents t).length := ⟨_, rfl⟩
 rw [← hq] at ho ⊢
 have hal : Below w1.heap.size w1 (w1.alloc (.cells #[.int .i64 pg, .int .i64 n, .slice ao q cap] 140)) := (Below.refl _ w1).alloc (Nat.le_refl _) _
 have hl := ho.lt
 have hs2 := hal.size
 have hdn := down_any (HP.out.grow (hb1.trans (hal.mono hb1.size))) HS.out HR.out HSO.out .top [] (fun q => w.heap.size ≤ q ∧ q < w1.heap.size) (.slice none 0 0) (Sts.nil _ _) (fun k hk => by omega) rfl (fun k hk => by cases hk) _ (ho.ens.below hal) (fun k hk => ⟨hl k hk, fun e => by cases e⟩) key hn (by simp)
 rw [← HPG.out] at hdn
 have HDN := Lib.hid hdn
 have HB1 := Lib.hid (hb1.trans (hal.mono hb1.size))
 have HSZ := Lib.hid (And.intro hb1.size hs2)
 unfold nodeV at HDN ⊢
 clear ho hal hdn hb1 hq hl hs2 HRD
 go_wp2_with fail
 refine HDN.out.mono ?_
 rintro en w2 ⟨P', f, m, ss, lv, rfl, h1, h2, h3, h4, h5, h6⟩
 have H5 := Lib.hid h5
 have H6 := Lib.hid h6
 have HW := Lib.hid h4
 clear h4 h5 h6 HDN
 go_wp2_with fail
 go_ret2
 have hb6 := H6.out.below (B := w.heap.size) (fun j hj => by cases hj) HB1.out.size
 have hsz := HSZ.out
 refine ⟨P', f, m, ss, lv, rfl, h1, h2, h3, ?_, ?_, HB1.out.trans hb6⟩
 ·have hp : P'.app BT.Path.top = P' := path_app_top P'
  have := HW.out
  rwa [hp] at this
 ·have hs6 := H6.out.size
  refine H5.out.more (fun k hk hlt => ?_)
  rcases hk with hk | hk
  ·exact ⟨hk.1, hlt⟩
  ·exact ⟨by omega, hlt⟩
set_option maxHeartbeats 2000000 in
theorem changing_any {w0 w : World} {X : Nat → Prop} {r p N M c : Nat} {G H : Lg} (h : Pb w0 w X r p N M c G (some H)) {n : Nat} {t : BT Ent n} (hs : Stored N H t) (hr : BT.Root t) (hso : t.flat.Pairwise rK) (key : ByteArray) (hn : n ≤ 20) :
 Calls Tryz.prog 72 #[.pointer (some ⟨p, 0, none⟩), .int .i64 (t.page : Int), .string key] w fun e w' => ∃ (w1 : World) (P' : BT.Path Ent 0 n) (f : BT Ent 0) (m : Nat) (ss : List Stp) (lv : Value), e = .returned (.tuple #[lv, .int .i64 0]) ∧ Pb w0 w1 X r p N M c G (some H) ∧ Mx w0 X w w1 ∧
  P'.plug f = t ∧ P'.On (leK key) f ∧ PlaceOf f.flat key m ∧ Way P' f m ss ∧ Sts w' (fun q => w1.heap.size ≤ q ∧ q < w'.heap.size) lv ss ∧ Below w1.heap.size w1 w' := by
 have HC := Lib.hid (closed_no h)
 have HS := Lib.hid hs
 have HR := Lib.hid hr
 have HSO := Lib.hid hso
 clear h hs hr hso
 go_enter Tryz.func72, Tryz.ntmps72
 go_wp2_with fail
 refine HC.out.mono ?_
 rintro en w1 ⟨rfl, h1, hm1⟩
 have HW := Lib.hid (way_any h1 (H := some H) HS.out HR.out HSO.out key hn)
 have H1 := Lib.hid h1
 have HM1 := Lib.hid hm1
 clear h1 hm1 HC
 go_wp2_with fail
 refine HW.out.mono ?_
 rintro en w2 ⟨P', f, m, ss, lv, rfl, h1, h2, h3, h4, h5, h6⟩
 have H4 := Lib.hid h4
 have H5 := Lib.hid h5
 have H6 := Lib.hid h6
 clear h4 h5 h6 HW
 go_wp2_with fail
 go_ret2
 exact ⟨w1, P', f, m, ss, lv, rfl, H1.out, HM1.out, h1, h2, h3, H4.out, H5.out, H6.out⟩
/-- The place in the leaf is a cut. -/
theorem place_cut {key : ByteArray} {l : List Ent} {m : Nat} (hs : l.Pairwise rK) (h : PlaceOf l key m) : BT.Cut (gK key) (l.take m) (l.drop m) := by
 obtain ⟨h1, h2, h3⟩ := h
 refine BT.Cut.of (r := rK) (gK_up key) hs ?_ ?_ h1
 ·intro x hx
  rcases h2 with h2 | h2
  ·rw [List.getElem?_eq_none (by omega)] at hx; cases hx
  ·unfold geK at h2
   rw [hx] at h2
   exact h2
 ·rcases h3 with h3 | h3
  ·exact .inl h3
  ·refine .inr (fun x hx => ?_)
   unfold geK at h3
   rw [hx] at h3
   exact h3
theorem leaf_sorted {n : Nat} {P : BT.Path Ent 0 n} {f : BT Ent 0} (h : (P.plug f).flat.Pairwise rK) : f.flat.Pairwise rK := by
 rw [P.flat, List.pairwise_append, List.pairwise_append] at h
 exact h.2.1.1
/-- What a tree has of a key: the leaf tells. -/
theorem has_tree {n : Nat} {P : BT.Path Ent 0 n} {f : BT Ent 0} {key : ByteArray} {m : Nat} (hs : (P.plug f).flat.Pairwise rK) (hr : BT.Root (P.plug f)) (ho : P.On (leK key) f) (hp : PlaceOf f.flat key m) :
 (P.plug f).flat.find? (sameK key) = (f.flat[m]?).filter (sameK key) :=
 BT.has_whole (gK_up key) (le_below key) (not_le key) (le_down key) (above_other key) (not_le_same key) (same_ge key) hs hr ho (place_cut (leaf_sorted hs) hp)
theorem hasOf_filter (l : List Ent) (m : Nat) (key : ByteArray) : hasOf l m key = ((l[m]?).filter (sameK key)).isSome := by
 unfold hasOf
 cases h : l[m]? with
 | none => rfl
 | some e =>
  simp only [Option.filter, sameK]
  by_cases hb : (e.key.toList == key.toList) = true
  ·simp [hb]
  ·simp [hb]
set_option maxHeartbeats 4000000 in
/-- Get. -/
theorem get_any {w0 w : World} {X : Nat → Prop} {r p N M c : Nat} {G : Lg} {H : Option Lg} (h : Pb w0 w X r p N M c G H) {n : Nat} {t : BT Ent n} (hs : Stored N (H.getD G) t) (hr : BT.Root t) (hso : t.flat.Pairwise rK) (key : ByteArray) (hn : n ≤ 20) :
 Calls Tryz.prog 43 #[.pointer (some ⟨p, 0, none⟩), .int .i64 (t.page : Int), .string key] w fun e w' => e = .returned (.tuple (match t.flat.find? (sameK key) with | some x => #[.string x.val, .bool true, .int .i64 0] | none => #[.string ⟨#[]⟩, .bool false, .int .i64 0])) ∧ Below w.heap.size w w' := by
 have hal : Below w.heap.size w (w.alloc (.cells #[.int .i64 0, .int .i64 0, .slice none 0 0, .int .i64 0] 142)) := (Below.refl _ w).alloc (Nat.le_refl _) _
 have hb := Blk.new w #[.int .i64 0, .int .i64 0, .slice none 0 0, .int .i64 0] 142
 have HWAY := Lib.hid (way_any (h.grow hal) hs hr hso key hn)
 obtain ⟨w1, hw1⟩ : ∃ w1, w1 = w.alloc (.cells #[.int .i64 0, .int .i64 0, .slice none 0 0, .int .i64 0] 142) := ⟨_, rfl⟩
 rw [← hw1] at hal hb HWAY
 have HAL := Lib.hid hal
 have HB := Lib.hid hb
 have HW1 := Lib.hid hw1
 have HSO := Lib.hid hso
 have HR := Lib.hid hr
 have HS := Lib.hid hs
 clear h hs hr hso hal hb hw1
 go_enter Tryz.func43, Tryz.ntmps43
 go_wp2_with fail
 go_step3
 go_wp2_with fail
 rw [← HW1.out]
 refine HWAY.out.mono ?_
 rintro en w2 ⟨P', f, m, ss, lv, rfl, h1, h2, h3, h4, h5, h6⟩
 obtain ⟨⟨ss', s, rfl, hsa, hsl, hse, hsi, -⟩⟩ := h4
 obtain ⟨nq, hnq⟩ : ∃ nq, nq = (ss' ++ [s]).length := ⟨_, rfl⟩
 obtain ⟨q, hq⟩ : ∃ q, q = ss'.length := ⟨_, rfl⟩
 have hqn : nq = q + 1 := by rw [hnq, hq, List.length_append]; rfl
 have hlast : (ss' ++ [s])[q]'(by rw [← hnq]; omega) = s := by simp [hq]
 obtain ⟨g, cap, rfl, hg, -, hc1, hc2, -, d0, d1, d2, d3⟩ := h5.at q (by rw [← hnq]; omega)
 obtain ⟨hen, hob⟩ := h5.ens q (by rw [← hnq]; omega)
 rw [hlast] at d0 d1 d2 d3 hen hob
 rw [← hnq] at hc1 ⊢
 have i1 : (nq : Int) - 1 = q := by omega
 have i2 : (q : Int) < nq := by omega
 have i3 : ¬ ((q : Int) < 0) := by omega
 obtain ⟨ao, ac, hsv, hac1, hac2⟩ := hen.form
 obtain ⟨n1, hn1⟩ : ∃ n1, n1 = s.es.length := ⟨_, rfl⟩
 rw [← hn1] at hsv hac1
 rw [hsv] at d2 hen hob
 rw [hsi] at d3
 rw [hsl] at d1
 obtain ⟨sa, hsa'⟩ : ∃ sa, sa = s.at' := ⟨_, rfl⟩
 rw [← hsa'] at d0
 have hb2 := HB.out.moved (Moved.of_below h6 (fun _ => False)) (fun h => h)
 have z0 : w2.cell? ⟨w.heap.size, 0, none⟩ = some (.int .i64 0) := by rw [hb2.cell]; rfl
 have z1 : w2.cell? ⟨w.heap.size, 1, none⟩ = some (.int .i64 0) := by rw [hb2.cell]; rfl
 have z2 : w2.cell? ⟨w.heap.size, 2, none⟩ = some (.slice none 0 0) := by rw [hb2.cell]; rfl
 have z3 : w2.cell? ⟨w.heap.size, 3, none⟩ = some (.int .i64 0) := by rw [hb2.cell]; rfl
 have f0 := hb2.frozen 0
 have f1 := hb2.frozen 1
 have f2 := hb2.frozen 2
 have f3 := hb2.frozen 3
 have hfew : n1 ≤ 10000 := by
  rw [hn1, hse]
  have hfl : (ents f).length ≤ 255 := (Stored.split P' f (by rw [h1]; exact HS.out)).2.node.few
  rw [ents_flat] at hfl
  omega
 have hmn : m ≤ n1 := by rw [hn1, hse]; exact h3.1
 have hfind := has_tree (key := key) (by rw [h1]; exact HSO.out) (by rw [h1]; exact HR.out) h2 h3
 rw [h1] at hfind
 have hhas : hasOf s.es m key = ((s.es[m]?).filter (sameK key)).isSome := hasOf_filter _ _ _
 rw [← hse] at hfind
 have HFIND := Lib.hid hfind
 have HHAS := Lib.hid hhas
 have HEN := Lib.hid hen
 have HH6 := Lib.hid h6
 have HN1 := Lib.hid hn1
 have HBK := Lib.hid hb2
 have hmss := ((((Moved.refl (· = w.heap.size) w2).setCell ⟨w.heap.size, 0, none⟩ (.int .i64 sa) (.inl rfl)).setCell ⟨w.heap.size, 1, none⟩ (.int .i64 0) (.inl rfl)).setCell ⟨w.heap.size, 2, none⟩ (.slice ao n1 ac) (.inl rfl)).setCell ⟨w.heap.size, 3, none⟩ (.int .i64 m) (.inl rfl)
 have HMSS := Lib.hid hmss
 have HOB := Lib.hid hob
 have HSB := Lib.hid HB.out.lt
 clear h1 h2 h3 h5 h6 hsa hsl hse hsi hnq hq hqn hlast hen hob hsv hsa' hb2 hfind hhas hmss HWAY hn1
 go_wp2_with fail
 obtain ⟨w3, hw3⟩ : ∃ w3, w3 = (((w2.setCell ⟨w.heap.size, 0, none⟩ (.int .i64 sa)).setCell ⟨w.heap.size, 1, none⟩ (.int .i64 0)).setCell ⟨w.heap.size, 2, none⟩ (.slice ao n1 ac)).setCell ⟨w.heap.size, 3, none⟩ (.int .i64 m) := ⟨_, rfl⟩
 rw [← hw3] at HMSS ⊢
 have hbk3 : Blk w3 w.heap.size #[.int .i64 sa, .int .i64 0, .slice ao n1 ac, .int .i64 m] 142 := by
  rw [hw3]; exact (((HBK.out.set 0 (.int .i64 sa)).set 1 (.int .i64 0)).set 2 (.slice ao n1 ac)).set 3 (.int .i64 m)
 have hen3 : Ens w3 (.slice ao n1 ac) s.es := HEN.out.moved HMSS.out (fun _ k hk e => by have := (HOB.out k hk).1.1; have := HSB.out; omega)
 have hb13 : Below w.heap.size w w3 := (HAL.out.trans (HH6.out.mono HAL.out.size)).trans (HMSS.out.below (fun j hj => by omega) (by have := HH6.out.size; have := HAL.out.size; omega))
 have hha := has_any sa 0 (.slice ao n1 ac) s.es m key w3 hen3 (by rw [← HN1.out]; exact hfew) (by rw [← HN1.out]; exact hmn)
 have HHA := Lib.hid hha
 have HBK3 := Lib.hid hbk3
 have HEN3 := Lib.hid hen3
 have HB13 := Lib.hid hb13
 unfold stepV at HHA
 clear hha hbk3 hen3 hb13 hw3 z0 z1 z2 z3 f0 f1 f2 f3 d0 d1 d2 d3
 refine HHA.out.mono ?_
 rintro en w4 ⟨rfl, hb4⟩
 have hbk4 := HBK3.out.moved (Moved.of_below hb4 (fun _ => False)) (fun h => h)
 have z2 : w4.cell? ⟨w.heap.size, 2, none⟩ = some (.slice ao n1 ac) := by rw [hbk4.cell]; rfl
 have z3 : w4.cell? ⟨w.heap.size, 3, none⟩ = some (.int .i64 m) := by rw [hbk4.cell]; rfl
 have HB4 := Lib.hid (HB13.out.trans (hb4.mono HB13.out.size))
 have hen4 := HEN3.out.below hb4
 obtain ⟨t1, ht1⟩ : ∃ t1, t1 = hasOf s.es m key := ⟨_, rfl⟩
 rw [← ht1]
 have hhas := HHAS.out
 rw [← ht1] at hhas
 cases t1 with
 | true =>
  cases hem : s.es[m]? with
  | none => rw [hem] at hhas; cases hhas
  | some e =>
   have hml : m < s.es.length := (List.getElem?_eq_some_iff.1 hem).1
   have hee : s.es[m] = e := (List.getElem?_eq_some_iff.1 hem).2
   obtain ⟨b, off, cp, hsl, -, -, -, hce⟩ := hen4.at (by omega)
   rw [← HN1.out] at hsl
   simp only [Value.slice.injEq, true_and] at hsl
   obtain ⟨rfl, rfl⟩ := hsl
   obtain ⟨-, e1, -⟩ := hce m hml
   rw [hee] at e1
   have hfd := HFIND.out
   have hs : sameK key e = true := by
    rw [hem] at hhas
    simp only [Option.filter] at hhas
    by_cases h : sameK key e = true
    ·exact h
    ·rw [if_neg h] at hhas; cases hhas
   rw [hem, Option.filter, if_pos hs] at hfd
   have HFD := Lib.hid hfd
   have i5 : (m : Int) < n1 := by have := HN1.out; omega
   clear hbk4 hb4 hen4 ht1 hhas hem hee hce hfd hs
   go_wp2_with fail
   repeat rw [Exit.noGoto_ret]
   go_ret3
   rw [HFD.out]
   exact ⟨rfl, HB4.out⟩
 | false =>
  have hfd := HFIND.out
  have hn : (s.es[m]?).filter (sameK key) = none := by
   cases h : (s.es[m]?).filter (sameK key) with
   | none => rfl
   | some e => rw [h] at hhas; cases hhas
  rw [hn] at hfd
  have HFD := Lib.hid hfd
  clear hbk4 hb4 hen4 ht1 hhas hfd hn
  go_wp2_with fail
  go_step3
  go_wp2_with fail
  repeat rw [Exit.noGoto_ret]
  go_ret3
  rw [HFD.out]
  exact ⟨rfl, HB4.out⟩
end Go.Proofs.YtbpdapcmaioeiaaGreat
namespace Go.Proofs.YtbpdapcmaioeiaaGreat
open Go.RowKit Go.Maps
set_option maxRecDepth 100000
set_option linter.unusedVariables false
/-- A tree that stands on the pages H, in order, apart from the free ones. -/
structure InLg (N : Nat) (H : Lg) {n : Nat} (t : BT Ent n) : Prop where
 stored : Stored N H t
 root : BT.Root t
 sorted : t.flat.Pairwise rK
 nodup : (H.free ++ t.pages).Nodup
 range : ∀ q ∈ H.free ++ t.pages, 1 ≤ q ∧ q < N
 most : N ≤ 2000
theorem InLg.low {N : Nat} {H : Lg} {n : Nat} {t : BT Ent n} (h : InLg N H t) : n ≤ 10 := by
 refine BT.low t h.root ?_
 have h1 := nodup_length (N := N) (List.nodup_append.1 h.nodup).2.1 (fun q hq => (h.range q (List.mem_append_right _ hq)).2)
 have := h.most
 omega
theorem plug_pages_eq : {n R : Nat} → (p : BT.Path Ent n R) → (t t' : BT Ent n) → t.pages = t'.pages → (p.plug t).pages = (p.plug t').pages
 | _, _, .top, t, t', h => h
 | n, R, .up page ka kb rest, t, t', h => plug_pages_eq rest (BT.node page (ka ++ t :: kb)) (BT.node page (ka ++ t' :: kb)) (by rw [BT.node_pages, BT.node_pages, List.flatMap_append, List.flatMap_append, List.flatMap_cons, List.flatMap_cons, h])
theorem leaf_sizes {l : List Ent} : Parts.size (isz (n := 0)) l = sizes 0 l := by
 have h1 := sizes_ient (n := 0) l
 have h2 : l.map (ient (n := 0)) = l := ients_leaf l
 rw [h2] at h1
 exact h1.symm
/-- The leaf at the end of a way with other entries. -/
theorem InLg.chg {N : Nat} {H : Lg} {n : Nat} {P : BT.Path Ent 0 n} {f : BT Ent 0} (h : InLg N H (P.plug f)) (hroom : 25 ≤ H.free.length) {l : List Ent} (hl : ∀ e ∈ l, LeafE e ∧ esize 0 e ≤ 502) (h3 : ∃ a b d, l = a ++ (b ++ d) ∧ sizes 0 a ≤ 502 ∧ sizes 0 b ≤ 502 ∧ sizes 0 d ≤ 502) (hf : l.length ≤ 600) :
 Chg N H P (BT.leaf f.page l) := by
 obtain ⟨h1, h2⟩ := Stored.split P f h.stored
 have hlow := h.low
 have hlev := P.levels
 have hpe : (P.plug (BT.leaf f.page l)).pages = (P.plug f).pages := plug_pages_eq P _ _ rfl
 obtain ⟨a, b, d, e, ha, hb, hd⟩ := h3
 refine ⟨h1, fun x hx => (hl x hx).1, fun _ _ => trivial, BT.Path.root_proper P f h.root, by rw [hpe]; exact h.nodup, by rw [hpe]; exact h.range, fun x hx => (hl x hx).2, ⟨a, b, d, e, ?_, ?_, ?_⟩, hf, by omega, fun h => (h rfl).elim, hlow, h.most⟩
 ·rw [leaf_sizes]; exact ha
 ·rw [leaf_sizes]; exact hb
 ·rw [leaf_sizes]; exact hd
theorem leaf_facts {N : Nat} {H : Lg} {n : Nat} {P : BT.Path Ent 0 n} {f : BT Ent 0} (h : InLg N H (P.plug f)) : (∀ e ∈ f.flat, LeafE e ∧ esize 0 e ≤ 502) ∧ sizes 0 f.flat ≤ 502 ∧ f.flat.length ≤ 255 := by
 obtain ⟨-, h2⟩ := Stored.split P f h.stored
 have h3 : sizes 0 f.flat ≤ 502 := by
  have := h2.fits
  rw [show f.items = f.flat from rfl, leaf_sizes] at this
  exact this
 refine ⟨fun e he => ⟨h2.kept e he, ?_⟩, h3, ?_⟩
 ·obtain ⟨a, b, hab⟩ := List.append_of_mem he
  rw [hab, sizes_append, sizes_cons] at h3
  omega
 ·have := h2.node.few
  rw [ents_flat] at this
  exact this
theorem sizes_take {l : List Ent} (m : Nat) : sizes 0 (l.take m) ≤ sizes 0 l := by
 have h : l = l.take m ++ l.drop m := (List.take_append_drop m l).symm
 conv => rhs; rw [h]
 rw [sizes_append]; omega
theorem sizes_drop {l : List Ent} (m : Nat) : sizes 0 (l.drop m) ≤ sizes 0 l := by
 have h : l = l.take m ++ l.drop m := (List.take_append_drop m l).symm
 conv => rhs; rw [h]
 rw [sizes_append]; omega
theorem setEs_eq (l : List Ent) (key val : ByteArray) (m : Nat) : setEs l key val m = BT.setAt (sameK key) ⟨key, val, 0⟩ l m := by
 unfold setEs BT.setAt
 congr 2
 have : hasOf l m key = (l[m]?).any (sameK key) := by
  unfold hasOf
  cases l[m]? <;> rfl
 rw [this]
/-- All below a key, the entry, all above; all but a key's. -/
def setL (key val : ByteArray) (l : List Ent) : List Ent := l.filter (fun x => !gK key x) ++ [⟨key, val, 0⟩] ++ l.filter (fun x => gK key x && !sameK key x)
def delL (key : ByteArray) (l : List Ent) : List Ent := l.filter (fun x => !sameK key x)
theorem setL_sorted {key val : ByteArray} {l : List Ent} (h : l.Pairwise rK) : (setL key val l).Pairwise rK := by
 unfold setL
 have hlt : ∀ x : Ent, gK key x = false → Op.bytesLess x.key.toList key.toList = true := fun x hx => by
  unfold gK geB at hx
  simpa using hx
 have hgt : ∀ x : Ent, gK key x = true → sameK key x = false → Op.bytesLess key.toList x.key.toList = true := fun x hx hs => by
  unfold gK geB at hx
  unfold sameK at hs
  have h1 : Op.bytesLess x.key.toList key.toList = false := by simpa using hx
  exact less_total h1 (by simpa using hs)
 rw [List.append_assoc, List.pairwise_append]
 refine ⟨h.sublist List.filter_sublist, ?_, ?_⟩
 ·rw [List.singleton_append, List.pairwise_cons]
  refine ⟨fun y hy => ?_, h.sublist List.filter_sublist⟩
  rw [List.mem_filter, Bool.and_eq_true] at hy
  exact hgt y hy.2.1 (by simpa using hy.2.2)
 ·intro x hx y hy
  rw [List.mem_filter] at hx
  have hx2 := hlt x (by simpa using hx.2)
  rw [List.singleton_append] at hy
  rcases List.mem_cons.1 hy with rfl | hy
  ·exact hx2
  ·rw [List.mem_filter, Bool.and_eq_true] at hy
   exact less_trans hx2 (hgt y hy.2.1 (by simpa using hy.2.2))
/-- What a change leaves of a tree: another, with such entries. -/
structure Changed (N : Nat) (H H' : Lg) {n m : Nat} (t : BT Ent n) (t' : BT Ent m) (l : List Ent) : Prop where
 flat : t'.flat = l
 ok : InLg N H' t'
 perm : (H'.free ++ t'.pages).Perm (H.free ++ t.pages)
 framed : Framed H H' t.pages
theorem Done.set {w0 w w' : World} {X0 : Nat → Prop} {r p N M c : Nat} {G H H' : Lg} {n m : Nat} {P : BT.Path Ent 0 n} {f : BT Ent 0} {t' : BT Ent m} {L0 c' k : Nat} {key val : ByteArray} (hi : InLg N H (P.plug f)) (ho : P.On (leK key) f) (hp : PlaceOf f.flat key k)
 (h : Done w0 w w' X0 r p N M c G H P (BT.leaf f.page (BT.setAt (sameK key) ⟨key, val, 0⟩ f.flat k)) L0 t' H' c') : Changed N H H' (P.plug f) t' (setL key val (P.plug f).flat) := by
 obtain ⟨g1, g2, g3⟩ := BT.set_whole (r := rK) (ge := gK key) (le := leK key) (same := sameK key) (gK_up key) (le_below key) (not_le key) (le_down key) (above_other key) (not_le_same key) (same_ge key) (same_one key) hi.sorted hi.root ho hp.1 (place_cut (leaf_sorted hi.sorted) hp) h.settled
 have hpe : (P.plug (BT.leaf f.page (BT.setAt (sameK key) ⟨key, val, 0⟩ f.flat k))).pages = (P.plug f).pages := plug_pages_eq P _ _ rfl
 have hfr := h.framed
 rw [hpe] at hfr
 exact ⟨g1, ⟨h.stored, g2, by rw [g1]; exact setL_sorted hi.sorted, g3.symm.nodup hi.nodup, fun q hq => hi.range q (g3.mem_iff.1 hq), hi.most⟩, g3, hfr⟩
end Go.Proofs.YtbpdapcmaioeiaaGreat
