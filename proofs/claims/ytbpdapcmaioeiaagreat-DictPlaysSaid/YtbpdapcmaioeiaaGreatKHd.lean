/- Hd -/
import Derived.Test.YtbpdapcmaioeiaaGreatKHb
import Derived.Test.YtbpdapcmaioeiaaGreatKHc
namespace Go.Proofs.YtbpdapcmaioeiaaGreat
open Go.RowKit Go.Maps
set_option maxRecDepth 100000
set_option linter.unusedVariables false
/-- A scope that is left, or gone through again from a label: what holds at the label is shown once. -/
theorem wp_scope_again {P : Program} {a : Act} {w : World} {Q : Exit → Act → World → Prop} {c rest : Code} (l : Nat) (J : Act → World → Prop) (μ : Act → World → Nat) (hf : findLabel c l = some (Code.seq .skip rest))
 (pass : ∀ a w, J a w → rest.wp P (Exit.jump l (fun a' w' => J a' w' ∧ μ a' w' < μ a w) Q) a w)
 (first : (∀ a w, J a w → rest.wp P (Exit.jump l J Q) a w) → c.wp P (Exit.jump l J Q) a w) : (Code.scope c).wp P Q a w := by
 refine wp_scope_jumps l J μ hf (first fun a w hJ => Code.wp_mono ?_ (pass a w hJ)) (fun a w hJ => wp_seq (wp_skip (pass a w hJ)))
 intro e a w h
 cases e with
 | goto l' => exact ⟨h.1, h.2.1⟩
 | _ => exact h
theorem le_ways (key : ByteArray) (x : Ent) : (Op.bytesLess x.key.toList key.toList = true ∧ leK key x = true) ∨ (Op.bytesLess x.key.toList key.toList = false ∧ (x.key.toList == key.toList) = true ∧ leK key x = true) ∨
 (Op.bytesLess x.key.toList key.toList = false ∧ (x.key.toList == key.toList) = false ∧ leK key x = false) := by
 cases h : Op.bytesLess x.key.toList key.toList with
 | true => exact .inl ⟨rfl, by unfold leK; rw [less_asymm h]; rfl⟩
 | false =>
  by_cases e : x.key.toList = key.toList
  ·exact .inr (.inl ⟨rfl, by simpa using e, by unfold leK; rw [e, less_irrefl]; rfl⟩)
  ·exact .inr (.inr ⟨rfl, by simpa using e, by unfold leK; rw [less_total h e]; rfl⟩)
set_option maxHeartbeats 4000000 in
theorem place_node {w0 w : World} {X : Nat → Prop} {r p N M c : Nat} {G : Lg} {H : Option Lg} (h : Pb w0 w X r p N M c G H) {n : Nat} {ks : List (BT Ent n)} (hs : ∀ k ∈ ks, Stored N (H.getD G) k) (hp : ∀ k ∈ ks, k.Proper) (hso : (ks.flatMap BT.flat).Pairwise rK) (at' : Int) (v : Value) (key : ByteArray)
 (hes : Ens w v (ks.map (fun k => kidE (k.page : Int)))) (h0 : 0 < ks.length) (hl : ks.length ≤ 1000) (hn : n ≤ 20) (lvl : Int) (hlv : lvl = n + 1) :
 Calls Tryz.prog 147 #[.pointer (some ⟨p, 0, none⟩), nodeV at' lvl v, .string key] w fun e w' => ∃ i : Nat, e = .returned (.tuple #[.int .i64 i, .int .i64 0]) ∧ KidOf key ks i ∧ Below w.heap.size w w' := by
 obtain ⟨ao, cap, rfl, hc1, hc2⟩ := hes.form
 rw [List.length_map] at hc1
 obtain ⟨q, hq⟩ : ∃ q, q = ks.length := ⟨_, rfl⟩
 have hlm : (ks.map (fun k => kidE (k.page : Int))).length = q := by rw [List.length_map, hq]
 rw [hlm] at hes ⊢
 rw [← hq] at hc1 h0 hl
 have hal0 : Below w.heap.size w (w.alloc (.cells #[.int .i64 at', .int .i64 lvl, .slice ao q cap] 140)) := (Below.refl _ w).alloc (Nat.le_refl _) _
 have hb0 := Blk.new w #[.int .i64 at', .int .i64 lvl, .slice ao q cap] 140
 have hs0 : (w.alloc (.cells #[.int .i64 at', .int .i64 lvl, .slice ao q cap] 140)).heap.size = w.heap.size + 1 := by simp
 obtain ⟨wa, hwa⟩ : ∃ wa, wa = w.alloc (.cells #[.int .i64 at', .int .i64 lvl, .slice ao q cap] 140) := ⟨_, rfl⟩
 rw [← hwa] at hal0 hb0 hs0
 have hal1 : Below wa.heap.size wa (wa.alloc (.cells #[.string key] 9)) := (Below.refl _ wa).alloc (Nat.le_refl _) _
 have hbr := Blk.new wa #[.string key] 9
 rw [hs0] at hbr
 obtain ⟨w1, hw1⟩ : ∃ w1, w1 = wa.alloc (.cells #[.string key] 9) := ⟨_, rfl⟩
 rw [← hw1] at hal1 hbr
 have hal : Below w.heap.size w w1 := hal0.trans (hal1.mono hal0.size)
 have hb : Blk w1 w.heap.size _ _ := hb0.moved (Moved.of_below hal1 (fun _ => False)) (fun h => h)
 have a1 : w1.cell? ⟨w.heap.size, 1, none⟩ = some (.int .i64 lvl) := by rw [hb.cell]; rfl
 have a2 : w1.cell? ⟨w.heap.size, 2, none⟩ = some (.slice ao q cap) := by rw [hb.cell]; rfl
 have HAL := Lib.hid hal
 have HB := Lib.hid hb
 have HBR := Lib.hid hbr
 have HPB := Lib.hid (h.grow hal)
 have HES := Lib.hid (hes.below hal)
 have HW1 := Lib.hid (show w1 = (w.alloc (.cells #[.int .i64 at', .int .i64 lvl, .slice ao q cap] 140)).alloc (.cells #[.string key] 9) by rw [hw1, hwa])
 have HS := Lib.hid hs
 have HP := Lib.hid hp
 have HSO := Lib.hid hso
 have HQ := Lib.hid hq
 have i3 : (n : Int) ≤ 20 := by omega
 have i6 : lvl ≤ 21 := by omega
 have i7 : 1 ≤ lvl := by omega
 have i8 : (lvl == 0) = false := by simp; omega
 have HLV := Lib.hid hlv
 rw [HW1.out] at a1 a2
 unfold nodeV
 clear hlv h hs hp hso hal hal0 hal1 hb hb0 hbr hes hq hlm hw1 hwa hs0
 go_enter Tryz.func147, Tryz.ntmps147
 go_wp2_with fail
 go_quiet (fail)
 go_wp2_with fail
 rw [← HW1.out]
 go_loopw [8, 9, 10, 11, 12] (fun lo hi _ _ _ wr => ∃ i j : Nat, i ≤ j ∧ j < q ∧ lo = .int .i64 i ∧ hi = .int .i64 j ∧ (i = 0 ∨ ∀ k, ks[i]? = some k → ∀ x, k.first = some x → leK key x = true) ∧ (∀ j', j < j' → ∀ k, ks[j']? = some k → ∀ x, k.first = some x → leK key x = false) ∧ Below w1.heap.size w1 wr) (fun lo hi _ _ _ _ => (intOf hi - intOf lo).toNat)
 case atStart => exact ⟨0, q - 1, Nat.zero_le _, by omega, rfl, by go_num, .inl rfl, (fun j' hj k hk => by rw [List.getElem?_eq_none (by have := HQ.out; omega)] at hk; cases hk), grownBy_below (grownBy_drewN _ _ _)⟩
 case round =>
  obtain ⟨i, j, hij, hjq, rfl, rfl, hlo, hhi, hb⟩ := hrel
  have HLO := Lib.hid hlo
  have HHI := Lib.hid hhi
  have HBW := Lib.hid hb
  have hbk := HB.out.moved (Moved.of_below hb (fun _ => False)) (fun h => h)
  have hbkr := HBR.out.moved (Moved.of_below hb (fun _ => False)) (fun h => h)
  have c0 : wr.cell? ⟨w.heap.size, 0, none⟩ = some (.int .i64 at') := by rw [hbk.cell]; rfl
  have c1 : wr.cell? ⟨w.heap.size, 1, none⟩ = some (.int .i64 lvl) := by rw [hbk.cell]; rfl
  have c2 : wr.cell? ⟨w.heap.size, 2, none⟩ = some (.slice ao q cap) := by rw [hbk.cell]; rfl
  have c5 : wr.cell? ⟨w.heap.size + 1, 0, none⟩ = some (.string key) := by rw [hbkr.cell]; rfl
  have C5 := Lib.hid c5
  have HLT := Lib.hid hbkr.lt
  clear hlo hhi hb hbk hbkr
  by_cases hlt : i < j
  ·obtain ⟨m, hm⟩ : ∃ m : Nat, m = j - (j - i) / 2 := ⟨_, rfl⟩
   have hmi : i < m ∧ m ≤ j := by omega
   have hmv : (j : Int) - ((j : Int) - i) / 2 = m := by omega
   have hmq : m < ks.length := by have := HQ.out; omega
   have hlt' : (i : Int) < j := by omega
   have hmk : ks[m] ∈ ks := List.getElem_mem _
   have hle := least_any (HPB.out.grow HBW.out) (HS.out _ hmk) (HP.out _ hmk) at' (.slice ao q cap) _ m (HES.out.below HBW.out) (by rw [List.getElem?_map, List.getElem?_eq_getElem hmq]; rfl) hn lvl HLV.out
   unfold nodeV at hle
   have HLE := Lib.hid hle
   have HM := Lib.hid hm
   clear hle hm
   go_wp2_with fail
   refine HLE.out.mono ?_
   rintro en w2 ⟨x, hx, rfl, hb2⟩
   have d5 : w2.cell? ⟨w.heap.size + 1, 0, none⟩ = some (.string key) := (hb2.cell (show (⟨w.heap.size + 1, 0, none⟩ : Addr).block < _ from HLT.out)).trans C5.out
   have HX := Lib.hid hx
   have HB2 := Lib.hid (HBW.out.trans (hb2.mono HBW.out.size))
   have hcmp := le_ways key x
   clear hx hb2 HLE c0 c1 c2 c5
   rcases hcmp with ⟨l1, ht⟩ | ⟨l1, l2, ht⟩ | ⟨l1, l2, ht⟩
   ·have HT := Lib.hid ht
    clear ht
    go_wp2_with fail
    go_roundw
    case rel => exact ⟨m, j, hmi.2, hjq, rfl, rfl, .inr (fun k hk y hy => by
     rw [List.getElem?_eq_getElem hmq] at hk
     obtain rfl := Option.some.inj hk
     rw [HX.out] at hy
     obtain rfl := Option.some.inj hy
     exact HT.out), HHI.out, HB2.out⟩
    case measure => simp [intOf]; omega
   ·have HT := Lib.hid ht
    clear ht
    go_wp2_with fail
    go_roundw
    case rel => exact ⟨m, j, hmi.2, hjq, rfl, rfl, .inr (fun k hk y hy => by
     rw [List.getElem?_eq_getElem hmq] at hk
     obtain rfl := Option.some.inj hk
     rw [HX.out] at hy
     obtain rfl := Option.some.inj hy
     exact HT.out), HHI.out, HB2.out⟩
    case measure => simp [intOf]; omega
   ·have HT := Lib.hid ht
    clear ht
    go_wp2_with fail
    go_roundw
    case rel => exact ⟨i, m - 1, by omega, by omega, rfl, by go_num, HLO.out, (fun j' hj k hk y hy => by
     by_cases e : j' = m
     ·subst e
      rw [List.getElem?_eq_getElem hmq] at hk
      obtain rfl := Option.some.inj hk
      rw [HX.out] at hy
      obtain rfl := Option.some.inj hy
      exact HT.out
     ·obtain ⟨hjl, rfl⟩ := List.getElem?_eq_some_iff.1 hk
      cases hly : leK key y with
      | false => rfl
      | true =>
       have := BT.kid_found (le_down key) HSO.out HP.out (show m < j' by omega) hjl HX.out hy hly
       rw [HT.out] at this
       cases this), HB2.out⟩
    case measure => simp [intOf]; omega
  ·obtain rfl : i = j := by omega
   go_wp2_with fail
   go_ret2
   exact ⟨i, rfl, ⟨by have := HQ.out; omega, HLO.out, HHI.out⟩, HAL.out.trans (HBW.out.mono HAL.out.size)⟩
/-- Which entry of a node comes next. -/
def Chosen (key : ByteArray) : {n : Nat} → BT Ent n → Nat → Prop
 | 0, u, i => PlaceOf (ents (n := 0) u) key i
 | n + 1, u, i => KidOf key (BT.kids u) i
/-- The level of the node in a block. -/
def levAt (s : Nat) (w : World) : Nat := match w.cell? ⟨s, 1, none⟩ with
 | some (.int _ k) => k.toNat
 | _ => 0
theorem path_app_top : {n N : Nat} → (p : BT.Path Ent n N) → p.app .top = p
 | _, _, .top => rfl
 | _, _, .up page ka kb rest => by
  show BT.Path.up page ka kb (rest.app .top) = _
  rw [path_app_top rest]
theorem root_of_proper : {n : Nat} → {t : BT Ent n} → t.Proper → BT.Root t
 | 0, t, h => trivial
 | n + 1, t, h => h
theorem ents_flat (u : BT Ent 0) : ents u = u.flat := ients_leaf _
/-- What is at the node where down stands: a leaf, or the kid that comes next. -/
theorem down_kid {N : Nat} {H : Lg} {n R j : Nat} {u : BT Ent j} {P : BT.Path Ent j n} {t : BT Ent n} {key : ByteArray} {i : Nat} {upg : Int} (hupg : upg = (u.page : Int)) (hroot : BT.Root u) (hst : Stored N H u) (hplug : P.plug u = t) (hon : P.On (leK key) u) (p0 : BT.Path Ent n R) (v : Value) (hch : Chosen key u i) (hj : j ≤ 20) :
 (j = 0 → ∃ (f : BT Ent 0) (P' : BT.Path Ent 0 n), P'.plug f = t ∧ P'.On (leK key) f ∧ PlaceOf f.flat key i ∧ (upg = (f.page : Int) ∧ ents u = f.flat) ∧ ∀ ss, OnWay (P.app p0) u.page ss → OnWay (P'.app p0) f.page ss) ∧
 (j ≠ 0 → ∃ (jk : Nat) (k : BT Ent jk) (Pk : BT.Path Ent jk n), (j : Int) = (jk : Int) + 1 ∧ jk + 1 = j ∧ Stored N H k ∧ k.Proper ∧ Pk.plug k = t ∧ Pk.On (leK key) k ∧ (ents u)[i]? = some (kidE (k.page : Int)) ∧ ∀ ss, OnWay (P.app p0) u.page ss → OnWay (Pk.app p0) k.page (ss ++ [⟨upg, (j : Int), v, ents u, i⟩])) := by
 cases j with
 | zero =>
  refine ⟨fun _ => ⟨u, P, hplug, hon, ?_, ⟨hupg, ents_flat u⟩, fun ss h => h⟩, fun h => (h rfl).elim⟩
  rw [← ents_flat]; exact hch
 | succ j =>
  refine ⟨fun h => by omega, fun _ => ?_⟩
  obtain ⟨k, hk, hsplit, h1, h2⟩ := KidOf.on hch
  have hR : BT.Proper u := hroot
  have hP : ∀ k ∈ BT.kids u, k.Proper := hR.2
  have hmem : k ∈ BT.kids u := List.mem_of_getElem? hk
  have hu : u = BT.node u.page ((BT.kids u).take i ++ k :: (BT.kids u).drop (i + 1)) := by rw [← hsplit]; rfl
  refine ⟨j, k, .up u.page ((BT.kids u).take i) ((BT.kids u).drop (i + 1)) P, by omega, rfl, hst.kids k hmem, hP k hmem, ?_, ?_, ?_, ?_⟩
  ·rw [BT.Path.plug_up, ← hu]; exact hplug
  ·refine (show (_ ∧ _ ∧ _) from ⟨h1, h2, ?_⟩)
   rw [← hu]; exact hon
  ·have : ents u = (BT.kids u).map (fun k => kidE (k.page : Int)) := rfl
   rw [this, List.getElem?_map, hk]; rfl
  ·intro ss hss
   refine ⟨ss, _, rfl, hupg, rfl, ?_, ?_, hss⟩
   ·have : ents u = (BT.kids u).map (fun k => kidE (k.page : Int)) := rfl
    rw [kids_map, ← hsplit]; exact this
   ·show i = ((BT.kids u).take i).length
    have := (List.getElem?_eq_some_iff.1 hk).1
    rw [List.length_take]; omega
set_option maxHeartbeats 8000000 in
/-- down: from a node on to the leaf of a key. -/
theorem down_any {w0 w : World} {X : Nat → Prop} {r p N M c : Nat} {G : Lg} {H : Option Lg} (h : Pb w0 w X r p N M c G H) {n R : Nat} {t : BT Ent n} (hs : Stored N (H.getD G) t) (hr : BT.Root t) (hso : t.flat.Pairwise rK) (p0 : BT.Path Ent n R) (ss0 : List Stp) (S0 : Nat → Prop) (l0 : Value)
 (hl0 : Sts w S0 l0 ss0) (hS0 : ∀ q, S0 q → q < w.heap.size) (how : OnWay p0 t.page ss0) (hX0 : ∀ q, l0.ownBlock = some q → X q ∧ w0.heap.size ≤ q) (v0 : Value) (hv0 : Ens w v0 (ents t)) (hvb : ∀ q, v0.ownBlock = some q → S0 q ∧ l0.ownBlock ≠ some q) (key : ByteArray) (hn : n ≤ 20) (hss : ss0.length ≤ 20) :
 Calls Tryz.prog 119 #[.pointer (some ⟨p, 0, none⟩), l0, nodeV (t.page : Int) ((n : Nat) : Int) v0, .string key] w fun e w' => ∃ (P' : BT.Path Ent 0 n) (f : BT Ent 0) (m : Nat) (ss : List Stp) (lv : Value), e = .returned (.tuple #[lv, .int .i64 0]) ∧ P'.plug f = t ∧ P'.On (leK key) f ∧ PlaceOf f.flat key m ∧
  Way (P'.app p0) f m ss ∧ Sts w' (fun q => S0 q ∨ (w.heap.size ≤ q ∧ q < w'.heap.size)) lv ss ∧ Moved (fun k => l0.ownBlock = some k) w w' := by
 obtain ⟨vo, vc, rfl, hvc1, hvc2⟩ := hv0.form
 obtain ⟨q, hq⟩ : ∃ q, q = (ents t).length := ⟨_, rfl⟩
 rw [← hq] at hvc1 hv0 hvb ⊢
 have hal : Below w.heap.size w (w.alloc (.cells #[.int .i64 (t.page : Int), .int .i64 ((n : Nat) : Int), .slice vo q vc] 140)) := (Below.refl _ w).alloc (Nat.le_refl _) _
 have hb := Blk.new w #[.int .i64 (t.page : Int), .int .i64 ((n : Nat) : Int), .slice vo q vc] 140
 have hs1 : (w.alloc (.cells #[.int .i64 (t.page : Int), .int .i64 ((n : Nat) : Int), .slice vo q vc] 140)).heap.size = w.heap.size + 1 := by simp
 obtain ⟨w1, hw1⟩ : ∃ w1, w1 = w.alloc (.cells #[.int .i64 (t.page : Int), .int .i64 ((n : Nat) : Int), .slice vo q vc] 140) := ⟨_, rfl⟩
 rw [← hw1] at hal hb hs1
 obtain ⟨lo, lc, rfl, hlc1, hlc2⟩ := hl0.form
 obtain ⟨nl, hnl⟩ : ∃ nl, nl = ss0.length := ⟨_, rfl⟩
 rw [← hnl] at hlc1 hl0 hX0 hvb hss ⊢
 obtain ⟨J, hJ⟩ : ∃ J : Act → World → Prop, J = (fun a' w' => ∃ u1 u2 u4 u5 u7 u10 u11 u12 u13 u14 u15 u16 u17 u18 u19 u20 u21 u22 u23 u24 u25 u26 u27 u28 u29 u30 u31 u32 u33 u34 u35 u36 u37 u38 u39 u40 : Value, a' = { tmps := #[.pointer (some ⟨p, 0, none⟩), u1, u2, .string key, u4, u5, .pointer (some ⟨w.heap.size, 0, none⟩), u7, .slice none 0 0, .int .i64 0, u10, u11, u12, u13, u14, u15, u16, u17, u18, u19, u20, u21, u22, u23, u24, u25, u26, u27, u28, u29, u30, u31, u32, u33, u34, u35, u36, u37, u38, u39, u40], defers := [] } ∧ ∃ (j : Nat) (u : BT Ent j) (P : BT.Path Ent j n) (ss : List Stp) (uo : Option Addr) (un uc : Nat) (ao : Option Addr) (an ac : Nat), u1 = .slice ao an ac ∧ an = ss.length ∧ an ≤ ac ∧ ac ≤ 9223372036854775807 ∧ an + j ≤ 40 ∧ j ≤ 20 ∧ P.plug u = t ∧ P.On (leK key) u ∧ BT.Root u ∧ Stored N (H.getD G) u ∧ un = (ents u).length ∧
  Blk w' w.heap.size #[.int .i64 (u.page : Int), .int .i64 ((j : Nat) : Int), .slice uo un uc] 140 ∧ Ens w' (.slice uo un uc) (ents u) ∧ (∀ k, (Value.slice uo un uc).ownBlock = some k → (S0 k ∨ (w.heap.size < k ∧ k < w'.heap.size)) ∧ u1.ownBlock ≠ some k) ∧
  Sts w' (fun k => S0 k ∨ (w.heap.size < k ∧ k < w'.heap.size)) u1 ss ∧ OnWay (P.app p0) u.page ss ∧ Moved (fun k => (Value.slice lo nl lc).ownBlock = some k ∨ k = w.heap.size) w1 w' ∧ (∀ k, u1.ownBlock = some k → (Value.slice lo nl lc).ownBlock = some k ∨ w1.heap.size ≤ k)) := ⟨_, rfl⟩
 have hsn : ∀ k, S0 k → k ≠ w.heap.size := fun k hk e => by have := hS0 k hk; omega
 have HPB := Lib.hid (h.take hal)
 have HW0 := Lib.hid h.below.size
 have HJ := Lib.hid hJ
 have HAL := Lib.hid hal
 have HB := Lib.hid hb
 have HS1 := Lib.hid hs1
 have HL0 := Lib.hid (Sts.more (hl0.below hal) (S' := fun k => S0 k ∨ (w.heap.size < k ∧ k < w1.heap.size)) (fun k hk _ => .inl hk))
 have HV0 := Lib.hid (hv0.below hal)
 have HVB := Lib.hid hvb
 have HST := Lib.hid hs
 have HR := Lib.hid hr
 have HSO := Lib.hid hso
 have HOW := Lib.hid how
 have HX0 := Lib.hid hX0
 have HSN := Lib.hid hsn
 have HS0 := Lib.hid hS0
 have HNL := Lib.hid hnl
 have HQ := Lib.hid hq
 have HLO := Lib.hid hl0.lt
 have HW1 := Lib.hid (show w1 = w.alloc (.cells #[.int .i64 (t.page : Int), .int .i64 ((n : Nat) : Int), .slice vo q vc] 140) from hw1)
 unfold nodeV
 clear h hs hr hso hl0 hS0 how hX0 hv0 hvb hq hnl hal hb hs1 hw1 hJ hsn
 go_enter Tryz.func119, Tryz.ntmps119
 go_wp2_with fail
 rw [← HW1.out]
 refine wp_scope_again 0 J (fun _ w' => levAt w.heap.size w') rfl ?_ ?_
 ·rintro a wr hj
  rw [HJ.out] at hj
  obtain ⟨u1, u2, u4, u5, u7, u10, u11, u12, u13, u14, u15, u16, u17, u18, u19, u20, u21, u22, u23, u24, u25, u26, u27, u28, u29, u30, u31, u32, u33, u34, u35, u36, u37, u38, u39, u40, rfl, ⟨j, u, P, ss, uo, un, uc, ao, an, ac, rfl, han, hac, hac2, hanj, hj20, hplug, hon, hroot, hst, hun, hbk, hes, hub, hsts, how, hm, hob⟩⟩ := hj
  have hpb := HPB.out.mv hm (fun k hk => by
   rcases hk with hk | hk
   ·exact ⟨.inl (HX0.out k hk).1, (HX0.out k hk).2⟩
   ·rw [hk]; exact ⟨.inr ⟨Nat.le_refl _, HB.out.lt⟩, HW0.out⟩)
  have c0 : wr.cell? ⟨w.heap.size, 0, none⟩ = some (.int .i64 (u.page : Int)) := by rw [hbk.cell]; rfl
  have c1 : wr.cell? ⟨w.heap.size, 1, none⟩ = some (.int .i64 ((j : Nat) : Int)) := by rw [hbk.cell]; rfl
  have c2 : wr.cell? ⟨w.heap.size, 2, none⟩ = some (.slice uo un uc) := by rw [hbk.cell]; rfl
  have hlev : levAt w.heap.size wr = j := by unfold levAt; rw [c1]; simp
  have hfew := hst.node.few
  have hpl : Calls Tryz.prog 147 #[.pointer (some ⟨p, 0, none⟩), nodeV (u.page : Int) ((j : Nat) : Int) (.slice uo un uc), .string key] wr fun e w' => ∃ i : Nat, e = .returned (.tuple #[.int .i64 i, .int .i64 0]) ∧ Chosen key u i ∧ Below wr.heap.size wr w' := by
   cases j with
   | zero => exact place_leaf _ _ _ _ key wr hes (by omega)
   | succ j =>
    have hR : BT.Proper u := hroot
    have h1 : (2 : Nat) ≤ (BT.kids u).length := hR.1
    have h2 : ∀ k ∈ BT.kids u, k.Proper := hR.2
    have hl : (ents u).length = (BT.kids u).length := List.length_map ..
    refine place_node hpb (ks := BT.kids u) hst.kids h2 ?_ _ _ key hes (by omega) (by omega) (by omega) _ (by omega)
    have h3 := HSO.out
    rw [← hplug, P.flat, List.pairwise_append, List.pairwise_append] at h3
    exact h3.2.1.1
  obtain ⟨upg, hupg⟩ : ∃ upg : Int, upg = (u.page : Int) := ⟨_, rfl⟩
  rw [← hupg] at c0 hpl hbk
  have HPL := Lib.hid hpl
  have HBK := Lib.hid hbk
  have HES := Lib.hid hes
  have HUB := Lib.hid hub
  have HSTS := Lib.hid hsts
  have HOWW := Lib.hid how
  have HM := Lib.hid hm
  have HOB := Lib.hid hob
  have HPBR := Lib.hid hpb
  have HLEV := Lib.hid hlev
  have HUN := Lib.hid hun
  have HAN := Lib.hid han
  have HUPG := Lib.hid hupg
  have HPLUG := Lib.hid hplug
  have HON := Lib.hid hon
  have HRT := Lib.hid hroot
  have HSTR := Lib.hid hst
  unfold nodeV at HPL
  clear hpl hbk hes hub hsts how hm hob hpb hlev hun han hupg hplug hon hroot hst hfew
  go_wp2_with fail
  refine HPL.out.mono ?_
  rintro en w2 ⟨i, rfl, hch, hb2⟩
  have hal3 : Below w2.heap.size w2 (w2.alloc (.cells #[.int .i64 upg, .int .i64 j, .slice uo un uc, .int .i64 i] 142)) := (Below.refl _ w2).alloc (Nat.le_refl _) _
  have hb23 : Below wr.heap.size wr (w2.alloc (.cells #[.int .i64 upg, .int .i64 j, .slice uo un uc, .int .i64 i] 142)) := hb2.trans (hal3.mono hb2.size)
  have hs3 : (w2.alloc (.cells #[.int .i64 upg, .int .i64 j, .slice uo un uc, .int .i64 i] 142)).heap.size = w2.heap.size + 1 := by simp
  have hbk2 := HBK.out.moved (Moved.of_below hb2 (fun _ => False)) (fun h => h)
  have e0 : w2.cell? ⟨w.heap.size, 0, none⟩ = some (.int .i64 upg) := by rw [hbk2.cell]; rfl
  have e1 : w2.cell? ⟨w.heap.size, 1, none⟩ = some (.int .i64 ((j : Nat) : Int)) := by rw [hbk2.cell]; rfl
  have e2 : w2.cell? ⟨w.heap.size, 2, none⟩ = some (.slice uo un uc) := by rw [hbk2.cell]; rfl
  have HBK3 := Lib.hid (HBK.out.moved (Moved.of_below hb23 (fun _ => False)) (fun h => h))
  have HSTS3 := Lib.hid (HSTS.out.below hb23)
  have HES3 := Lib.hid (HES.out.below hb23)
  have HUB3 := Lib.hid (show ∀ k, (Value.slice uo un uc).ownBlock = some k → (S0 k ∨ (w.heap.size < k ∧ k < wr.heap.size)) ∧ k < (w2.alloc (.cells #[.int .i64 upg, .int .i64 j, .slice uo un uc, .int .i64 i] 142)).heap.size ∧ (Value.slice ao an ac).ownBlock ≠ some k from fun k hk => by
   obtain ⟨h1, h2⟩ := HUB.out k hk
   refine ⟨h1, ?_, h2⟩
   have := hb23.size
   rcases h1 with h1 | h1
   ·have := HS0.out k h1
    have := HAL.out.size
    have := HM.out.size
    omega
   ·omega)
  have HBS := Lib.hid (show Blk (w2.alloc (.cells #[.int .i64 upg, .int .i64 j, .slice uo un uc, .int .i64 i] 142)) w2.heap.size (Stp.cells ⟨upg, (j : Int), .slice uo un uc, ents u, i⟩).toArray 142 from Blk.new w2 #[.int .i64 upg, .int .i64 j, .slice uo un uc, .int .i64 i] 142)
  have HB23 := Lib.hid hb23
  have HCH := Lib.hid hch
  have hn1 : an + 1 = ss.length + 1 := by rw [HAN.out]
  have HN1 := Lib.hid hn1
  have HN2 := Lib.hid (show an + 1 ≤ 1000000 by omega)
  have HSLT := Lib.hid (show wr.heap.size ≤ w2.heap.size ∧ (w2.alloc (.cells #[.int .i64 upg, .int .i64 j, .slice uo un uc, .int .i64 i] 142)).heap.size = w2.heap.size + 1 from ⟨hb2.size, hs3⟩)
  have HFAR := Lib.hid (show (Value.slice ao an ac).ownBlock ≠ some w.heap.size from fun e => by
   rcases HOB.out _ e with e | e
   ·have := HLO.out _ e; omega
   ·have := HS1.out; omega)
  have HFB := Lib.hid (show ∀ w5 : World, (w2.alloc (.cells #[.int .i64 upg, .int .i64 j, .slice uo un uc, .int .i64 i] 142)).grownBy w5 (Value.slice ao an ac).ownBlock → Blk w5 w.heap.size #[.int .i64 upg, .int .i64 ((j : Nat) : Int), .slice uo un uc] 140 ∧ Moved (fun q => (Value.slice ao an ac).ownBlock = some q) (w2.alloc (.cells #[.int .i64 upg, .int .i64 j, .slice uo un uc, .int .i64 i] 142)) w5 ∧
   w5.cell? ⟨w.heap.size, 0, none⟩ = some (.int .i64 upg) ∧ w5.cell? ⟨w.heap.size, 1, none⟩ = some (.int .i64 ((j : Nat) : Int)) ∧ w5.cell? ⟨w.heap.size, 2, none⟩ = some (.slice uo un uc) from fun w5 hg => by
   have hm : Moved (fun q => (Value.slice ao an ac).ownBlock = some q) (w2.alloc (.cells #[.int .i64 upg, .int .i64 j, .slice uo un uc, .int .i64 i] 142)) w5 := ⟨hg.os, hg.tape, hg.output, hg.size, fun q hq hn => hg.block q hq (fun e => hn e.symm)⟩
   have hb := HBK3.out.moved hm HFAR.out
   exact ⟨hb, hm, by rw [hb.cell]; rfl, by rw [hb.cell]; rfl, by rw [hb.cell]; rfl⟩)
  have HKID := Lib.hid (down_kid (by have := HUPG.out; exact this) (by have := HRT.out; exact this) HSTR.out HPLUG.out HON.out p0 (.slice uo un uc) HCH.out hj20)
  clear hch hb2 hal3 hb23 hs3 hbk2 HPL c0 c1 c2 hn1
  by_cases hj0 : j = 0
  ·have HZ0 := Lib.hid (show (((j : Nat) : Int) == 0) = true by simp; omega)
   have HJ0 := Lib.hid hj0
   clear hj0
   go_wp2_with (at_builtin; refine wpList_append_step rfl _ _ rfl (fun k => S0 k ∨ (w.heap.size < k ∧ k < wr.heap.size)) (.slice ao an ac) ss rfl HSTS3.out w2.heap.size rfl ⟨upg, (j : Int), .slice uo un uc, ents u, i⟩ HBS.out HES3.out HUB3.out (an + 1) HN1.out HN2.out ?_; intro g5 cap5 w5 hsts5 hx5 hy5 hg5 ho5; obtain ⟨fbk, fm5, f0, f1, f2⟩ := HFB.out w5 hg5; have z0 := HZ0.out)
   try simp only [Exit.jump]
   go_ret2
   have hw3 := HSLT.out
   have hw1 := HAL.out.size
   have hwr := HM.out.size
   have hmA := (HM.out.trans (Moved.of_below HB23.out (fun _ => False)) (fun j h => h.elim)).trans fm5 (fun k hk => by
    rcases HOB.out k hk with e | e
    ·exact .inl (.inl e)
    ·exact .inr e)
   obtain ⟨f, P', e1, e2, e3, e4, e5⟩ := (HKID.out).1 HJ0.out
   refine ⟨P', f, i, ss ++ [⟨upg, (j : Int), .slice uo un uc, ents u, i⟩], .slice (some ⟨g5, 0, none⟩) (an + 1) cap5, rfl, e1, e2, e3, ⟨⟨ss, _, rfl, e4.1, by have := HJ0.out; show (j : Int) = 0; omega, e4.2, rfl, e5 ss HOWW.out⟩⟩, ?_, ?_⟩
   ·refine Sts.more hsts5 (fun k hk hlt => ?_)
    rcases hk with (hk | hk) | hk
    ·exact .inl hk
    ·exact .inr ⟨by omega, hlt⟩
    ·exact .inr ⟨by omega, hlt⟩
   ·exact (Moved.of_below HAL.out (fun k => (Value.slice lo nl lc).ownBlock = some k)).trans hmA (fun k hk => by
     rcases hk with e | e
     ·exact .inl e
     ·exact .inr (by rw [e]; exact Nat.le_refl _))
  ·have HZ0 := Lib.hid (show (((j : Nat) : Int) == 0) = false by simp; omega)
   obtain ⟨jk, kk, Pk, q1, q2, q3, q4, q5, q6, q7, q8⟩ := HKID.out.2 hj0
   have Q := Lib.hid (And.intro q3 (And.intro q4 (And.intro q5 (And.intro q6 (And.intro q7 q8)))))
   have Q1 := Lib.hid q1
   clear q1 q3 q4 q5 q6 q7 q8
   go_wp2_with (at_builtin; refine wpList_append_step rfl _ _ rfl (fun k => S0 k ∨ (w.heap.size < k ∧ k < wr.heap.size)) (.slice ao an ac) ss rfl HSTS3.out w2.heap.size rfl ⟨upg, (j : Int), .slice uo un uc, ents u, i⟩ HBS.out HES3.out HUB3.out (an + 1) HN1.out HN2.out ?_; intro g5 cap5 w5 hsts5 hx5 hy5 hg5 ho5; obtain ⟨fbk, fm5, f0, f1, f2⟩ := HFB.out w5 hg5; have z0 := HZ0.out)
   obtain ⟨q3, q4, q5, q6, q7, q8⟩ := Q.out
   have hw3 := HSLT.out
   have hw1 := HAL.out.size
   have hwr := HM.out.size
   have hs5 := fm5.size
   have hmA := (HM.out.trans (Moved.of_below HB23.out (fun _ => False)) (fun j h => h.elim)).trans fm5 (fun k hk => by
    rcases HOB.out k hk with e | e
    ·exact .inl (.inl e)
    ·exact .inr e)
   have hpb5 := HPB.out.mv hmA (fun k hk => by
    rcases hk with hk | hk
    ·exact ⟨.inl (HX0.out k hk).1, (HX0.out k hk).2⟩
    ·rw [hk]; exact ⟨.inr ⟨Nat.le_refl _, HB.out.lt⟩, HW0.out⟩)
   have hes5 : Ens w5 (.slice uo un uc) (ents u) := HES3.out.moved fm5 (fun _ k hk e => (HUB3.out k hk).2.2 e)
   have hkd := kid_any hpb5 q3 q4 upg _ (ents u) i hes5 q7 (by omega) ((j : Nat) : Int) Q1.out
   unfold nodeV at hkd
   have HKD := Lib.hid hkd
   have HMA := Lib.hid hmA
   have HX5 := Lib.hid (And.intro hx5 hy5)
   have HO5 := Lib.hid ho5
   have HSTS5 := Lib.hid hsts5
   have HFBK := Lib.hid fbk
   have HSZ := Lib.hid (And.intro hw3 (And.intro hw1 (And.intro hwr hs5)))
   clear hw3 hw1 hwr hs5 hmA hpb5 hes5 hkd hx5 hy5 ho5 hsts5 fbk fm5 hg5 q3 q4 q5 q6 q7 q8
   refine HKD.out.mono ?_
   rintro en w6 ⟨v6, rfl, ho6, hb6⟩
   obtain ⟨vo6, vc6, rfl, hv6, hv6'⟩ := ho6.form
   obtain ⟨lk, hlk⟩ : ∃ lk, lk = (ents kk).length := ⟨_, rfl⟩
   rw [← hlk] at ho6 hv6 ⊢
   have hbk6 := HFBK.out.moved (Moved.of_below hb6 (fun _ => False)) (fun h => h)
   have g0 := hbk6.frozen 0
   have g1 := hbk6.frozen 1
   have g2 := hbk6.frozen 2
   have k0 : w6.cell? ⟨w.heap.size, 0, none⟩ = some (.int .i64 upg) := by rw [hbk6.cell]; rfl
   have k1 : w6.cell? ⟨w.heap.size, 1, none⟩ = some (.int .i64 ((j : Nat) : Int)) := by rw [hbk6.cell]; rfl
   have k2 : w6.cell? ⟨w.heap.size, 2, none⟩ = some (.slice uo un uc) := by rw [hbk6.cell]; rfl
   have HBK6 := Lib.hid hbk6
   have HO6 := Lib.hid ho6
   have HB6 := Lib.hid hb6
   have HLK := Lib.hid hlk
   clear hbk6 ho6 hb6 hlk HKD f0 f1 f2
   go_wp2_with fail
   go_step3
   obtain ⟨q3, q4, q5, q6, q7, q8⟩ := Q.out
   obtain ⟨hw3, hw1, hwr, hs5⟩ := HSZ.out
   have hbf := ((HBK6.out.set 0 (.int .i64 (kk.page : Int))).set 1 (.int .i64 ((jk : Nat) : Int))).set 2 (.slice vo6 lk vc6)
   have hms := (((Moved.refl (· = w.heap.size) w6).setCell ⟨w.heap.size, 0, none⟩ (.int .i64 (kk.page : Int)) (.inl rfl)).setCell ⟨w.heap.size, 1, none⟩ (.int .i64 ((jk : Nat) : Int)) (.inl rfl)).setCell ⟨w.heap.size, 2, none⟩ (.slice vo6 lk vc6) (.inl rfl)
   obtain ⟨w7, hw7⟩ : ∃ w7, w7 = ((w6.setCell ⟨w.heap.size, 0, none⟩ (.int .i64 (kk.page : Int))).setCell ⟨w.heap.size, 1, none⟩ (.int .i64 ((jk : Nat) : Int))).setCell ⟨w.heap.size, 2, none⟩ (.slice vo6 lk vc6) := ⟨_, rfl⟩
   rw [← hw7] at hbf hms ⊢
   have hs6 := HB6.out.size
   have hs7 := hms.size
   have hl6 := HO6.out.lt
   have hl5 := HSTS5.out.lt
   have hm57 : Moved (fun k => k = w.heap.size) w5 w7 := (Moved.of_below HB6.out (fun k => k = w.heap.size)).trans hms (fun k hk => .inl hk)
   refine ⟨rfl, ?_, ?_⟩
   ·rw [HJ.out]
    refine ⟨_, _, _, _, _, _, _, _, _, _, _, _, _, _, _, _, _, _, _, _, _, _, _, _, _, _, _, _, _, _, _, _, _, _, _, _, rfl, ⟨jk, kk, Pk, ss ++ [⟨upg, (j : Int), .slice uo un uc, ents u, i⟩], vo6, lk, vc6, some ⟨g5, 0, none⟩, an + 1, cap5, rfl, by rw [List.length_append, ← HAN.out]; rfl, HX5.out.1, HX5.out.2, by omega, by omega, q5, q6, root_of_proper q4, q3, HLK.out, hbf, ?_, ?_, ?_, q8 ss HOWW.out, ?_, ?_⟩⟩
    ·exact HO6.out.ens.moved hms (fun _ k hk e => by have := (hl6 k hk).1; omega)
    ·intro k hk
     have h1 := hl6 k hk
     refine ⟨.inr ⟨by omega, by omega⟩, fun e => ?_⟩
     have := hl5 k e
     omega
    ·refine Sts.more (HSTS5.out.moved hm57 (fun k hk hlt e => ?_)) (fun k hk hlt => ?_)
     ·rcases hk with (hk | hk) | hk
      ·exact HSN.out k hk e
      ·omega
      ·omega
     ·rcases hk with (hk | hk) | hk
      ·exact .inl hk
      ·exact .inr ⟨hk.1, by omega⟩
      ·exact .inr ⟨by omega, by omega⟩
    ·exact HMA.out.trans hm57 (fun k hk => .inl (.inr hk))
    ·intro k hk
     have hgk : g5 = k := Option.some.inj hk
     rcases HO5.out with e | e
     ·exact HOB.out k (by rw [e, hgk])
     ·exact .inr (by omega)
   ·have h1 : levAt w.heap.size w7 = jk := by
     have c1 : w7.cell? ⟨w.heap.size, 1, none⟩ = some (.int .i64 ((jk : Nat) : Int)) := by rw [hbf.cell]; rfl
     unfold levAt; rw [c1]; simp
    have h2 := HLEV.out
    show levAt w.heap.size w7 < levAt w.heap.size wr
    rw [h1, h2]
    omega
 ·intro hpass
  go_wp2_with fail
  go_step3
  rename_i K hK
  refine hK _ _ (hpass _ _ ?_)
  rw [HJ.out]
  exact ⟨_, _, _, _, _, _, _, _, _, _, _, _, _, _, _, _, _, _, _, _, _, _, _, _, _, _, _, _, _, _, _, _, _, _, _, _, rfl, ⟨n, t, .top, ss0, vo, q, vc, lo, nl, lc, rfl, HNL.out, hlc1, hlc2, by omega, hn, rfl, trivial, HR.out, HST.out, HQ.out, HB.out, HV0.out, (fun k hk => ⟨.inl (HVB.out k hk).1, (HVB.out k hk).2⟩), HL0.out, HOW.out, Moved.refl _ _, (fun k hk => .inl hk)⟩⟩
end Go.Proofs.YtbpdapcmaioeiaaGreat
