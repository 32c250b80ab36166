/- Hl -/
import Derived.Test.YtpfjbcfnpfgidaaKHk
import Derived.Deep.LoopGhost
namespace Go.Proofs.Ytpfjbcfnpfgidaa
open Go.RowKit Go.Maps
set_option maxRecDepth 100000
set_option linter.unusedVariables false
theorem OwnN.last {w : World} {base : Nat} {v : Value} {l : List Int} {a : Int} (h : OwnN base w v (l ++ [a])) :
 ∃ q cap, v = .slice (some ⟨q, 0, none⟩) (l.length + 1) cap ∧ l.length + 1 ≤ cap ∧ cap ≤ maxLen ∧ w.cell? ⟨q, l.length, none⟩ = some (.int .i64 a) ∧ OwnN base w (.slice (some ⟨q, 0, none⟩) l.length cap) l := by
 obtain ⟨-, h1⟩ := h
 rcases h1 with ⟨-, h1⟩ | ⟨q, cap, cur, rfl, hb, hh, h2, h3, h4, h5⟩
 ·simp at h1
 ·have e : (l ++ [a]).length = l.length + 1 := by simp
  rw [e] at h2 h5 ⊢
  rw [Nat.mul_one] at h5
  unfold ints at h5
  rw [List.map_append] at h5
  refine ⟨q, cap, rfl, h2, h3, ?_, by simp [ints], .inr ⟨q, cap, cur, rfl, hb, hh, by omega, h3, h4, ?_⟩⟩
  ·rw [cell_of_row w q l.length cur _ (0, 0) hh]
   have : (cur.toList.take (l.length + 1))[l.length]? = some (.int .i64 a) := by rw [h5]; simp
   rw [List.getElem?_take] at this
   simpa using this
  ·rw [Nat.mul_one]
   have := congrArg (List.take l.length) h5
   rw [List.take_take, Nat.min_eq_left (by omega)] at this
   rw [this]
   simp [ints]
/-- The trees that are left, the last one next. -/
structure Forest (N : Nat) (H : Lg) (ss : List (BT.Some' Ent)) : Prop where
 stored : ∀ s ∈ ss, Stored N H s.t
 root : ∀ s ∈ ss, BT.Root s.t
 low : ∀ s ∈ ss, s.n ≤ 20
 nodup : (H.free ++ ss.flatMap BT.Some'.pages).Nodup
 range : ∀ q ∈ H.free ++ ss.flatMap BT.Some'.pages, 1 ≤ q ∧ q < N
 most : N ≤ 2000
def rest (ss : List (BT.Some' Ent)) : List Int := ss.map (fun s => (s.t.page : Int))
theorem InLg.forest {N : Nat} {H : Lg} {n : Nat} {t : BT Ent n} (h : InLg N H t) : Forest N H [⟨n, t⟩] := by
 have e : [(⟨n, t⟩ : BT.Some' Ent)].flatMap BT.Some'.pages = t.pages := by simp [BT.Some'.pages]
 refine ⟨fun s hs => ?_, fun s hs => ?_, fun s hs => ?_, by rw [e]; exact h.nodup, by rw [e]; exact h.range, h.most⟩
 ·obtain rfl := List.mem_singleton.1 hs
  exact h.stored
 ·obtain rfl := List.mem_singleton.1 hs
  exact h.root
 ·obtain rfl := List.mem_singleton.1 hs
  have := h.low
  show n ≤ 20
  omega
theorem proper_root : {n : Nat} → {t : BT Ent n} → t.Proper → BT.Root t
 | 0, _, _ => trivial
 | _ + 1, _, h => h
theorem sub_forest : {s : BT.Some' Ent} → {N : Nat} → {H : Lg} → Stored N H s.t → BT.Root s.t → s.n ≤ 20 → ∀ k ∈ s.sub, Stored N H k.t ∧ BT.Root k.t ∧ k.n ≤ 20
 | ⟨0, _⟩, _, _, _, _, _, k, hk => by cases hk
 | ⟨n + 1, t⟩, N, H, h, hr, hn, k, hk => by
  obtain ⟨k', hk', rfl⟩ := List.mem_map.1 hk
  have hr' : BT.Proper (n := n + 1) t := hr
  have hn' : n + 1 ≤ 20 := hn
  exact ⟨h.kids k' hk', proper_root (hr'.2 k' hk'), by show n ≤ 20; omega⟩
theorem rest_append (a b : List (BT.Some' Ent)) : rest (a ++ b) = rest a ++ rest b := List.map_append ..
/-- The pages of the kids are what the node's entries say. -/
theorem rest_sub : (s : BT.Some' Ent) → rest s.sub = ((ents s.t).take (if s.n = 0 then 0 else (ents s.t).length)).map Ent.kid
 | ⟨0, _⟩ => by simp [rest, BT.Some'.sub]
 | ⟨n + 1, t⟩ => by
  have e : ents (n := n + 1) t = (BT.kids t).map (fun k => kidE (k.page : Int)) := rfl
  show rest ((BT.kids t).map (fun k => (⟨n, k⟩ : BT.Some' Ent))) = _
  rw [if_neg (by show ¬ n + 1 = 0; omega), List.take_length, e]
  simp [rest, kidE]
/-- One step of Drop. -/
theorem Forest.drop {N : Nat} {H : Lg} {ss : List (BT.Some' Ent)} {s : BT.Some' Ent} (h : Forest N H (ss ++ [s])) :
 lgDrop N (s.t.page : Int) (some H) = (0, some { H with free := s.t.page :: H.free }) ∧ Forest N { H with free := s.t.page :: H.free } (ss ++ s.sub) ∧
 (s.t.page :: H.free ++ (ss ++ s.sub).flatMap BT.Some'.pages).Perm (H.free ++ (ss ++ [s]).flatMap BT.Some'.pages) ∧ ((ss ++ [s]).flatMap BT.Some'.pages).length = ((ss ++ s.sub).flatMap BT.Some'.pages).length + 1 := by
 have hs : s ∈ ss ++ [s] := by simp
 obtain ⟨p1, p2⟩ := BT.drop_step (rest := ss) (s := s) (f := H.free)
 have hst := h.stored s hs
 have hus := hst.used s.t.page (by rw [show s.t.pages = s.pages from rfl, s.sub_pages]; simp)
 have hnd : (s.t.page :: H.free ++ (ss ++ s.sub).flatMap BT.Some'.pages).Nodup := p1.nodup_iff.2 h.nodup
 have hfr : ∀ k : BT.Some' Ent, k ∈ ss ++ s.sub → Stored N H k.t → Stored N { H with free := s.t.page :: H.free } k.t := fun k hk hk' => hk'.frame (fun q hq => ⟨rfl, fun hm => (List.nodup_append.1 hnd).2.2 q hm q (List.mem_flatMap.2 ⟨k, hk, hq⟩) rfl⟩)
 refine ⟨?_, ⟨fun k hk => ?_, fun k hk => ?_, fun k hk => ?_, hnd, fun q hq => h.range q (p1.mem_iff.1 hq), h.most⟩, p1, p2⟩
 ·rw [lgDrop_some, if_pos ⟨by omega, by omega, by simpa using hus.2.2⟩]; rfl
 ·refine hfr k hk ?_
  rcases List.mem_append.1 hk with hk | hk
  ·exact h.stored k (List.mem_append_left _ hk)
  ·exact (sub_forest hst (h.root s hs) (h.low s hs) k hk).1
 ·rcases List.mem_append.1 hk with hk | hk
  ·exact h.root k (List.mem_append_left _ hk)
  ·exact (sub_forest hst (h.root s hs) (h.low s hs) k hk).2.1
 ·rcases List.mem_append.1 hk with hk | hk
  ·exact h.low k (List.mem_append_left _ hk)
  ·exact (sub_forest hst (h.root s hs) (h.low s hs) k hk).2.2
end Go.Proofs.Ytpfjbcfnpfgidaa
namespace Go.Proofs.Ytpfjbcfnpfgidaa
open Go.RowKit Go.Maps
set_option maxRecDepth 100000
set_option linter.unusedVariables false
/-- append(left, x) of one number. -/
theorem wpList_append_num {w : World} {ops : Array Oper} {rest : List Oper} {o : Oper} {a : Act} {Q : Exit → Act → World → Prop} (hgd : o.guard = none) (s x : Operand)
 (ho : o.op = .call { callee := .builtin .append, args := #[s, x], argTypes := #[42, 42] })
 (base : Nat) (hbase : base ≤ w.heap.size) (v : Value) (l : List Int) (hs : a.eval s = v) (hown : OwnN base w v l) (g0 : Nat) (hx : a.eval x = .slice (some ⟨g0, 0, none⟩) 1 1) (z : Int) (hg : w.cell? ⟨g0, 0, none⟩ = some (.int .i64 z)) (n : Nat) (hn : n = l.length + 1) (hl : n ≤ 1000000)
 (h : ∀ g cap w', OwnN base w' (.slice (some ⟨g, 0, none⟩) n cap) (l ++ [z]) → n ≤ cap → cap ≤ 9223372036854775807 → w.grownBy w' v.ownBlock → (v.ownBlock = some g ∨ g = w.heap.size) → wpList Try.prog ops Q rest (a.put o.dst (.slice (some ⟨g, 0, none⟩) n cap)) w') : wpList Try.prog ops Q (o :: rest) a w := by
 subst hn
 refine wpList_append_ints hgd s x ho base v l.length (ints l) hs hown ⟨g0, 0, none⟩ 1 1 [z] hx rfl ?_ (by decide) (by omega) hbase ?_
 ·intro j u hu
  cases j with
  | zero => simp [ints] at hu; subst hu; rw [Addr.add_lit]; exact hg
  | succ j => simp [ints] at hu
 ·intro g cap w' h1 h2 h3
  have h1' : OwnN base w' (.slice (some ⟨g, 0, none⟩) (l.length + 1) cap) (l ++ [z]) := by
   unfold OwnN
   rw [show (l ++ [z]).length = l.length + 1 by simp, show ints (l ++ [z]) = ints l ++ ints [z] by simp [ints]]
   exact h1
  obtain ⟨so, cp, e, k1, k2⟩ := h1'.form
  simp only [Value.slice.injEq] at e
  obtain ⟨-, -, rfl⟩ := e
  exact h g cap w' h1' (by simpa using k1) k2 h2 h3
/-- What Drop's loop keeps, with k pages to go. -/
structure DropSt (w0 w : World) (X : Nat → Prop) (r p N M c : Nat) (G H : Lg) (ps : List Nat) (b k : Nat) (v6 : Value) (wr : World) (ss : List (BT.Some' Ent)) (H1 : Lg) (F : Nat → Prop) : Prop where
 forest : Forest N H1 ss
 perm : (H1.free ++ ss.flatMap BT.Some'.pages).Perm (H.free ++ ps)
 page : H1.page = H.page
 root : H1.root = H.root
 num : k = (ss.flatMap BT.Some'.pages).length
 few : k ≤ ps.length
 pb : Pb w0 wr (fun j => X j ∨ F j) r p N M (c + (ps.length - k)) G (some H1)
 mx : Mx w0 X w wr
 mine : ∀ j, F j → b ≤ j ∧ j < wr.heap.size
 cell : F b
 own : OwnN (b + 1) wr v6 (rest ss)
 row : ∀ q, v6.ownBlock = some q → F q
theorem forest_len : (ss : List (BT.Some' Ent)) → ss.length ≤ (ss.flatMap BT.Some'.pages).length
 | [] => Nat.le_refl _
 | s :: ss => by
  have := forest_len ss
  rw [List.flatMap_cons, List.length_append, s.sub_pages, List.length_cons, List.length_cons]
  omega
set_option maxHeartbeats 4000000 in
theorem drop_tree {w0 w : World} {X : Nat → Prop} {r p N M c : Nat} {G H : Lg} (h : Pb w0 w X r p N M c G (some H)) {n : Nat} {t : BT Ent n} (hi : InLg N H t) (hc : c + 3000 < 500000) :
 Calls Try.prog 19 #[.pointer (some ⟨p, 0, none⟩), .int .i64 (t.page : Int)] w fun e w' => e = .returned (.int .i64 0) ∧ ∃ H' : Lg, Pb w0 w' X r p N M (c + t.pages.length) G (some H') ∧ Mx w0 X w w' ∧ (H'.free).Perm (H.free ++ t.pages) ∧ H'.page = H.page ∧ H'.root = H.root := by
 have hpg : t.pages.length ≤ 2000 := by
  have h1 := nodup_length (N := N) (List.nodup_append.1 hi.nodup).2.1 (fun q hq => (hi.range q (List.mem_append_right _ hq)).2)
  have := hi.most
  omega
 have hfo := hi.forest
 obtain ⟨pg, hpg'⟩ : ∃ pg : Int, pg = (t.page : Int) := ⟨_, rfl⟩
 have hre : rest [(⟨n, t⟩ : BT.Some' Ent)] = [pg] := by rw [hpg']; rfl
 have hfp : [(⟨n, t⟩ : BT.Some' Ent)].flatMap BT.Some'.pages = t.pages := by simp [BT.Some'.pages]
 rw [← hpg']
 obtain ⟨ps, hps⟩ : ∃ ps, ps = t.pages := ⟨_, rfl⟩
 rw [← hps] at hpg hfp ⊢
 have hal0 : Below w.heap.size w (w.alloc (.cells #[.int .i64 0, .int .i64 0, .slice none 0 0] 62)) := (Below.refl _ w).alloc (Nat.le_refl _) _
 have hb0 := Blk.new w #[.int .i64 0, .int .i64 0, .slice none 0 0] 62
 have hs0 : (w.alloc (.cells #[.int .i64 0, .int .i64 0, .slice none 0 0] 62)).heap.size = w.heap.size + 1 := by simp
 obtain ⟨wa, hwa⟩ : ∃ wa, wa = w.alloc (.cells #[.int .i64 0, .int .i64 0, .slice none 0 0] 62) := ⟨_, rfl⟩
 rw [← hwa] at hal0 hb0 hs0
 have hal1 : Below wa.heap.size wa (wa.alloc (.cells #[.int .i64 pg] 3)) := (Below.refl _ wa).alloc (Nat.le_refl _) _
 have hbr := Blk.new wa #[.int .i64 pg] 3
 have hown : OwnN (w.heap.size + 1) (wa.alloc (.cells #[.int .i64 pg] 3)) (.slice (some ⟨w.heap.size + 1, 0, none⟩) 1 1) [pg] := by
  have := World.ownsRow_lit (base := w.heap.size + 1) (e := 3) (size := 1) wa #[.int .i64 pg] 1 (by omega) (by simp [maxLen]) rfl
  rw [hs0] at this
  exact this
 rw [hs0] at hbr
 obtain ⟨w1, hw1⟩ : ∃ w1, w1 = wa.alloc (.cells #[.int .i64 pg] 3) := ⟨_, rfl⟩
 rw [← hw1] at hal1 hbr hown
 have hal : Below w.heap.size w w1 := hal0.trans (hal1.mono hal0.size)
 have hb : Blk w1 w.heap.size _ _ := hb0.moved (Moved.of_below hal1 (fun _ => False)) (fun h => h)
 have HW1 := Lib.hid (show w1 = (w.alloc (.cells #[.int .i64 0, .int .i64 0, .slice none 0 0] 62)).alloc (.cells #[.int .i64 pg] 3) by rw [hw1, hwa])
 have hcl := closed_no (h.take hal)
 have HCL := Lib.hid hcl
 have HAL := Lib.hid hal
 have HB := Lib.hid hb
 have HOWN := Lib.hid hown
 have HBR := Lib.hid hbr
 have HFO := Lib.hid hfo
 have HRE := Lib.hid hre
 have HFP := Lib.hid hfp
 have HC := Lib.hid hc
 have HPG := Lib.hid hpg
 have HW0 := Lib.hid h.below.size
 clear h hi hpg hfo hre hfp hps hpg' hal0 hb0 hs0 hal1 hbr hown hw1 hwa hal hb hcl hc
 go_enter Try.func19, Try.ntmps19
 go_wp2_with fail
 go_step3
 go_wp2_with fail
 rw [← HW1.out]
 refine HCL.out.mono ?_
 rintro en w2 ⟨rfl, h2, hm2⟩
 have H2 := Lib.hid h2
 have HM2 := Lib.hid hm2
 clear h2 hm2 HCL
 go_wp2_with fail
 go_loopg [6, 7, 8, 10] ps.length (fun k v6 v7 _ _ wr => ∃ (ss : List (BT.Some' Ent)) (H1 : Lg) (F : Nat → Prop) (z0 z1 z2 : Value) (m c6 : Nat) (a6 : Option Addr), v7 = .int .i64 0 ∧ v6 = .slice a6 m c6 ∧ m = ss.length ∧ m ≤ c6 ∧ Blk wr w.heap.size #[z0, z1, z2] 62 ∧ DropSt w0 w X r p N M c G H ps w.heap.size k v6 wr ss H1 F)
 case atStart =>
  have hlt := HAL.out.size
  have hl2 := HM2.out.size
  have hl1 := HB.out.lt
  have hl3 := HBR.out.lt
  refine ⟨[⟨n, t⟩], H, (fun j => w.heap.size ≤ j ∧ j < w1.heap.size), _, _, _, 1, 1, some ⟨w.heap.size + 1, 0, none⟩, rfl, rfl, rfl, Nat.le_refl _, HB.out.moved HM2.out (fun h => h.2 (.inr ⟨Nat.le_refl _, hl1⟩)), HFO.out, by rw [HFP.out], rfl, rfl, by rw [HFP.out], Nat.le_refl _, ?_, ?_, fun j hj => ⟨hj.1, by omega⟩, ⟨Nat.le_refl _, hl1⟩, ?_, fun q hq => ?_⟩
  ·rw [Nat.sub_self, Nat.add_zero]; exact H2.out
  ·exact (Mx.of HAL.out).trans (HM2.out.mono (fun j hj => ⟨hj.1, fun e => hj.2 (.inl e)⟩))
  ·rw [HRE.out]
   exact HOWN.out.moved HM2.out (fun q hq e => e.2 (.inr (by have := HOWN.out.lt q hq; omega)))
  ·obtain rfl : w.heap.size + 1 = q := Option.some.inj hq
   exact ⟨by omega, hl3⟩
 case round =>
  obtain ⟨ss, H1, F, z0, z1, z2, m, c6, a6, rfl, rfl, hm, hm6, hbk, hst⟩ := hrel
  clear H2 HM2 HB HOWN HBR HFO HRE HFP
  cases m with
  | zero =>
   obtain rfl : ss = [] := List.length_eq_zero_iff.1 hm.symm
   have HST := Lib.hid hst
   clear hst hm hm6 hbk
   go_wp2_with fail
   go_step3
   go_wp2_with fail
   repeat rw [Exit.noGoto_ret]
   go_ret
   have e : ([] : List (BT.Some' Ent)).flatMap BT.Some'.pages = [] := rfl
   have hk : gk = 0 := HST.out.num
   have hpb := HST.out.pb
   rw [hk, Nat.sub_zero] at hpb
   have hpm := HST.out.perm
   rw [e, List.append_nil] at hpm
   exact ⟨rfl, H1, hpb.less (fun k hk => .inl hk), HST.out.mx, hpm, HST.out.page, HST.out.root⟩
  | succ m =>
   obtain ⟨ss', s, rfl⟩ : ∃ ss' s, ss = ss' ++ [s] := by
    rcases List.eq_nil_or_concat ss with rfl | ⟨ss', s, e⟩
    ·simp at hm
    ·exact ⟨ss', s, by rw [e, List.concat_eq_append]⟩
   have hm' : m = ss'.length := by simpa using hm
   have hre : rest (ss' ++ [s]) = rest ss' ++ [(s.t.page : Int)] := by rw [rest_append]; rfl
   have hown := hst.own
   rw [hre] at hown
   obtain ⟨g, cp6, e6, hc1, hc2, hcell, hown'⟩ := hown.last
   have hrl : (rest ss').length = m := by rw [hm']; simp [rest]
   rw [hrl] at e6 hc1 hcell hown'
   simp only [Value.slice.injEq] at e6
   obtain ⟨rfl, -, rfl⟩ := e6
   have hmem : s ∈ ss' ++ [s] := by simp
   have hrd := read_node hst.pb (hst.forest.stored s hmem).node (root_reads (hst.forest.root s hmem))
   have hln := hst.forest.low s hmem
   obtain ⟨pq, hpq⟩ : ∃ pq : Int, pq = (s.t.page : Int) := ⟨_, rfl⟩
   rw [← hpq] at hcell hrd
   obtain ⟨nq, hnq⟩ : ∃ nq, nq = m + 1 := ⟨_, rfl⟩
   rw [← hnq] at hc1 ⊢
   have i1 : (nq : Int) - 1 = m := by omega
   have i2 : (m : Int) < nq := by omega
   have i3 : ¬ ((m : Int) < 0) := by omega
   have i4 : (0 : Int) < nq := by omega
   have i5 : m ≤ c6 := by omega
   have i6 : (m : Int) ≤ c6 := by omega
   have i7 : (nq : Int) ≤ 9223372036854775807 := by have : c6 ≤ 9223372036854775807 := hc2; omega
   have HRD := Lib.hid hrd
   have HST := Lib.hid hst
   have HBK := Lib.hid hbk
   have HOWN := Lib.hid hown'
   have HPQ := Lib.hid hpq
   have HM := Lib.hid hm'
   have HNQ := Lib.hid hnq
   have HLN := Lib.hid hln
   clear hst hbk hown' hown hre hrl hmem hrd hpq hm hm' hnq hm6 hln
   go_wp2_with fail
   refine HRD.out.mono ?_
   rintro en w3 ⟨v, rfl, ho, hb3⟩
   obtain ⟨ao, cp, rfl, hk1, hk2⟩ := ho.form
   obtain ⟨lq, hlq⟩ : ∃ lq, lq = (ents s.t).length := ⟨_, rfl⟩
   rw [← hlq] at ho hk1 ⊢
   have hbk3 := HBK.out.moved (Moved.of_below hb3 (fun _ => False)) (fun h => h)
   have q0 : w3.cell? ⟨w.heap.size, 0, none⟩ = some z0 := by rw [hbk3.cell]; rfl
   have q1 : w3.cell? ⟨w.heap.size, 1, none⟩ = some z1 := by rw [hbk3.cell]; rfl
   have q2 : w3.cell? ⟨w.heap.size, 2, none⟩ = some z2 := by rw [hbk3.cell]; rfl
   have g0 := hbk3.frozen 0
   have g1 := hbk3.frozen 1
   have g2 := hbk3.frozen 2
   have HBK3 := Lib.hid hbk3
   have HO := Lib.hid ho
   have HB3 := Lib.hid hb3
   have HLQ := Lib.hid hlq
   have HK1 := Lib.hid hk1
   unfold nodeV
   clear ho hb3 hbk3 hlq HRD hcell hk1 hk2
   go_wp2_with fail
   have hbf := ((HBK3.out.set 0 (.int .i64 pq)).set 1 (.int .i64 s.n)).set 2 (.slice ao lq cp)
   have hms := (((Moved.refl (· = w.heap.size) w3).setCell ⟨w.heap.size, 0, none⟩ (.int .i64 pq) (.inl rfl)).setCell ⟨w.heap.size, 1, none⟩ (.int .i64 s.n) (.inl rfl)).setCell ⟨w.heap.size, 2, none⟩ (.slice ao lq cp) (.inl rfl)
   obtain ⟨w4, hw4⟩ : ∃ w4, w4 = ((w3.setCell ⟨w.heap.size, 0, none⟩ (.int .i64 pq)).setCell ⟨w.heap.size, 1, none⟩ (.int .i64 s.n)).setCell ⟨w.heap.size, 2, none⟩ (.slice ao lq cp) := ⟨_, rfl⟩
   rw [← hw4] at hbf hms ⊢
   have hb34 : Moved (· = w.heap.size) wr w4 := (Moved.of_below HB3.out (· = w.heap.size)).trans hms (fun j hj => .inl hj)
   have ho4 := HO.out.moved hms (fun q hq e => by have := (HO.out.lt q hq).1; have := HBK.out.lt; omega)
   have hfew : lq ≤ 255 := by
    rw [HLQ.out]
    exact (HST.out.forest.stored s (by simp)).node.few
   obtain ⟨kq, hkq⟩ : ∃ kq : Nat, kq = if s.n = 0 then 0 else lq := ⟨_, rfl⟩
   have hkl : kq ≤ lq := by rw [hkq]; split <;> omega
   have HKI := Lib.hid (show ∀ w, Calls Try.prog 34 #[nodeV pq (s.n : Int) (.slice ao lq cp)] w fun e w' => e = .returned (.int .i64 (kq : Int)) ∧ Below w.heap.size w w' from fun w => (kids_any pq (s.n : Int) ao lq cp (by omega) w).mono (fun e w' h => ⟨by
    rw [h.1, hkq]
    by_cases e0 : s.n = 0
    ·rw [if_pos e0, if_pos (by omega)]; rfl
    ·rw [if_neg e0, if_neg (by omega)], h.2⟩))
   have c0 : w4.cell? ⟨w.heap.size, 0, none⟩ = some (.int .i64 pq) := by rw [hbf.cell]; rfl
   have c1 : w4.cell? ⟨w.heap.size, 1, none⟩ = some (.int .i64 s.n) := by rw [hbf.cell]; rfl
   have c2 : w4.cell? ⟨w.heap.size, 2, none⟩ = some (.slice ao lq cp) := by rw [hbf.cell]; rfl
   have E0 := Lib.hid c0
   have E1 := Lib.hid c1
   have E2 := Lib.hid c2
   have j1 : (kq : Int) ≤ cp := by have := HK1.out; omega
   have j2 : ¬ ((kq : Int) < 0) := by omega
   have j3 : (0 : Int) ≤ kq := by omega
   have j4 : kq ≤ cp := by have := HK1.out; omega
   have HBF := Lib.hid hbf
   have HB34 := Lib.hid hb34
   have HO4 := Lib.hid ho4
   have HFEW := Lib.hid hfew
   have HKQ := Lib.hid hkq
   have HKL := Lib.hid hkl
   unfold nodeV at HKI
   clear hbf hms hw4 hb34 ho4 hfew hkq hkl c0 c1 c2 q0 q1 q2 g0 g1 g2 HBK3
   refine wp_region_any (by kernel_rfl) ?_
   change wpAny _ _ _ _ _ _ _ (World.drew _)
   refine wpAny_of_held (S := fun (w' : World) => w'.cell? ⟨w.heap.size, 0, none⟩ = some (.int .i64 pq) ∧ w'.cell? ⟨w.heap.size, 1, none⟩ = some (.int .i64 s.n) ∧ w'.cell? ⟨w.heap.size, 2, none⟩ = some (.slice ao lq cp)) _ _ _ _ ?_
   have hS : (fun (w' : World) => w'.cell? ⟨w.heap.size, 0, none⟩ = some (.int .i64 pq) ∧ w'.cell? ⟨w.heap.size, 1, none⟩ = some (.int .i64 s.n) ∧ w'.cell? ⟨w.heap.size, 2, none⟩ = some (.slice ao lq cp)) _ := ⟨E0.out, E1.out, E2.out⟩
   try simp only [Act.put, List.setIfInBounds_toArray, List.set_cons_zero, List.set_cons_succ]
   refine wpAnyH_take (i := 0) (oi := ⟨some 39, _, _, _, _, _⟩) (v := ?_) rfl (by kernel_rfl) (by kernel_rfl) (by kernel_rfl) (fun _ _ _ h => h) (Or.inl ⟨by simp only [Region.wanted], ?_⟩) hS ?_
   rotate_left
   ·intro wz hSw
    clear hSw
    go_simp
    first | done | with_reducible rfl
   try simp only [Act.put, List.setIfInBounds_toArray, List.set_cons_zero, List.set_cons_succ]
   refine wpAnyH_take (i := 1) (oi := ⟨some 40, _, _, _, _, _⟩) (v := ?_) rfl (by kernel_rfl) (by kernel_rfl) (by kernel_rfl) (fun _ _ _ h => h) (Or.inl ⟨by simp only [Region.wanted], ?_⟩) hS ?_
   rotate_left
   ·intro wz hSw
    (try dsimp only at hSw)
    (try go_split_ands)
    go_simp
    first | done | with_reducible rfl
   try simp only [Act.put, List.setIfInBounds_toArray, List.set_cons_zero, List.set_cons_succ]
   refine wpAnyH_take (i := 2) (oi := ⟨some 41, _, _, _, _, _⟩) (v := ?_) rfl (by kernel_rfl) (by kernel_rfl) (by kernel_rfl) (fun _ _ _ h => h) (Or.inl ⟨by simp only [Region.wanted], ?_⟩) hS ?_
   rotate_left
   ·intro wz hSw
    (try dsimp only at hSw)
    (try go_split_ands)
    go_simp
    first | done | with_reducible rfl
   try simp only [Act.put, List.setIfInBounds_toArray, List.set_cons_zero, List.set_cons_succ]
   refine wpAnyH_take (i := 6) (oi := ⟨some 45, _, _, _, _, _⟩) (v := ?_) rfl (by kernel_rfl) (by kernel_rfl) (by kernel_rfl) (fun _ _ _ h => h) (Or.inl ⟨by simp only [Region.wanted], ?_⟩) hS ?_
   rotate_left
   ·intro wz hSw
    clear hSw
    go_simp
    first | done | with_reducible rfl
   try simp only [Act.put, List.setIfInBounds_toArray, List.set_cons_zero, List.set_cons_succ]
   refine wpAnyH_ready (rs := [3]) (by kernel_rfl) (by simp) ?_
   refine AllReadyH.cons (o := ⟨some 42, _, _, _, _, _⟩) rfl (fun K hK => ?_) AllReadyH.nil
   go_simp
   refine (HKI.out _).mono ?_
   rintro en w5 ⟨rfl, hb5⟩
   have HB5 := Lib.hid hb5
   clear hb5
   refine hK.out _ _ (⟨(HB5.out.cell (show (⟨w.heap.size, 0, none⟩ : Addr).block < _ from HBF.out.lt)).trans E0.out, (HB5.out.cell (show (⟨w.heap.size, 1, none⟩ : Addr).block < _ from HBF.out.lt)).trans E1.out, (HB5.out.cell (show (⟨w.heap.size, 2, none⟩ : Addr).block < _ from HBF.out.lt)).trans E2.out⟩) (fun hS => ?_)
   clear hK K
   try simp only [Act.put, List.setIfInBounds_toArray, List.set_cons_zero, List.set_cons_succ]
   refine wpAnyH_take (i := 4) (oi := ⟨some 43, _, _, _, _, _⟩) (v := ?_) rfl (by kernel_rfl) (by kernel_rfl) (by kernel_rfl) (fun _ _ _ h => h) (Or.inl ⟨by simp only [Region.wanted], ?_⟩) hS ?_
   rotate_left
   ·intro wz hSw
    clear hSw
    go_simp
    first | done | with_reducible rfl
   try simp only [Act.put, List.setIfInBounds_toArray, List.set_cons_zero, List.set_cons_succ]
   refine wpAnyH_take (i := 5) (oi := ⟨some 44, _, _, _, _, _⟩) (v := ?_) rfl (by kernel_rfl) (by kernel_rfl) (by kernel_rfl) (fun _ _ _ h => h) (Or.inl ⟨by simp only [Region.wanted], ?_⟩) hS ?_
   rotate_left
   ·intro wz hSw
    clear hSw
    go_simp
    first | done | with_reducible rfl
   try simp only [Act.put, List.setIfInBounds_toArray, List.set_cons_zero, List.set_cons_succ]
   refine wpAnyH_done (by kernel_rfl) ?_ _
   have HB45 := Lib.hid ((Below.refl w4.heap.size w4).drew.trans HB5.out)
   clear hS HB5 HKI
   obtain ⟨B0, hB0⟩ : ∃ B0, B0 = wr.heap.size := ⟨_, rfl⟩
   have HB0 := Lib.hid hB0
   clear hB0
   have hgl := HOWN.out.lt g rfl
   have hb45 := HB45.out
   have hs34 := HB34.out.size
   have HS5 := Lib.hid (show wr.heap.size ≤ w5.heap.size from Nat.le_trans hs34 hb45.size)
   have HOWN5 := Lib.hid ((HOWN.out.moved HB34.out (fun q hq e => by have := (HOWN.out.lt q hq).1; omega)).below hb45)
   have HO5 := Lib.hid (HO4.out.below hb45)
   have HBF5 := Lib.hid (HBF.out.moved (Moved.of_below hb45 (fun _ => False)) (fun h => h))
   have HM5 := Lib.hid (show Moved (· = w.heap.size) wr w5 from HB34.out.trans (Moved.of_below hb45 (fun _ => False)) (fun j hj => hj.elim))
   have HGL := Lib.hid hgl
   have hm2 : m ≤ 2000 := by
    have h1 := forest_len (ss' ++ [s])
    have h2 := HST.out.num
    have h3 := HST.out.few
    have h4 := HPG.out
    rw [List.length_append, ← HM.out] at h1
    omega
   clear hgl hb45 hs34 HOWN HB3 HB34 HB45 HBF HO HO4 E0 E1 E2
   go_wp2_with fail
   go_loopw [6, 10, 45] (fun v6 _ i wx => ∃ (k mk c' : Nat) (a' : Option Addr), k ≤ kq ∧ i = .int .i64 k ∧ mk = m + k ∧ v6 = .slice a' mk c' ∧ OwnN (w.heap.size + 1) wx v6 (rest ss' ++ ((ents s.t).take k).map Ent.kid) ∧ Moved (· = g) w5 wx ∧ (∀ q, v6.ownBlock = some q → q = g ∨ (w5.heap.size ≤ q ∧ q < wx.heap.size))) (fun _ _ i _ => kq - (intOf i).toNat)
   case atStart => exact ⟨0, m, c6, _, Nat.zero_le _, rfl, rfl, rfl, by simpa using HOWN5.out, Moved.refl _ _, fun q hq => .inl (Option.some.inj hq).symm⟩
   case round =>
    obtain ⟨k, mk, c', a', hk, rfl, hmk, rfl, how, hmv, hrow⟩ := hrel
    have hgl := HGL.out
    have hs5 := HS5.out
    by_cases hlt : k < kq
    ·have hkl : k < lq := Nat.lt_of_lt_of_le hlt HKL.out
     have hke : k < (ents s.t).length := by rw [← HLQ.out]; exact hkl
     have hox := HO5.out.moved hmv (fun q hq e => by have := (HO5.out.lt q hq).1; omega)
     obtain ⟨b1, off, cp1, e1, -, -, hbs, hce⟩ := hox.ens.at (by omega)
     rw [← HLQ.out] at e1
     simp only [Value.slice.injEq, true_and] at e1
     obtain ⟨rfl, rfl⟩ := e1
     obtain ⟨d0, d1, d2⟩ := hce k hke
     obtain ⟨x, hx⟩ : ∃ x, x = (ents s.t)[k] := ⟨_, rfl⟩
     rw [← hx] at d0 d1 d2
     have htk : ((ents s.t).take (k + 1)).map Ent.kid = ((ents s.t).take k).map Ent.kid ++ [x.kid] := by
      rw [List.take_add_one, List.getElem?_eq_getElem hke, ← hx]; simp
     have hal1 : Below wr.heap.size wr (wr.alloc (.cells #[.string x.key, .string x.val, .int .i64 x.kid] 68)) := (Below.refl _ wr).alloc (Nat.le_refl _) _
     have hx0 := Blk.new wr #[.string x.key, .string x.val, .int .i64 x.kid] 68
     have hy0 := Blk.new (wr.alloc (.cells #[.string x.key, .string x.val, .int .i64 x.kid] 68)) #[.int .i64 x.kid] 3
     have hal : Below wr.heap.size wr ((wr.alloc (.cells #[.string x.key, .string x.val, .int .i64 x.kid] 68)).alloc (.cells #[.int .i64 x.kid] 3)) := hal1.alloc hal1.size _
     have x2 : (wr.alloc (.cells #[.string x.key, .string x.val, .int .i64 x.kid] 68)).cell? ⟨wr.heap.size, 2, none⟩ = some (.int .i64 x.kid) := by rw [hx0.cell]; rfl
     have hc0 : ((wr.alloc (.cells #[.string x.key, .string x.val, .int .i64 x.kid] 68)).alloc (.cells #[.int .i64 x.kid] 3)).cell? ⟨wr.heap.size + 1, 0, none⟩ = some (.int .i64 x.kid) := by
      have := hy0.cell 0
      rw [show (wr.alloc (.cells #[.string x.key, .string x.val, .int .i64 x.kid] 68)).heap.size = wr.heap.size + 1 by simp] at this
      rw [this]; rfl
     have hlen : mk + 1 = (rest ss' ++ ((ents s.t).take k).map Ent.kid).length + 1 := by
      rw [List.length_append, List.length_map, List.length_take, Nat.min_eq_left (by omega), show (rest ss').length = m by rw [HM.out]; simp [rest], hmk]
     have HOW := Lib.hid (how.below hal)
     have HC0 := Lib.hid hc0
     have HSX := Lib.hid (show w.heap.size + 1 ≤ ((wr.alloc (.cells #[.string x.key, .string x.val, .int .i64 x.kid] 68)).alloc (.cells #[.int .i64 x.kid] 3)).heap.size by have := hal.size; have := hmv.size; omega)
     have HN := Lib.hid hlen
     have HLL := Lib.hid (show mk + 1 ≤ 1000000 by have := HFEW.out; omega)
     have HTK := Lib.hid htk
     have HMV := Lib.hid (hmv.trans (Moved.of_below hal (fun _ => False)) (fun j hj => hj.elim))
     have HRW := Lib.hid hrow
     have HSZ := Lib.hid (And.intro hal.size hmv.size)
     have HMK := Lib.hid hmk
     have l1 : (k : Int) < kq := by omega
     have l2 : k < kq := hlt
     have l3 : (kq : Int) ≤ 1000 := by have := HFEW.out; have := HKL.out; omega
     have l4 : kq ≤ 1000 := by omega
     have l5 : (k : Int) + 1 ≤ 1000 := by omega
     have l6 : (0 : Int) ≤ k := by omega
     clear how hmv hrow hox hce hbs hx htk hal1 hx0 hy0 hal hc0 hlen hmk hgl hs5
     go_wp2_with (at_builtin; refine wpList_append_num rfl _ _ rfl (w.heap.size + 1) HSX.out (.slice a' mk c') (rest ss' ++ ((ents s.t).take k).map Ent.kid) rfl HOW.out (wr.heap.size + 1) rfl x.kid HC0.out (mk + 1) HN.out HLL.out ?_; intro g6 cp6 w6 ho6 hx6 hy6 hg6 hq6)
     have HO6 := Lib.hid ho6
     have HG6 := Lib.hid hg6
     have HQ6 := Lib.hid hq6
     clear ho6 hg6 hq6
     go_roundw
     case rel =>
      have hgz := HGL.out
      have hs5 := HS5.out
      have hsz := HSZ.out
      have hg6s := HG6.out.size
      refine ⟨k + 1, mk + 1, _, _, by omega, by go_num, by rw [HMK.out]; omega, rfl, ?_, HMV.out.grown HG6.out (fun q hq => (HRW.out q hq).imp id (fun e => e.1)), fun q hq => ?_⟩
      ·rw [HTK.out, ← List.append_assoc]
       exact HO6.out
      ·obtain rfl : g6 = q := Option.some.inj hq
       have hl6 := (HO6.out.lt g6 rfl).2
       rcases HQ6.out with e | e
       ·rcases HRW.out g6 e with e | e
        ·exact .inl e
        ·exact .inr ⟨e.1, hl6⟩
       ·exact .inr ⟨by omega, hl6⟩
     case measure => simp [intOf]; omega
    ·obtain rfl : kq = k := by omega
     have hrs : rest (ss' ++ s.sub) = rest ss' ++ ((ents s.t).take kq).map Ent.kid := by
      rw [rest_append, rest_sub, HKQ.out, HLQ.out]
     obtain ⟨d1, d2, d3, d4⟩ := HST.out.forest.drop
     rw [← HPQ.out] at d1
     have hgF := HST.out.row g rfl
     have hmw := (HM5.out.mono (P' := fun j => j = w.heap.size ∨ j = g) (fun j hj => .inl hj)).trans hmv (fun j hj => .inl (.inr hj))
     have hpw := HST.out.pb.wide hmw (fun j hj hlt => ⟨.inr (by rcases hj with rfl | rfl; exact HST.out.cell; exact hgF), by have := HW0.out; omega⟩)
     have hdr := pb_drop pq hpw
     rw [d1] at hdr
     have hbx := HBF5.out.moved hmv (by omega)
     have c0 : wr.cell? ⟨w.heap.size, 0, none⟩ = some (.int .i64 pq) := by rw [hbx.cell]; rfl
     rw [← hrs] at how
     obtain ⟨so, cpz, ez, ez1, ez2⟩ := how.form
     simp only [Value.slice.injEq] at ez
     obtain ⟨-, hmz, rfl⟩ := ez
     have hrl : (rest (ss' ++ s.sub)).length = (ss' ++ s.sub).length := by simp [rest]
     rw [hrl] at ez1 hmz
     have HDR := Lib.hid hdr
     have HBX := Lib.hid hbx
     have HOW := Lib.hid how
     have HMW := Lib.hid hmw
     have HMV := Lib.hid hmv
     have HRW := Lib.hid hrow
     have HMZ := Lib.hid hmz
     have HEZ := Lib.hid ez1
     have HD := Lib.hid (And.intro d2 (And.intro d3 d4))
     clear hrs d1 d2 d3 d4 hpw hdr hbx how hmw hmv hrow hmz ez1 ez2 hrl hgF hmk hgl hs5
     go_wp2_with fail
     refine HDR.out.mono ?_
     rintro en w7 ⟨rfl, h7, hm7⟩
     have H7 := Lib.hid h7
     have HM7 := Lib.hid hm7
     clear h7 hm7 HDR c0
     go_wp2_with fail
     go_roundg ((ss' ++ s.sub).flatMap BT.Some'.pages).length
     case measure =>
      have h1 := HD.out.2.2
      have h2 := HST.out.num
      omega
     case rel =>
      obtain ⟨d2, d3, d4⟩ := HD.out
      have h1 := HST.out.num
      have h2 := HST.out.few
      have hz1 := HMW.out.size
      have hz2 := HM7.out.size
      have hz3 := HBK.out.lt
      have hz4 := HS5.out
      have hgl := HGL.out
      have hgF := HST.out.row g rfl
      have hz5 := HW0.out
      have hz6 := HB0.out
      refine ⟨ss' ++ s.sub, _, fun j => F j ∨ (B0 ≤ j ∧ j < wr.heap.size), _, _, _, mk, c', a', rfl, rfl, HMZ.out, by rw [HMZ.out]; exact HEZ.out, HBX.out.moved HM7.out (fun e => e.2 (.inl (.inr HST.out.cell))), d2, d3.trans HST.out.perm, HST.out.page, HST.out.root, rfl, by omega, ?_, ?_, fun j hj => ?_, .inl HST.out.cell, HOW.out.moved HM7.out (fun q hq e => e.2 ?_), fun q hq => ?_⟩
      ·exact (H7.out.less (fun j hj => by rcases hj with hj | hj | hj; exact .inl (.inl hj); exact .inl (.inr hj); exact .inr ⟨by omega, hj.2⟩)).more _ (by omega)
      ·exact Moved.trans (Moved.trans (P := fun j => w0.heap.size ≤ j ∧ ¬ X j) HST.out.mx HMW.out (fun j hj => .inr (by omega))) HM7.out (fun j hj => .inl ⟨hj.1, fun e => hj.2 (.inl (.inl e))⟩)
      ·rcases hj with hj | hj
       ·have := HST.out.mine j hj
        exact ⟨this.1, by omega⟩
       ·exact ⟨by omega, by omega⟩
      ·rcases HRW.out q hq with e | e
       ·rw [e]; exact .inl (.inr hgF)
       ·exact .inr ⟨by omega, e.2⟩
      ·rcases HRW.out q hq with e | e
       ·rw [e]; exact .inl hgF
       ·exact .inr ⟨by omega, e.2⟩
end Go.Proofs.Ytpfjbcfnpfgidaa
