/- Sf; Sg; Sh -/
import Derived.Test.YtbpdapcmaioeiaaGreatKHk
import Derived.Test.YtbpdapcmaioeiaaGreatKWb
import Derived.Test.YtbpdapcmaioeiaaGreatKSb
namespace Go.Proofs.YtbpdapcmaioeiaaGreat
open Go.RowKit Go.Maps
set_option maxRecDepth 100000
set_option linter.unusedVariables false
/-- The pager with a dictionary of the terms L: tt has each term's number, ty each number's term. -/
structure Dc (w0 w : World) (X : Nat → Prop) (r p N M c : Nat) (G H : Lg) {n m : Nat} (tt : BT Ent n) (ty : BT Ent m) (tot : Nat) (L : List Tm) : Prop where
 pb : Pb w0 w X r p N M c G (some H)
 side : Side N tot H [⟨n, tt⟩, ⟨m, ty⟩]
 dict : DictOf tt.flat ty.flat L
section
variable {w0 w w' : World} {X : Nat → Prop} {r p N M c : Nat} {G H : Lg} {n m : Nat} {tt : BT Ent n} {ty : BT Ent m} {tot : Nat} {L : List Tm}
theorem Dc.treeT (h : Dc w0 w X r p N M c G H tt ty tot L) : InLg N H tt := h.side.at (s := ⟨n, tt⟩) (by simp)
theorem Dc.treeY (h : Dc w0 w X r p N M c G H tt ty tot L) : InLg N H ty := h.side.at (s := ⟨m, ty⟩) (by simp)
theorem Dc.read (h : Dc w0 w X r p N M c G H tt ty tot L) (hb : Below w.heap.size w w') : Dc w0 w' X r p N M c G H tt ty tot L := ⟨h.pb.grow hb, h.side, h.dict⟩
theorem Dc.take (h : Dc w0 w X r p N M c G H tt ty tot L) (hb : Below w.heap.size w w') : Dc w0 w' (fun k => X k ∨ (w.heap.size ≤ k ∧ k < w'.heap.size)) r p N M c G H tt ty tot L := ⟨h.pb.take hb, h.side, h.dict⟩
theorem Dc.mv {P' : Nat → Prop} (h : Dc w0 w X r p N M c G H tt ty tot L) (hm : Moved P' w w') (hP : ∀ k, P' k → X k ∧ w0.heap.size ≤ k) : Dc w0 w' X r p N M c G H tt ty tot L := ⟨h.pb.mv hm hP, h.side, h.dict⟩
theorem Dc.grown {X' : Nat → Prop} {row : Option Nat} (h : Dc w0 w X r p N M c G H tt ty tot L) (hg : w.grownBy w' row) (hr : ∀ k, row = some k → X k ∧ w0.heap.size ≤ k) (hX : ∀ k, X' k → X k ∨ (w.heap.size ≤ k ∧ k < w'.heap.size)) : Dc w0 w' X' r p N M c G H tt ty tot L := ⟨h.pb.grown hg hr hX, h.side, h.dict⟩
theorem Dc.wide {P : Nat → Prop} (h : Dc w0 w X r p N M c G H tt ty tot L) (hm : Moved P w w') (hP : ∀ k, P k → k < w.heap.size → X k ∧ w0.heap.size ≤ k) : Dc w0 w' (fun k => X k ∨ (w.heap.size ≤ k ∧ k < w'.heap.size)) r p N M c G H tt ty tot L := ⟨h.pb.wide hm hP, h.side, h.dict⟩
theorem Dc.room (h : Dc w0 w X r p N M c G H tt ty tot L) : tot ≤ H.free.length + 2 + 4 * L.length := by
 have h1 := h.side.free
 have h2 := h.dict.lenT
 have h3 := h.dict.lenY
 simp only [List.length_cons, List.length_nil, List.map_cons, List.map_nil, List.sum_cons, List.sum_nil] at h1
 omega
/-- Both trees have changed: a term has come. -/
theorem Dc.put (h : Dc w0 w X r p N M c G H tt ty tot L) {x : Tm} (hx : checkOf x = 0) (hn : x ∉ L) (hf : L.length < 1000) {n' m' : Nat} {tt' : BT Ent n'} {ty' : BT Ent m'} {H1 H2 : Lg} {w2 : World} {X' : Nat → Prop} {c' : Nat}
 (h1 : Changed N H H1 tt tt' (setL ⟨(encT x).toArray⟩ ⟨(le ((L.length + 1 : Nat) : Int) 8).toArray⟩ tt.flat)) (h2 : Changed N H1 H2 ty ty' (setL ⟨(plc ((L.length + 1 : Nat) : Int)).toArray⟩ ⟨(encT x).toArray⟩ ty.flat)) (hp : Pb w0 w2 X' r p N M c' G (some H2)) :
 Dc w0 w2 X' r p N M c' G H2 tt' ty' tot (L ++ [x]) := by
 have s1 := Side.chg (a := []) (b := [⟨m, ty⟩]) (s := ⟨n, tt⟩) h.side h1
 have s2 := Side.chg (a := [⟨n', tt'⟩]) (b := []) (s := ⟨m, ty⟩) s1 h2
 refine ⟨hp, s2, ?_⟩
 rw [h1.flat, h2.flat]
 exact h.dict.put h.treeT.sorted h.treeY.sorted hx hn hf
/-- The first tree has changed: the second one is there yet. -/
theorem Dc.mid (h : Dc w0 w X r p N M c G H tt ty tot L) {n' : Nat} {tt' : BT Ent n'} {H1 : Lg} {l : List Ent} (h1 : Changed N H H1 tt tt' l) : InLg N H1 ty ∧ H1.free.length + tt'.pages.length = H.free.length + tt.pages.length := by
 have s1 := Side.chg (a := []) (b := [⟨m, ty⟩]) (s := ⟨n, tt⟩) h.side h1
 refine ⟨s1.at (s := ⟨m, ty⟩) (by simp), ?_⟩
 have := h1.perm.length_eq
 rw [List.length_append, List.length_append] at this
 exact this
end
/-- The two new trees. -/
theorem Dc.start {w0 w : World} {X : Nat → Prop} {r p c : Nat} (h : Pb w0 w X r p 1199 0 c (Lg.new 1199) (some (newLg (newLg (Lg.new 1199) 1 (2 :: List.range' 3 1196)) 2 (List.range' 3 1196)))) :
 Dc w0 w X r p 1199 0 c (Lg.new 1199) (newLg (newLg (Lg.new 1199) 1 (2 :: List.range' 3 1196)) 2 (List.range' 3 1196)) (BT.leaf 1 []) (BT.leaf 2 []) 1198 [] := by
 have s0 := (Side.nil (N := 1199) (by omega)).new (a := 1) (rest := 2 :: List.range' 3 1196) rfl
 have s1 := s0.new (a := 2) (rest := List.range' 3 1196) rfl
 exact ⟨h, s1, DictOf.nil⟩
end Go.Proofs.YtbpdapcmaioeiaaGreat
namespace Go.Proofs.YtbpdapcmaioeiaaGreat
open Go.RowKit Go.Maps
set_option maxRecDepth 100000
set_option linter.unusedVariables false
section
variable {w0 w : World} {X : Nat → Prop} {r p N M c : Nat} {G H : Lg} {n : Nat} {t : BT Ent n}
set_option maxHeartbeats 4000000 in
theorem nkeep_any (h : Pb w0 w X r p N M c G (some H)) (hi : InLg N H t) (hroom : 25 ≤ H.free.length) (b : Nat) (tg : TypeId) (hb : Blk w b #[.pointer (some ⟨p, 0, none⟩), .int .i64 (t.page : Int)] tg) (hX : X b) (hX0 : w0.heap.size ≤ b) (x : Tm) (hx : checkOf x = 0) (id : Int) (hc : c + 300000 < 500000) :
 Calls Tryz.prog 59 #[.pointer (some ⟨b, 0, none⟩), x.val, .int .i64 id] w fun e w' => e = .returned (.int .i64 0) ∧ ∃ (m : Nat) (t' : BT Ent m) (H' : Lg) (c' : Nat), c' ≤ c + 110 ∧ Changed N H H' t t' (setL ⟨(encT x).toArray⟩ ⟨(le id 8).toArray⟩ t.flat) ∧ Pb w0 w' X r p N M c' G (some H') ∧
  Blk w' b #[.pointer (some ⟨p, 0, none⟩), .int .i64 (t'.page : Int)] tg ∧ Moved (fun j => (w0.heap.size ≤ j ∧ ¬ X j) ∨ j = b) w w' := by
 have hel := enc_length hx
 have hl8 : ∀ i : Int, (le i 8).length = 8 := fun i => le_length i 8
 have hp8 : (plc id).length = 8 := plc_length id
 have hwl := h.below.size
 have HST := Lib.hid (fun (u : World) (hu : Below w.heap.size w u) (kv vv : Value) (hk : Bs u kv (encT x)) (hv : Bs u vv (le id 8)) (hkx : ∀ g, kv.ownBlock = some g → w.heap.size ≤ g ∧ g < u.heap.size) (hvx : ∀ g, vv.ownBlock = some g → w.heap.size ≤ g ∧ g < u.heap.size) =>
  dset_any (h.take hu) hi hroom b tg ((hu.block _ hb.lt).trans hb) (Or.inl hX) hX0 kv vv _ _ hk hv (fun g hg => .inr (.inr (hkx g hg))) (fun g hg => .inr (.inr (hvx g hg))) (by omega) (by first | omega | (simp only [hl8]; omega)) hc)
 have HBT := Lib.hid hb.lt
 have HT := Lib.hid (fun w => tbytes_any x w)
 have HXX := Lib.hid (fun (u : World) (hu : Below w.heap.size w u) => hu.size)
 clear hb hi hroom hX0 hc hwl hel hp8 hl8 h hX
 obtain ⟨k, s, l, u⟩ := x
 unfold Tm.val at HT ⊢
 dsimp only at HT ⊢
 have hal : Below w.heap.size w (w.alloc (.cells #[.int .i64 k, .string s, .string l, .string u] 59)) := (Below.refl _ w).alloc (Nat.le_refl _) _
 have hb1 := Blk.new w #[.int .i64 k, .string s, .string l, .string u] 59
 go_enter Tryz.func59, Tryz.ntmps59
 go_wp2_with fail
 generalize World.alloc w _ = w3 at hal hb1 ⊢
 refine wp_region_any (by kernel_rfl) ?_
 change wpAny _ _ _ _ _ _ _ (World.drew _)
 refine wpAny_of_held (S := fun (w' : World) => Blk w' w.heap.size #[.int .i64 k, .string s, .string l, .string u] 59) _ _ _ _ ?_
 have hS : (fun (w' : World) => Blk w' w.heap.size #[.int .i64 k, .string s, .string l, .string u] 59) (World.drew w3) := hb1.drew
 have hal4 := hal.drew
 clear hal hb1
 generalize World.drew w3 = v0 at hal4 hS ⊢
 try simp only [Act.put, List.setIfInBounds_toArray, List.set_cons_zero, List.set_cons_succ]
 refine wpAnyH_take (i := 0) (oi := ⟨some 7, _, _, _, _, _⟩) (v := ?_) rfl (by kernel_rfl) (by kernel_rfl) (by kernel_rfl) (fun _ _ _ h => h) (Or.inl ⟨by simp only [Region.wanted], ?_⟩) hS ?_
 rotate_left
 ·intro wz hSw
  clear hSw
  go_simp
  first | done | with_reducible rfl
 try simp only [Act.put, List.setIfInBounds_toArray, List.set_cons_zero, List.set_cons_succ]
 refine wpAnyH_take (i := 1) (oi := ⟨some 8, _, _, _, _, _⟩) (v := ?_) rfl (by kernel_rfl) (by kernel_rfl) (by kernel_rfl) (fun _ _ _ h => h) (Or.inl ⟨by simp only [Region.wanted], ?_⟩) hS ?_
 rotate_left
 ·intro wz hSw
  clear hSw
  go_simp
  first | done | with_reducible rfl
 try simp only [Act.put, List.setIfInBounds_toArray, List.set_cons_zero, List.set_cons_succ]
 refine wpAnyH_take (i := 2) (oi := ⟨some 9, _, _, _, _, _⟩) (v := ?_) rfl (by kernel_rfl) (by kernel_rfl) (by kernel_rfl) (fun _ _ _ h => h) (Or.inl ⟨by simp only [Region.wanted], ?_⟩) hS ?_
 rotate_left
 ·intro wz hSw
  clear hSw
  go_simp
  first | done | with_reducible rfl
 try simp only [Act.put, List.setIfInBounds_toArray, List.set_cons_zero, List.set_cons_succ]
 refine wpAnyH_take (i := 3) (oi := ⟨some 10, _, _, _, _, _⟩) (v := ?_) rfl (by kernel_rfl) (by kernel_rfl) (by kernel_rfl) (fun _ _ _ h => h) (Or.inl ⟨by simp only [Region.wanted], ?_⟩) hS ?_
 rotate_left
 ·intro wz hSw; have q0 := hSw.cell 0; have q1 := hSw.cell 1; have q2 := hSw.cell 2; have q3 := hSw.cell 3; simp only [List.getElem?_toArray, List.getElem?_cons_zero, List.getElem?_cons_succ] at q0 q1 q2 q3
  clear hSw
  go_simp
  first | done | with_reducible rfl
 try simp only [Act.put, List.setIfInBounds_toArray, List.set_cons_zero, List.set_cons_succ]
 refine wpAnyH_take (i := 5) (oi := ⟨some 12, _, _, _, _, _⟩) (v := ?_) rfl (by kernel_rfl) (by kernel_rfl) (by kernel_rfl) (fun _ _ _ h => h) (Or.inl ⟨by simp only [Region.wanted], ?_⟩) hS ?_
 rotate_left
 ·intro wz hSw
  clear hSw
  go_simp
  first | done | with_reducible rfl
 try simp only [Act.put, List.setIfInBounds_toArray, List.set_cons_zero, List.set_cons_succ]
 refine wpAnyH_ready (rs := [4]) (by kernel_rfl) (by simp) ?_
 refine AllReadyH.cons (o := ⟨some 11, _, _, _, _, _⟩) rfl (fun K hK => ?_) AllReadyH.nil
 go_simp
 refine (HT.out _).mono ?_
 rintro en v1 ⟨kv, rfl, how1, hb5⟩
 have hal5 := hal4.trans (hb5.mono hal4.size)
 refine hK.out _ _ ((hb5.block _ hS.lt).trans hS) (fun hS => ?_)
 clear hK K
 try simp only [Act.put, List.setIfInBounds_toArray, List.set_cons_zero, List.set_cons_succ]
 refine wpAnyH_ready (rs := [6]) (by kernel_rfl) (by simp) ?_
 refine AllReadyH.cons (o := ⟨some 13, _, _, _, _, _⟩) rfl (fun K hK => ?_) AllReadyH.nil
 go_simp
 have hin := int_any (.slice none 0 0) [] id (by decide) v1 (Bs.nil v1)
 rw [List.nil_append] at hin
 refine hin.mono ?_
 rintro en v2 ⟨vv, rfl, how2, hb6⟩
 clear hin
 have hal6 := hal5.trans (hb6.mono hal5.size)
 refine hK.out _ _ ((hb6.block _ hS.lt).trans hS) (fun hS => ?_)
 clear hK K
 try simp only [Act.put, List.setIfInBounds_toArray, List.set_cons_zero, List.set_cons_succ]
 refine wpAnyH_ready (rs := [7]) (by kernel_rfl) (by simp) ?_
 refine AllReadyH.cons (o := ⟨some 14, _, _, _, _, _⟩) rfl (fun K hK => ?_) AllReadyH.nil
 go_simp
 have hs1 := hal4.size
 have hs2 := hb5.size
 have hs3 := hb6.size
 have hset := HST.out _ hal6 kv vv (how1.bs.below hb6) how2.bs (fun g hg => ⟨by have := (how1.lt g hg).1; omega, by have := (how1.lt g hg).2; omega⟩) (fun g hg => ⟨by have := (how2.lt g hg).1; omega, (how2.lt g hg).2⟩)
 refine hset.mono ?_
 rintro en v3 ⟨rfl, m, t', H', c', hc', hch, hpb, hbb, hmv⟩
 clear hset
 have hlt := HBT.out
 have hS' : Blk v3 w.heap.size #[.int .i64 k, .string s, .string l, .string u] 59 := hS.moved hmv (fun e => by
  rcases e with e | e
  ·exact e.2 (.inr ⟨Nat.le_refl _, hS.lt⟩)
  ·omega)
 refine hK.out _ _ (hS') (fun hS => ?_)
 clear hK K
 try simp only [Act.put, List.setIfInBounds_toArray, List.set_cons_zero, List.set_cons_succ]
 refine wpAnyH_take (i := 8) (oi := ⟨some 6, _, _, _, _, _⟩) (v := ?_) rfl (by kernel_rfl) (by kernel_rfl) (by kernel_rfl) (fun _ _ _ h => h) (Or.inl ⟨by simp only [Region.wanted], ?_⟩) hS ?_
 rotate_left
 ·intro wz hSw
  clear hSw
  go_simp
  first | done | with_reducible rfl
 try simp only [Act.put, List.setIfInBounds_toArray, List.set_cons_zero, List.set_cons_succ]
 refine wpAnyH_done (by kernel_rfl) ?_ _
 go_wp2_with fail
 go_ret
 refine ⟨rfl, m, t', H', c', hc', hch, hpb.less (fun j hj => .inl hj), hbb, (Moved.of_below hal6 _).trans hmv (fun j hj => ?_)⟩
 rcases hj with hj | hj
 ·exact .inl (.inl ⟨hj.1, fun e => hj.2 (.inl e)⟩)
 ·exact .inl (.inr hj)
set_option maxHeartbeats 4000000 in
theorem tkeep_any (h : Pb w0 w X r p N M c G (some H)) (hi : InLg N H t) (hroom : 25 ≤ H.free.length) (b : Nat) (tg : TypeId) (hb : Blk w b #[.pointer (some ⟨p, 0, none⟩), .int .i64 (t.page : Int)] tg) (hX : X b) (hX0 : w0.heap.size ≤ b) (x : Tm) (hx : checkOf x = 0) (id : Int) (hc : c + 300000 < 500000) :
 Calls Tryz.prog 60 #[.pointer (some ⟨b, 0, none⟩), .int .i64 id, x.val] w fun e w' => e = .returned (.int .i64 0) ∧ ∃ (m : Nat) (t' : BT Ent m) (H' : Lg) (c' : Nat), c' ≤ c + 110 ∧ Changed N H H' t t' (setL ⟨(plc id).toArray⟩ ⟨(encT x).toArray⟩ t.flat) ∧ Pb w0 w' X r p N M c' G (some H') ∧
  Blk w' b #[.pointer (some ⟨p, 0, none⟩), .int .i64 (t'.page : Int)] tg ∧ Moved (fun j => (w0.heap.size ≤ j ∧ ¬ X j) ∨ j = b) w w' := by
 have hel := enc_length hx
 have hl8 : ∀ i : Int, (le i 8).length = 8 := fun i => le_length i 8
 have hp8 : (plc id).length = 8 := plc_length id
 have hwl := h.below.size
 have HST := Lib.hid (fun (u : World) (hu : Below w.heap.size w u) (kv vv : Value) (hk : Bs u kv (plc id)) (hv : Bs u vv (encT x)) (hkx : ∀ g, kv.ownBlock = some g → w.heap.size ≤ g ∧ g < u.heap.size) (hvx : ∀ g, vv.ownBlock = some g → w.heap.size ≤ g ∧ g < u.heap.size) =>
  dset_any (h.take hu) hi hroom b tg ((hu.block _ hb.lt).trans hb) (Or.inl hX) hX0 kv vv _ _ hk hv (fun g hg => .inr (.inr (hkx g hg))) (fun g hg => .inr (.inr (hvx g hg))) (by omega) (by first | omega | (simp only [hl8]; omega)) hc)
 have HBT := Lib.hid hb.lt
 have HT := Lib.hid (fun w => tbytes_any x w)
 have HXX := Lib.hid (fun (u : World) (hu : Below w.heap.size w u) => hu.size)
 clear hb hi hroom hX0 hc hwl hel hp8 hl8 h hX
 obtain ⟨k, s, l, u⟩ := x
 unfold Tm.val at HT ⊢
 dsimp only at HT ⊢
 have hal : Below w.heap.size w (w.alloc (.cells #[.int .i64 k, .string s, .string l, .string u] 59)) := (Below.refl _ w).alloc (Nat.le_refl _) _
 have hb1 := Blk.new w #[.int .i64 k, .string s, .string l, .string u] 59
 go_enter Tryz.func60, Tryz.ntmps60
 go_wp2_with fail
 generalize World.alloc w _ = w3 at hal hb1 ⊢
 refine wp_region_any (by kernel_rfl) ?_
 change wpAny _ _ _ _ _ _ _ (World.drew _)
 refine wpAny_of_held (S := fun (w' : World) => Blk w' w.heap.size #[.int .i64 k, .string s, .string l, .string u] 59) _ _ _ _ ?_
 have hS : (fun (w' : World) => Blk w' w.heap.size #[.int .i64 k, .string s, .string l, .string u] 59) (World.drew w3) := hb1.drew
 have hal4 := hal.drew
 clear hal hb1
 generalize World.drew w3 = v0 at hal4 hS ⊢
 try simp only [Act.put, List.setIfInBounds_toArray, List.set_cons_zero, List.set_cons_succ]
 refine wpAnyH_take (i := 0) (oi := ⟨some 7, _, _, _, _, _⟩) (v := ?_) rfl (by kernel_rfl) (by kernel_rfl) (by kernel_rfl) (fun _ _ _ h => h) (Or.inl ⟨by simp only [Region.wanted], ?_⟩) hS ?_
 rotate_left
 ·intro wz hSw
  clear hSw
  go_simp
  first | done | with_reducible rfl
 try simp only [Act.put, List.setIfInBounds_toArray, List.set_cons_zero, List.set_cons_succ]
 refine wpAnyH_take (i := 1) (oi := ⟨some 8, _, _, _, _, _⟩) (v := ?_) rfl (by kernel_rfl) (by kernel_rfl) (by kernel_rfl) (fun _ _ _ h => h) (Or.inl ⟨by simp only [Region.wanted], ?_⟩) hS ?_
 rotate_left
 ·intro wz hSw
  clear hSw
  go_simp
  first | done | with_reducible rfl
 try simp only [Act.put, List.setIfInBounds_toArray, List.set_cons_zero, List.set_cons_succ]
 refine wpAnyH_take (i := 2) (oi := ⟨some 9, _, _, _, _, _⟩) (v := ?_) rfl (by kernel_rfl) (by kernel_rfl) (by kernel_rfl) (fun _ _ _ h => h) (Or.inl ⟨by simp only [Region.wanted], ?_⟩) hS ?_
 rotate_left
 ·intro wz hSw
  clear hSw
  go_simp
  first | done | with_reducible rfl
 try simp only [Act.put, List.setIfInBounds_toArray, List.set_cons_zero, List.set_cons_succ]
 refine wpAnyH_take (i := 3) (oi := ⟨some 10, _, _, _, _, _⟩) (v := ?_) rfl (by kernel_rfl) (by kernel_rfl) (by kernel_rfl) (fun _ _ _ h => h) (Or.inl ⟨by simp only [Region.wanted], ?_⟩) hS ?_
 rotate_left
 ·intro wz hSw
  clear hSw
  go_simp
  first | done | with_reducible rfl
 try simp only [Act.put, List.setIfInBounds_toArray, List.set_cons_zero, List.set_cons_succ]
 refine wpAnyH_take (i := 5) (oi := ⟨some 12, _, _, _, _, _⟩) (v := ?_) rfl (by kernel_rfl) (by kernel_rfl) (by kernel_rfl) (fun _ _ _ h => h) (Or.inl ⟨by simp only [Region.wanted], ?_⟩) hS ?_
 rotate_left
 ·intro wz hSw; have q0 := hSw.cell 0; have q1 := hSw.cell 1; have q2 := hSw.cell 2; have q3 := hSw.cell 3; simp only [List.getElem?_toArray, List.getElem?_cons_zero, List.getElem?_cons_succ] at q0 q1 q2 q3
  clear hSw
  go_simp
  first | done | with_reducible rfl
 try simp only [Act.put, List.setIfInBounds_toArray, List.set_cons_zero, List.set_cons_succ]
 refine wpAnyH_ready (rs := [4]) (by kernel_rfl) (by simp) ?_
 refine AllReadyH.cons (o := ⟨some 11, _, _, _, _, _⟩) rfl (fun K hK => ?_) AllReadyH.nil
 go_simp
 refine (place_any v0 id).mono ?_
 rintro en v1 ⟨kv, rfl, how1, hb5⟩
 have hal5 := hal4.trans (hb5.mono hal4.size)
 refine hK.out _ _ ((hb5.block _ hS.lt).trans hS) (fun hS => ?_)
 clear hK K
 try simp only [Act.put, List.setIfInBounds_toArray, List.set_cons_zero, List.set_cons_succ]
 refine wpAnyH_ready (rs := [6]) (by kernel_rfl) (by simp) ?_
 refine AllReadyH.cons (o := ⟨some 13, _, _, _, _, _⟩) rfl (fun K hK => ?_) AllReadyH.nil
 go_simp
 refine (HT.out _).mono ?_
 rintro en v2 ⟨vv, rfl, how2, hb6⟩
 have hal6 := hal5.trans (hb6.mono hal5.size)
 refine hK.out _ _ ((hb6.block _ hS.lt).trans hS) (fun hS => ?_)
 clear hK K
 try simp only [Act.put, List.setIfInBounds_toArray, List.set_cons_zero, List.set_cons_succ]
 refine wpAnyH_ready (rs := [7]) (by kernel_rfl) (by simp) ?_
 refine AllReadyH.cons (o := ⟨some 14, _, _, _, _, _⟩) rfl (fun K hK => ?_) AllReadyH.nil
 go_simp
 have hs1 := hal4.size
 have hs2 := hb5.size
 have hs3 := hb6.size
 have hset := HST.out _ hal6 kv vv (how1.bs.below hb6) how2.bs (fun g hg => ⟨by have := (how1.lt g hg).1; omega, by have := (how1.lt g hg).2; omega⟩) (fun g hg => ⟨by have := (how2.lt g hg).1; omega, (how2.lt g hg).2⟩)
 refine hset.mono ?_
 rintro en v3 ⟨rfl, m, t', H', c', hc', hch, hpb, hbb, hmv⟩
 clear hset
 have hlt := HBT.out
 have hS' : Blk v3 w.heap.size #[.int .i64 k, .string s, .string l, .string u] 59 := hS.moved hmv (fun e => by
  rcases e with e | e
  ·exact e.2 (.inr ⟨Nat.le_refl _, hS.lt⟩)
  ·omega)
 refine hK.out _ _ (hS') (fun hS => ?_)
 clear hK K
 try simp only [Act.put, List.setIfInBounds_toArray, List.set_cons_zero, List.set_cons_succ]
 refine wpAnyH_take (i := 8) (oi := ⟨some 6, _, _, _, _, _⟩) (v := ?_) rfl (by kernel_rfl) (by kernel_rfl) (by kernel_rfl) (fun _ _ _ h => h) (Or.inl ⟨by simp only [Region.wanted], ?_⟩) hS ?_
 rotate_left
 ·intro wz hSw
  clear hSw
  go_simp
  first | done | with_reducible rfl
 try simp only [Act.put, List.setIfInBounds_toArray, List.set_cons_zero, List.set_cons_succ]
 refine wpAnyH_done (by kernel_rfl) ?_ _
 go_wp2_with fail
 go_ret
 refine ⟨rfl, m, t', H', c', hc', hch, hpb.less (fun j hj => .inl hj), hbb, (Moved.of_below hal6 _).trans hmv (fun j hj => ?_)⟩
 rcases hj with hj | hj
 ·exact .inl (.inl ⟨hj.1, fun e => hj.2 (.inl e)⟩)
 ·exact .inl (.inr hj)
end
end Go.Proofs.YtbpdapcmaioeiaaGreat
namespace Go.Proofs.YtbpdapcmaioeiaaGreat
open Go.RowKit Go.Maps
set_option maxRecDepth 100000
set_option linter.unusedVariables false
theorem results_cell_tmp_tmp_row {P : Program} {fn : Func} {p u v : Tmp} {ty : TypeId} (h : fn.results = #[.cell p ty, .tmp u, .tmp v]) (tmps : Array Value) (w : World) (g : Nat) (t : TypeId) (cs : Array Value) (fr : Nat × Nat) (d : TypeDesc)
 (hp : tmps.getD p undef = .pointer (some ⟨g, 0, none⟩)) (hg : w.heap[g]? = some (.cells cs t fr))
 (hu : P.underlying ty = some d) (hd : (match d with | .struct _ | .array _ _ => true | _ => false) = true) (hi : (P.info? ty).map (·.size) = some cs.size) :
 (results fn tmps).run P w = .ok (.tuple #[.agg cs, tmps.getD u undef, tmps.getD v undef]) w := by
 rw [Array.getD_eq_getD_getElem?] at hp
 unfold results
 rw [h]
 simp [asAddr, Result.andThen, hp, run_loadVar_row w g t ty cs fr d hg hu hd hi]
theorem Moved.three (w : World) (b : Nat) (u0 u1 u2 : Value) : Moved (fun j => j = b) w (((w.setCell ⟨b, 0, none⟩ u0).setCell ⟨b, 1, none⟩ u1).setCell ⟨b, 2, none⟩ u2) :=
 (((Moved.refl (fun j => j = b) w).setCell ⟨b, 0, none⟩ u0 (.inl rfl)).setCell ⟨b, 1, none⟩ u1 (.inl rfl)).setCell ⟨b, 2, none⟩ u2 (.inl rfl)
set_option maxHeartbeats 4000000 in
theorem dput_old (w : World) (p : Nat) (ti ii li : Int) (x : Tm) (a : Int) (HN : ∀ u, Below w.heap.size w u → Calls Tryz.prog 58 #[.agg #[.pointer (some ⟨p, 0, none⟩), .int .i64 ti], x.val] u fun e w' => e = .returned (.tuple #[.int .i64 a, .int .i64 0]) ∧ Below u.heap.size u w') :
 Calls Tryz.prog 25 #[.pointer (some ⟨p, 0, none⟩), .agg #[.int .i64 ti, .int .i64 ii, .int .i64 li], x.val] w fun e w' => e = .returned (.tuple #[.agg #[.int .i64 ti, .int .i64 ii, .int .i64 li], .int .i64 a, .int .i64 0]) ∧ Below w.heap.size w w' := by
 have HT := Lib.hid (fun w => trees_any w p ti ii li)
 have HNN := Lib.hid HN
 clear HN
 obtain ⟨k, s, l, u⟩ := x
 unfold Tm.val at HNN ⊢
 dsimp only at HNN ⊢
 have hal : Below w.heap.size w (((w.alloc (.cells #[.int .i64 ti, .int .i64 ii, .int .i64 li] 52)).alloc (.cells #[.int .i64 k, .string s, .string l, .string u] 59)).alloc (.cells #[.int .i64 0, .int .i64 0, .int .i64 0] 52)) := (((Below.refl _ w).alloc (Nat.le_refl _) _).alloc (by simp) _).alloc (by simp; omega) _
 have hbd := ((Blk.new w #[.int .i64 ti, .int .i64 ii, .int .i64 li] 52).alloc (.cells #[.int .i64 k, .string s, .string l, .string u] 59)).alloc (.cells #[.int .i64 0, .int .i64 0, .int .i64 0] 52)
 have hbt := (Blk.new (w.alloc (.cells #[.int .i64 ti, .int .i64 ii, .int .i64 li] 52)) #[.int .i64 k, .string s, .string l, .string u] 59).alloc (.cells #[.int .i64 0, .int .i64 0, .int .i64 0] 52)
 have hbr := Blk.new ((w.alloc (.cells #[.int .i64 ti, .int .i64 ii, .int .i64 li] 52)).alloc (.cells #[.int .i64 k, .string s, .string l, .string u] 59)) #[.int .i64 0, .int .i64 0, .int .i64 0] 52
 have hz1 : (w.alloc (.cells #[.int .i64 ti, .int .i64 ii, .int .i64 li] 52)).heap.size = w.heap.size + 1 := by simp
 have hz2 : ((w.alloc (.cells #[.int .i64 ti, .int .i64 ii, .int .i64 li] 52)).alloc (.cells #[.int .i64 k, .string s, .string l, .string u] 59)).heap.size = w.heap.size + 2 := by simp
 rw [hz1] at hbt
 rw [hz2] at hbr
 clear hz1 hz2
 go_enter Tryz.func25, Tryz.ntmps25
 go_wp2_with fail
 refine wp_scope_jumps 0 (fun _ _ => False) (fun _ _ => 0) rfl ?_ (fun _ _ h => h.elim)
 skip
 go_wp2_with fail
 generalize World.alloc (World.alloc (World.alloc w _) _) _ = w2 at hal hbd hbt hbr ⊢
 refine (HT.out _).mono ?_
 rintro en w3 ⟨rfl, hb3⟩
 have hal3 := hal.trans (hb3.mono hal.size)
 have hbd3 : Blk w3 w.heap.size _ _ := (hb3.block _ hbd.lt).trans hbd
 have hbt3 : Blk w3 (w.heap.size + 1) _ _ := (hb3.block _ hbt.lt).trans hbt
 have hbr3 : Blk w3 (w.heap.size + 2) _ _ := (hb3.block _ hbr.lt).trans hbr
 have hB5d := (hbd3.alloc (.cells #[.pointer (some ⟨p, 0, none⟩), .int .i64 ti] 110)).alloc (.cells #[.pointer (some ⟨p, 0, none⟩), .int .i64 ii] 111)
 have hB5t := (hbt3.alloc (.cells #[.pointer (some ⟨p, 0, none⟩), .int .i64 ti] 110)).alloc (.cells #[.pointer (some ⟨p, 0, none⟩), .int .i64 ii] 111)
 have hB5r := (hbr3.alloc (.cells #[.pointer (some ⟨p, 0, none⟩), .int .i64 ti] 110)).alloc (.cells #[.pointer (some ⟨p, 0, none⟩), .int .i64 ii] 111)
 have hB5x := (Blk.new w3 #[.pointer (some ⟨p, 0, none⟩), .int .i64 ti] 110).alloc (.cells #[.pointer (some ⟨p, 0, none⟩), .int .i64 ii] 111)
 have hB5y := Blk.new (w3.alloc (.cells #[.pointer (some ⟨p, 0, none⟩), .int .i64 ti] 110)) #[.pointer (some ⟨p, 0, none⟩), .int .i64 ii] 111
 rw [show (w3.alloc (.cells #[.pointer (some ⟨p, 0, none⟩), .int .i64 ti] 110)).heap.size = w3.heap.size + 1 by simp] at hB5y
 have hal5 := (hal3.alloc hal3.size (.cells #[.pointer (some ⟨p, 0, none⟩), .int .i64 ti] 110)).alloc (Nat.le_trans hal3.size (by simp)) (.cells #[.pointer (some ⟨p, 0, none⟩), .int .i64 ii] 111)
 have z0 := hB5t.cell 0
 have z1 := hB5t.cell 1
 have z2 := hB5t.cell 2
 have z3 := hB5t.cell 3
 simp only [List.getElem?_toArray, List.getElem?_cons_zero, List.getElem?_cons_succ] at z0 z1 z2 z3
 have hlt3 : w.heap.size + 2 < w3.heap.size := hbr3.lt
 clear hal hbd hbt hbr hb3 hbd3 hbt3 hbr3 hal3 HT
 go_wp2_with fail
 clear z0 z1 z2 z3
 generalize World.alloc (World.alloc w3 _) _ = w5 at hal5 hB5d hB5t hB5r hB5x hB5y ⊢
 refine (HNN.out _ hal5).mono ?_
 rintro en w6 ⟨rfl, hb6⟩
 clear HNN
 have hal6 := hal5.trans (hb6.mono hal5.size)
 have hd6 : Blk w6 w.heap.size _ _ := (hb6.block _ hB5d.lt).trans hB5d
 have ht6 : Blk w6 (w.heap.size + 1) _ _ := (hb6.block _ hB5t.lt).trans hB5t
 have hr6 : Blk w6 (w.heap.size + 2) _ _ := (hb6.block _ hB5r.lt).trans hB5r
 have hx6 : Blk w6 w3.heap.size _ _ := (hb6.block _ hB5x.lt).trans hB5x
 have hy6 : Blk w6 (w3.heap.size + 1) _ _ := (hb6.block _ hB5y.lt).trans hB5y
 clear hal5 hB5d hB5t hB5r hB5x hB5y hb6
 have d0 := hd6.cell 0
 have d1 := hd6.cell 1
 have d2 := hd6.cell 2
 simp only [List.getElem?_toArray, List.getElem?_cons_zero, List.getElem?_cons_succ] at d0 d1 d2
 have q0 := hr6.cell 0
 have q1 := hr6.cell 1
 have q2 := hr6.cell 2
 simp only [List.getElem?_toArray, List.getElem?_cons_zero, List.getElem?_cons_succ] at q0 q1 q2
 have y0 := hr6.frozen 0
 have y1 := hr6.frozen 1
 have y2 := hr6.frozen 2
 go_wp2_with fail
 simp only [Exit.jump]
 have hz := ((hr6.set 0 (.int .i64 ti)).set 1 (.int .i64 ii)).set 2 (.int .i64 li)
 simp only [List.setIfInBounds_toArray, List.set_cons_zero, List.set_cons_succ] at hz
 have hbz := ((hal6.setCell (p := ⟨w.heap.size + 2, 0, none⟩) (by show w.heap.size ≤ w.heap.size + 2; omega) (.int .i64 ti)).setCell (p := ⟨w.heap.size + 2, 1, none⟩) (by show w.heap.size ≤ w.heap.size + 2; omega) (.int .i64 ii)).setCell (p := ⟨w.heap.size + 2, 2, none⟩) (by show w.heap.size ≤ w.heap.size + 2; omega) (.int .i64 li)
 exact bodyPost_ret (results_cell_tmp_tmp_row (p := 6) (u := 7) (v := 8) (ty := 52) (by kernel_rfl) _ _ (w.heap.size + 2) _ _ _ _ rfl hz Tryz.underlying52 rfl (by kernel_rfl)) rfl ⟨rfl, hbz⟩
set_option maxHeartbeats 4000000 in
theorem dput_bad (w : World) (p : Nat) (ti ii li : Int) (x : Tm) (a E : Int) (h0 : E ≠ 0) (h2 : E ≠ 2) (HN : ∀ u, Below w.heap.size w u → Calls Tryz.prog 58 #[.agg #[.pointer (some ⟨p, 0, none⟩), .int .i64 ti], x.val] u fun e w' => e = .returned (.tuple #[.int .i64 a, .int .i64 E]) ∧ Below u.heap.size u w') :
 Calls Tryz.prog 25 #[.pointer (some ⟨p, 0, none⟩), .agg #[.int .i64 ti, .int .i64 ii, .int .i64 li], x.val] w fun e w' => e = .returned (.tuple #[.agg #[.int .i64 0, .int .i64 0, .int .i64 0], .int .i64 0, .int .i64 E]) ∧ Below w.heap.size w w' := by
 have h0' : (E == 0) = false := by simpa using h0
 have h2' : (E == 2) = false := by simpa using h2
 have HT := Lib.hid (fun w => trees_any w p ti ii li)
 have HNN := Lib.hid HN
 clear HN
 obtain ⟨k, s, l, u⟩ := x
 unfold Tm.val at HNN ⊢
 dsimp only at HNN ⊢
 have hal : Below w.heap.size w (((w.alloc (.cells #[.int .i64 ti, .int .i64 ii, .int .i64 li] 52)).alloc (.cells #[.int .i64 k, .string s, .string l, .string u] 59)).alloc (.cells #[.int .i64 0, .int .i64 0, .int .i64 0] 52)) := (((Below.refl _ w).alloc (Nat.le_refl _) _).alloc (by simp) _).alloc (by simp; omega) _
 have hbd := ((Blk.new w #[.int .i64 ti, .int .i64 ii, .int .i64 li] 52).alloc (.cells #[.int .i64 k, .string s, .string l, .string u] 59)).alloc (.cells #[.int .i64 0, .int .i64 0, .int .i64 0] 52)
 have hbt := (Blk.new (w.alloc (.cells #[.int .i64 ti, .int .i64 ii, .int .i64 li] 52)) #[.int .i64 k, .string s, .string l, .string u] 59).alloc (.cells #[.int .i64 0, .int .i64 0, .int .i64 0] 52)
 have hbr := Blk.new ((w.alloc (.cells #[.int .i64 ti, .int .i64 ii, .int .i64 li] 52)).alloc (.cells #[.int .i64 k, .string s, .string l, .string u] 59)) #[.int .i64 0, .int .i64 0, .int .i64 0] 52
 have hz1 : (w.alloc (.cells #[.int .i64 ti, .int .i64 ii, .int .i64 li] 52)).heap.size = w.heap.size + 1 := by simp
 have hz2 : ((w.alloc (.cells #[.int .i64 ti, .int .i64 ii, .int .i64 li] 52)).alloc (.cells #[.int .i64 k, .string s, .string l, .string u] 59)).heap.size = w.heap.size + 2 := by simp
 rw [hz1] at hbt
 rw [hz2] at hbr
 clear hz1 hz2
 go_enter Tryz.func25, Tryz.ntmps25
 go_wp2_with fail
 refine wp_scope_jumps 0 (fun a' w' => ∃ u0 u1 u2 u3 u5 u7 u8 u9 u10 u11 u13 u14 u15 u16 u17 u18 u19 u20 u21 u22 u23 u24 u25 u26 u27 u28 u29 u30 u31 u32 u33 u34 u35 u36 u37 u38 u39 u40 u41 u42 u43 u44 u45 u46 u47 u48 u49 u50 u51 u52 u53 u54 : Value, a' = { tmps := #[u0, u1, u2, u3, .pointer (some ⟨w.heap.size, 0, none⟩), u5, .pointer (some ⟨w.heap.size + 2, 0, none⟩), u7, u8, u9, u10, u11, .int .i64 E, u13, u14, u15, u16, u17, u18, u19, u20, u21, u22, u23, u24, u25, u26, u27, u28, u29, u30, u31, u32, u33, u34, u35, u36, u37, u38, u39, u40, u41, u42, u43, u44, u45, u46, u47, u48, u49, u50, u51, u52, u53, u54], defers := [] } ∧ Below w.heap.size w w' ∧ Blk w' (w.heap.size + 2) #[.int .i64 0, .int .i64 0, .int .i64 0] 52) (fun _ _ => 0) rfl ?_ ?_
 ·skip
  go_wp2_with fail
  generalize World.alloc (World.alloc (World.alloc w _) _) _ = w2 at hal hbd hbt hbr ⊢
  refine (HT.out _).mono ?_
  rintro en w3 ⟨rfl, hb3⟩
  have hal3 := hal.trans (hb3.mono hal.size)
  have hbd3 : Blk w3 w.heap.size _ _ := (hb3.block _ hbd.lt).trans hbd
  have hbt3 : Blk w3 (w.heap.size + 1) _ _ := (hb3.block _ hbt.lt).trans hbt
  have hbr3 : Blk w3 (w.heap.size + 2) _ _ := (hb3.block _ hbr.lt).trans hbr
  have hB5d := (hbd3.alloc (.cells #[.pointer (some ⟨p, 0, none⟩), .int .i64 ti] 110)).alloc (.cells #[.pointer (some ⟨p, 0, none⟩), .int .i64 ii] 111)
  have hB5t := (hbt3.alloc (.cells #[.pointer (some ⟨p, 0, none⟩), .int .i64 ti] 110)).alloc (.cells #[.pointer (some ⟨p, 0, none⟩), .int .i64 ii] 111)
  have hB5r := (hbr3.alloc (.cells #[.pointer (some ⟨p, 0, none⟩), .int .i64 ti] 110)).alloc (.cells #[.pointer (some ⟨p, 0, none⟩), .int .i64 ii] 111)
  have hB5x := (Blk.new w3 #[.pointer (some ⟨p, 0, none⟩), .int .i64 ti] 110).alloc (.cells #[.pointer (some ⟨p, 0, none⟩), .int .i64 ii] 111)
  have hB5y := Blk.new (w3.alloc (.cells #[.pointer (some ⟨p, 0, none⟩), .int .i64 ti] 110)) #[.pointer (some ⟨p, 0, none⟩), .int .i64 ii] 111
  rw [show (w3.alloc (.cells #[.pointer (some ⟨p, 0, none⟩), .int .i64 ti] 110)).heap.size = w3.heap.size + 1 by simp] at hB5y
  have hal5 := (hal3.alloc hal3.size (.cells #[.pointer (some ⟨p, 0, none⟩), .int .i64 ti] 110)).alloc (Nat.le_trans hal3.size (by simp)) (.cells #[.pointer (some ⟨p, 0, none⟩), .int .i64 ii] 111)
  have z0 := hB5t.cell 0
  have z1 := hB5t.cell 1
  have z2 := hB5t.cell 2
  have z3 := hB5t.cell 3
  simp only [List.getElem?_toArray, List.getElem?_cons_zero, List.getElem?_cons_succ] at z0 z1 z2 z3
  have hlt3 : w.heap.size + 2 < w3.heap.size := hbr3.lt
  clear hal hbd hbt hbr hb3 hbd3 hbt3 hbr3 hal3 HT
  go_wp2_with fail
  clear z0 z1 z2 z3
  generalize World.alloc (World.alloc w3 _) _ = w5 at hal5 hB5d hB5t hB5r hB5x hB5y ⊢
  refine (HNN.out _ hal5).mono ?_
  rintro en w6 ⟨rfl, hb6⟩
  clear HNN
  have hal6 := hal5.trans (hb6.mono hal5.size)
  have hd6 : Blk w6 w.heap.size _ _ := (hb6.block _ hB5d.lt).trans hB5d
  have ht6 : Blk w6 (w.heap.size + 1) _ _ := (hb6.block _ hB5t.lt).trans hB5t
  have hr6 : Blk w6 (w.heap.size + 2) _ _ := (hb6.block _ hB5r.lt).trans hB5r
  have hx6 : Blk w6 w3.heap.size _ _ := (hb6.block _ hB5x.lt).trans hB5x
  have hy6 : Blk w6 (w3.heap.size + 1) _ _ := (hb6.block _ hB5y.lt).trans hB5y
  clear hal5 hB5d hB5t hB5r hB5x hB5y hb6
  go_wp2_with fail
  go_step3
  exact ⟨rfl, ⟨_, _, _, _, _, _, _, _, _, _, _, _, _, _, _, _, _, _, _, _, _, _, _, _, _, _, _, _, _, _, _, _, _, _, _, _, _, _, _, _, _, _, _, _, _, _, _, _, _, _, _, _, rfl, ⟨hal6, hr6⟩⟩⟩
 ·rintro a' w' ⟨u0, u1, u2, u3, u5, u7, u8, u9, u10, u11, u13, u14, u15, u16, u17, u18, u19, u20, u21, u22, u23, u24, u25, u26, u27, u28, u29, u30, u31, u32, u33, u34, u35, u36, u37, u38, u39, u40, u41, u42, u43, u44, u45, u46, u47, u48, u49, u50, u51, u52, u53, u54, rfl, ⟨hbf, hrz⟩⟩
  have q0 := hrz.cell 0
  have q1 := hrz.cell 1
  have q2 := hrz.cell 2
  simp only [List.getElem?_toArray, List.getElem?_cons_zero, List.getElem?_cons_succ] at q0 q1 q2
  have y0 := hrz.frozen 0
  have y1 := hrz.frozen 1
  have y2 := hrz.frozen 2
  go_wp2_with fail
  simp only [Exit.jump]
  have hz := ((hrz.set 0 (.int .i64 0)).set 1 (.int .i64 0)).set 2 (.int .i64 0)
  simp only [List.setIfInBounds_toArray, List.set_cons_zero, List.set_cons_succ] at hz
  have hbz := ((hbf.setCell (p := ⟨w.heap.size + 2, 0, none⟩) (by show w.heap.size ≤ w.heap.size + 2; omega) (.int .i64 0)).setCell (p := ⟨w.heap.size + 2, 1, none⟩) (by show w.heap.size ≤ w.heap.size + 2; omega) (.int .i64 0)).setCell (p := ⟨w.heap.size + 2, 2, none⟩) (by show w.heap.size ≤ w.heap.size + 2; omega) (.int .i64 0)
  exact bodyPost_ret (results_cell_tmp_tmp_row (p := 6) (u := 7) (v := 8) (ty := 52) (by kernel_rfl) _ _ (w.heap.size + 2) _ _ _ _ rfl hz Tryz.underlying52 rfl (by kernel_rfl)) rfl ⟨rfl, hbz⟩
section
variable {w0 w : World} {X : Nat → Prop} {r p N M c : Nat} {G H : Lg} {n m : Nat} {tt : BT Ent n} {ty : BT Ent m} {tot : Nat} {L : List Tm}
set_option maxHeartbeats 8000000 in
theorem dput_new (h : Dc w0 w X r p N M c G H tt ty tot L) (htot : 500 ≤ tot) (hL : L.length ≤ 100) (x : Tm) (hx : checkOf x = 0) (hn : x ∉ L) (hc : c + 300110 < 500000) :
 Calls Tryz.prog 25 #[.pointer (some ⟨p, 0, none⟩), .agg #[.int .i64 (tt.page : Int), .int .i64 (ty.page : Int), .int .i64 ((L.length : Nat) : Int)], x.val] w fun e w' => ∃ (n' m' : Nat) (tt' : BT Ent n') (ty' : BT Ent m') (H' : Lg) (c' : Nat),
  e = .returned (.tuple #[.agg #[.int .i64 (tt'.page : Int), .int .i64 (ty'.page : Int), .int .i64 ((L.length + 1 : Nat) : Int)], .int .i64 ((L.length + 1 : Nat) : Int), .int .i64 0]) ∧ c' ≤ c + 220 ∧ Dc w0 w' X r p N M c' G H' tt' ty' tot (L ++ [x]) ∧ Mx w0 X w w' := by
 have hroom := h.room
 have hwl := h.pb.below.size
 have hlt := setL_length ⟨(encT x).toArray⟩ ⟨(le ((L.length + 1 : Nat) : Int) 8).toArray⟩ h.treeT.sorted
 rw [h.dict.absent hx hn] at hlt
 simp only [Option.isSome_none, Bool.false_eq_true, if_false, Nat.add_zero] at hlt
 have hlT := h.dict.lenT
 have hlY := h.dict.lenY
 obtain ⟨ti, hti⟩ : ∃ q : Int, q = (tt.page : Int) := ⟨_, rfl⟩
 obtain ⟨ii, hii⟩ : ∃ q : Int, q = (ty.page : Int) := ⟨_, rfl⟩
 obtain ⟨li, hli⟩ : ∃ q : Int, q = ((L.length : Nat) : Int) := ⟨_, rfl⟩
 obtain ⟨lj, hlj⟩ : ∃ q : Int, q = ((L.length + 1 : Nat) : Int) := ⟨_, rfl⟩
 rw [← hti, ← hii, ← hli, ← hlj]
 have hlj2 : lj = li + 1 := by omega
 have hli0 : 0 ≤ li := by omega
 have hli1 : li ≤ 100 := by omega
 have HN : ∀ u, Below w.heap.size w u → Calls Tryz.prog 58 #[.agg #[.pointer (some ⟨p, 0, none⟩), .int .i64 ti], x.val] u fun e w' => e = .returned (.tuple #[.int .i64 0, .int .i64 2]) ∧ Below u.heap.size u w' := fun u hu => by
  rw [hti]
  exact number_none (h.read hu).pb h.treeT h.dict.valT x (of_check hx) hx (h.dict.absent hx hn)
 have HK1 := Lib.hid (fun (u : World) (hu : Below w.heap.size w u) (b : Nat) (hb : Blk u b #[.pointer (some ⟨p, 0, none⟩), .int .i64 ti] 110) (hlo : w.heap.size ≤ b) =>
  nkeep_any (h.take hu).pb h.treeT (by omega) b 110 (by rw [← hti]; exact hb) (Or.inr ⟨hlo, hb.lt⟩) (by omega) x hx lj (by omega))
 have HK2 := Lib.hid (fun (u u' : World) (hu : Below w.heap.size w u) (n' : Nat) (tt' : BT Ent n') (H1 : Lg) (c1 : Nat) (hc1 : c1 ≤ c + 110) (h1 : Changed N H H1 tt tt' (setL ⟨(encT x).toArray⟩ ⟨(le lj 8).toArray⟩ tt.flat)) (hp : Pb w0 u' (fun k => X k ∨ (w.heap.size ≤ k ∧ k < u.heap.size)) r p N M c1 G (some H1)) (b : Nat) (hb : Blk u' b #[.pointer (some ⟨p, 0, none⟩), .int .i64 ii] 111) (hlo : w.heap.size ≤ b ∧ b < u.heap.size) =>
  tkeep_any hp (h.mid h1).1 (by
   have s1 := (Side.chg (a := []) (b := [⟨m, ty⟩]) (s := ⟨n, tt⟩) h.side h1).free
   simp only [List.nil_append, List.length_cons, List.length_nil, List.map_cons, List.map_nil, List.sum_cons, List.sum_nil] at s1
   rw [h1.flat, hlj, hlt] at s1
   omega) b 111 (by rw [← hii]; exact hb) (Or.inr hlo) (by omega) x hx lj (by omega))
 have HPUT := Lib.hid (show ∀ (n' m' : Nat) (tt' : BT Ent n') (ty' : BT Ent m') (H1 H2 : Lg) (w2 : World) (X' : Nat → Prop) (c' : Nat), Changed N H H1 tt tt' (setL ⟨(encT x).toArray⟩ ⟨(le lj 8).toArray⟩ tt.flat) → Changed N H1 H2 ty ty' (setL ⟨(plc lj).toArray⟩ ⟨(encT x).toArray⟩ ty.flat) → Pb w0 w2 X' r p N M c' G (some H2) → Dc w0 w2 X' r p N M c' G H2 tt' ty' tot (L ++ [x]) from by rw [hlj]; exact fun n' m' tt' ty' H1 H2 w2 X' c' a1 a2 a3 => h.put hx hn (by omega) a1 a2 a3)
 have HWL := Lib.hid hwl
 clear hti hii hli hlj hlt hlT hlY hroom h hn hx hL htot hc hwl
 subst hlj2
 have HT := Lib.hid (fun w => trees_any w p ti ii li)
 have HNN := Lib.hid HN
 clear HN
 obtain ⟨k, s, l, u⟩ := x
 unfold Tm.val at HNN HK1 HK2 ⊢
 dsimp only at HNN HK1 HK2 ⊢
 have hal : Below w.heap.size w (((w.alloc (.cells #[.int .i64 ti, .int .i64 ii, .int .i64 li] 52)).alloc (.cells #[.int .i64 k, .string s, .string l, .string u] 59)).alloc (.cells #[.int .i64 0, .int .i64 0, .int .i64 0] 52)) := (((Below.refl _ w).alloc (Nat.le_refl _) _).alloc (by simp) _).alloc (by simp; omega) _
 have hbd := ((Blk.new w #[.int .i64 ti, .int .i64 ii, .int .i64 li] 52).alloc (.cells #[.int .i64 k, .string s, .string l, .string u] 59)).alloc (.cells #[.int .i64 0, .int .i64 0, .int .i64 0] 52)
 have hbt := (Blk.new (w.alloc (.cells #[.int .i64 ti, .int .i64 ii, .int .i64 li] 52)) #[.int .i64 k, .string s, .string l, .string u] 59).alloc (.cells #[.int .i64 0, .int .i64 0, .int .i64 0] 52)
 have hbr := Blk.new ((w.alloc (.cells #[.int .i64 ti, .int .i64 ii, .int .i64 li] 52)).alloc (.cells #[.int .i64 k, .string s, .string l, .string u] 59)) #[.int .i64 0, .int .i64 0, .int .i64 0] 52
 have hz1 : (w.alloc (.cells #[.int .i64 ti, .int .i64 ii, .int .i64 li] 52)).heap.size = w.heap.size + 1 := by simp
 have hz2 : ((w.alloc (.cells #[.int .i64 ti, .int .i64 ii, .int .i64 li] 52)).alloc (.cells #[.int .i64 k, .string s, .string l, .string u] 59)).heap.size = w.heap.size + 2 := by simp
 rw [hz1] at hbt
 rw [hz2] at hbr
 clear hz1 hz2
 go_enter Tryz.func25, Tryz.ntmps25
 go_wp2_with fail
 refine wp_scope_jumps 0 (fun _ _ => False) (fun _ _ => 0) rfl ?_ (fun _ _ h => h.elim)
 skip
 go_wp2_with fail
 generalize World.alloc (World.alloc (World.alloc w _) _) _ = w2 at hal hbd hbt hbr ⊢
 refine (HT.out _).mono ?_
 rintro en w3 ⟨rfl, hb3⟩
 have hal3 := hal.trans (hb3.mono hal.size)
 have hbd3 : Blk w3 w.heap.size _ _ := (hb3.block _ hbd.lt).trans hbd
 have hbt3 : Blk w3 (w.heap.size + 1) _ _ := (hb3.block _ hbt.lt).trans hbt
 have hbr3 : Blk w3 (w.heap.size + 2) _ _ := (hb3.block _ hbr.lt).trans hbr
 have hB5d := (hbd3.alloc (.cells #[.pointer (some ⟨p, 0, none⟩), .int .i64 ti] 110)).alloc (.cells #[.pointer (some ⟨p, 0, none⟩), .int .i64 ii] 111)
 have hB5t := (hbt3.alloc (.cells #[.pointer (some ⟨p, 0, none⟩), .int .i64 ti] 110)).alloc (.cells #[.pointer (some ⟨p, 0, none⟩), .int .i64 ii] 111)
 have hB5r := (hbr3.alloc (.cells #[.pointer (some ⟨p, 0, none⟩), .int .i64 ti] 110)).alloc (.cells #[.pointer (some ⟨p, 0, none⟩), .int .i64 ii] 111)
 have hB5x := (Blk.new w3 #[.pointer (some ⟨p, 0, none⟩), .int .i64 ti] 110).alloc (.cells #[.pointer (some ⟨p, 0, none⟩), .int .i64 ii] 111)
 have hB5y := Blk.new (w3.alloc (.cells #[.pointer (some ⟨p, 0, none⟩), .int .i64 ti] 110)) #[.pointer (some ⟨p, 0, none⟩), .int .i64 ii] 111
 rw [show (w3.alloc (.cells #[.pointer (some ⟨p, 0, none⟩), .int .i64 ti] 110)).heap.size = w3.heap.size + 1 by simp] at hB5y
 have hal5 := (hal3.alloc hal3.size (.cells #[.pointer (some ⟨p, 0, none⟩), .int .i64 ti] 110)).alloc (Nat.le_trans hal3.size (by simp)) (.cells #[.pointer (some ⟨p, 0, none⟩), .int .i64 ii] 111)
 have z0 := hB5t.cell 0
 have z1 := hB5t.cell 1
 have z2 := hB5t.cell 2
 have z3 := hB5t.cell 3
 simp only [List.getElem?_toArray, List.getElem?_cons_zero, List.getElem?_cons_succ] at z0 z1 z2 z3
 have hlt3 : w.heap.size + 2 < w3.heap.size := hbr3.lt
 clear hal hbd hbt hbr hb3 hbd3 hbt3 hbr3 hal3 HT
 go_wp2_with fail
 clear z0 z1 z2 z3
 generalize World.alloc (World.alloc w3 _) _ = w5 at hal5 hB5d hB5t hB5r hB5x hB5y ⊢
 refine (HNN.out _ hal5).mono ?_
 rintro en w6 ⟨rfl, hb6⟩
 clear HNN
 have hal6 := hal5.trans (hb6.mono hal5.size)
 have hd6 : Blk w6 w.heap.size _ _ := (hb6.block _ hB5d.lt).trans hB5d
 have ht6 : Blk w6 (w.heap.size + 1) _ _ := (hb6.block _ hB5t.lt).trans hB5t
 have hr6 : Blk w6 (w.heap.size + 2) _ _ := (hb6.block _ hB5r.lt).trans hB5r
 have hx6 : Blk w6 w3.heap.size _ _ := (hb6.block _ hB5x.lt).trans hB5x
 have hy6 : Blk w6 (w3.heap.size + 1) _ _ := (hb6.block _ hB5y.lt).trans hB5y
 clear hal5 hB5d hB5t hB5r hB5x hB5y hb6
 have d0 := hd6.cell 0
 have d1 := hd6.cell 1
 have d2 := hd6.cell 2
 simp only [List.getElem?_toArray, List.getElem?_cons_zero, List.getElem?_cons_succ] at d0 d1 d2
 have t0 := ht6.cell 0
 have t1 := ht6.cell 1
 have t2 := ht6.cell 2
 have t3 := ht6.cell 3
 simp only [List.getElem?_toArray, List.getElem?_cons_zero, List.getElem?_cons_succ] at t0 t1 t2 t3
 go_wp2_with fail
 clear d0 d1 d2 t0 t1 t2 t3
 have hy6l := hy6.lt
 have hwl := HWL.out
 refine (HK1.out w6 hal6 w3.heap.size hx6 (by omega)).mono ?_
 rintro en w7 ⟨rfl, n1, tt1, H1, c1, hc1, hch1, hpb1, hbx7, hmv1⟩
 have hkeep : ∀ j, w.heap.size ≤ j → j < w6.heap.size → j ≠ w3.heap.size → ¬ ((w0.heap.size ≤ j ∧ ¬ (X j ∨ (w.heap.size ≤ j ∧ j < w6.heap.size))) ∨ j = w3.heap.size) := fun j h1 h2 h3 e => by
  rcases e with e | e
  ·exact e.2 (.inr ⟨h1, h2⟩)
  ·exact h3 e
 have ht7 := ht6.moved hmv1 (hkeep _ (by omega) (by omega) (by omega))
 have hr7 := hr6.moved hmv1 (hkeep _ (by omega) (by omega) (by omega))
 have hy7 := hy6.moved hmv1 (hkeep _ (by omega) (by omega) (by omega))
 clear hkeep hd6 ht6 hr6 hx6
 have t0 := ht7.cell 0
 have t1 := ht7.cell 1
 have t2 := ht7.cell 2
 have t3 := ht7.cell 3
 simp only [List.getElem?_toArray, List.getElem?_cons_zero, List.getElem?_cons_succ] at t0 t1 t2 t3
 go_wp2_with fail
 clear t0 t1 t2 t3
 refine (HK2.out w6 w7 hal6 n1 tt1 H1 c1 hc1 hch1 hpb1 (w3.heap.size + 1) hy7 ⟨by omega, hy6l⟩).mono ?_
 rintro en w8 ⟨rfl, m1, ty1, H2, c2, hc2, hch2, hpb2, hby8, hmv2⟩
 have hkeep : ∀ j, w.heap.size ≤ j → j < w6.heap.size → j ≠ w3.heap.size + 1 → ¬ ((w0.heap.size ≤ j ∧ ¬ (X j ∨ (w.heap.size ≤ j ∧ j < w6.heap.size))) ∨ j = w3.heap.size + 1) := fun j h1 h2 h3 e => by
  rcases e with e | e
  ·exact e.2 (.inr ⟨h1, h2⟩)
  ·exact h3 e
 have hx8 := hbx7.moved hmv2 (hkeep _ (by omega) (by omega) (by omega))
 have hr8 := hr7.moved hmv2 (hkeep _ (by omega) (by omega) (by omega))
 obtain ⟨pt, hpt⟩ : ∃ q : Int, q = (tt1.page : Int) := ⟨_, rfl⟩
 obtain ⟨py, hpy⟩ : ∃ q : Int, q = (ty1.page : Int) := ⟨_, rfl⟩
 rw [← hpt] at hx8
 rw [← hpy] at hby8
 have HPT := Lib.hid hpt
 have HPY := Lib.hid hpy
 have HC1 := Lib.hid (And.intro hc1 hc2)
 have HCH := Lib.hid (And.intro hch1 hch2)
 have HPB := Lib.hid hpb2
 have HMV := Lib.hid (And.intro hmv1 hmv2)
 clear hkeep ht7 hr7 hy7 hbx7 hc1 hch1 hpb1 hc2 hch2 hpb2 hpt hpy hmv1 hmv2
 have a0 := hx8.cell 0
 have a1 := hx8.cell 1
 simp only [List.getElem?_toArray, List.getElem?_cons_zero, List.getElem?_cons_succ] at a0 a1
 have b0 := hby8.cell 0
 have b1 := hby8.cell 1
 simp only [List.getElem?_toArray, List.getElem?_cons_zero, List.getElem?_cons_succ] at b0 b1
 have q0 := hr8.cell 0
 have q1 := hr8.cell 1
 have q2 := hr8.cell 2
 simp only [List.getElem?_toArray, List.getElem?_cons_zero, List.getElem?_cons_succ] at q0 q1 q2
 have y0 := hr8.frozen 0
 have y1 := hr8.frozen 1
 have y2 := hr8.frozen 2
 go_wp2_with fail
 simp only [Exit.jump]
 have hz := ((hr8.set 0 (.int .i64 pt)).set 1 (.int .i64 py)).set 2 (.int .i64 (li + 1))
 simp only [List.setIfInBounds_toArray, List.set_cons_zero, List.set_cons_succ] at hz
 have hw9 := Moved.three w8 (w.heap.size + 2) (.int .i64 pt) (.int .i64 py) (.int .i64 (li + 1))
 obtain ⟨hc1, hc2⟩ := HC1.out
 have hw62 : w.heap.size + 2 < w6.heap.size := by omega
 refine bodyPost_ret (results_cell_tmp_tmp_row (p := 6) (u := 7) (v := 8) (ty := 52) (by kernel_rfl) _ _ (w.heap.size + 2) _ _ _ _ rfl hz Tryz.underlying52 rfl (by kernel_rfl)) rfl ⟨n1, m1, tt1, ty1, H2, c2, ?_, by omega, HPUT.out n1 m1 tt1 ty1 H1 H2 _ X c2 HCH.out.1 HCH.out.2 ((HPB.out.mv hw9 (fun k hk => ?_)).less (fun j hj => .inl hj)), ?_⟩
 ·rw [← HPT.out, ← HPY.out]; rfl
 ·subst hk
  exact ⟨.inr ⟨by omega, hw62⟩, by omega⟩
 ·refine (((Moved.of_below hal6 _).trans HMV.out.1 (fun j hj => ?_)).trans HMV.out.2 (fun j hj => ?_)).trans hw9 (fun j hj => .inr (by omega))
  ·rcases hj with e | e
   ·exact .inl ⟨e.1, fun e' => e.2 (.inl e')⟩
   ·exact .inr (by omega)
  ·rcases hj with e | e
   ·exact .inl ⟨e.1, fun e' => e.2 (.inl e')⟩
   ·exact .inr (by omega)
end
end Go.Proofs.YtbpdapcmaioeiaaGreat
