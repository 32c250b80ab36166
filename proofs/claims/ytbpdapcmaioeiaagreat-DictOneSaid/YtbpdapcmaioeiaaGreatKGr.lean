/- Gr -/
import Derived.Test.YtbpdapcmaioeiaaGreatKGq
import Derived.Laws.Cover1
namespace Go.Proofs.YtbpdapcmaioeiaaGreat
open Go.RowKit Go.Maps
set_option maxRecDepth 100000
set_option linter.unusedVariables false
set_option maxHeartbeats 2000000 in
theorem search_place (n : Nat) (hn : n ≤ 1000000) (P : Nat → Bool) (c1 c2 : Value) (w : World) (hf : ∀ h : Nat, h < n → ∀ w1, Below w.heap.size w w1 → Calls Tryz.prog 162 #[.int .i64 h, c1, c2] w1 fun e w2 => e = .returned (.bool (P h)) ∧ Below w1.heap.size w1 w2) :
 Calls Tryz.prog 160 #[.int .i64 n, .func (.func 162) #[] #[c1, c2]] w fun e w' => ∃ m : Nat, e = .returned (.int .i64 m) ∧ m ≤ n ∧ (m = n ∨ P m = true) ∧ (m = 0 ∨ P (m - 1) = false) ∧ Below w.heap.size w w' := by
 have HF := Lib.hid hf
 clear hf
 go_enter Tryz.func160, Tryz.ntmps160
 go_wp2_with fail
 go_loopw [5, 6] (fun v5 v6 wr => ∃ i j : Nat, i ≤ j ∧ j ≤ n ∧ v5 = .int .i64 i ∧ v6 = .int .i64 j ∧ (j = n ∨ P j = true) ∧ (i = 0 ∨ P (i - 1) = false) ∧ Below w.heap.size w wr) (fun v5 v6 _ => (intOf v6 - intOf v5).toNat)
 case atStart => exact ⟨0, n, Nat.zero_le _, Nat.le_refl _, rfl, rfl, .inl rfl, .inl rfl, Below.refl _ _⟩
 case round =>
  obtain ⟨i, j, hij, hjn, rfl, rfl, h1, h2, hb⟩ := hrel
  have H1 := Lib.hid h1
  have H2 := Lib.hid h2
  have HB := Lib.hid hb
  clear h1 h2 hb
  by_cases hlt : i < j
  ·have hlt' : (i : Int) < j := by omega
   obtain ⟨h, hh⟩ : ∃ h : Nat, h = (i + j) / 2 := ⟨_, rfl⟩
   have hhi : ((i : Int) + j) / 2 = h := by omega
   have hi1 : i ≤ h := by omega
   have hj1 : h < j := by omega
   have hfh := HF.out h (by omega) wr HB.out
   have HFH := Lib.hid hfh
   clear hfh hh
   go_wp2_with fail
   refine HFH.out.mono ?_
   rintro e w2 ⟨rfl, hb2⟩
   have HB2 := Lib.hid (HB.out.trans (hb2.mono HB.out.size))
   obtain ⟨t, ht⟩ : ∃ t, t = P h := ⟨_, rfl⟩
   rw [← ht]
   have HT := Lib.hid ht
   clear hb2 ht HFH
   cases t with
   | false =>
    go_wp2_with fail
    go_roundw
    case rel => exact ⟨h + 1, j, by omega, hjn, by go_num, rfl, H1.out, .inr (by simpa using HT.out.symm), HB2.out⟩
    case measure => simp [intOf]; omega
   | true =>
    go_wp2_with fail
    go_roundw
    case rel => exact ⟨i, h, hi1, by omega, rfl, rfl, .inr HT.out.symm, H2.out, HB2.out⟩
    case measure => simp [intOf]; omega
  ·obtain rfl : i = j := by omega
   go_wp2_with fail
   go_ret
   exact ⟨i, rfl, hjn, H1.out, H2.out, HB.out⟩
/-- Is one text not below another? -/
def geB (a b : ByteArray) : Bool := !(Op.bytesLess a.toList b.toList)
def geK (es : List Ent) (key : ByteArray) (h : Nat) : Bool := match es[h]? with
 | some e => geB e.key key
 | none => false
set_option maxHeartbeats 2000000 in
/-- place's question of a leaf: is the entry not below the key? -/
theorem placeq_any (b4 b5 : Nat) (v : Value) (es : List Ent) (key : ByteArray) (h : Nat) (hh : h < es.length) (w : World) (c4 : w.cell? ⟨b4, 2, none⟩ = some v) (c5 : w.cell? ⟨b5, 0, none⟩ = some (.string key)) (hes : Ens w v es) :
 Calls Tryz.prog 162 #[.int .i64 h, .pointer (some ⟨b4, 0, none⟩), .pointer (some ⟨b5, 0, none⟩)] w fun e w2 => e = .returned (.bool (geK es key h)) ∧ Below w.heap.size w w2 := by
 obtain ⟨b, off, cap, rfl, hc1, hc2, hbs, hce⟩ := hes.at (by omega)
 obtain ⟨d0, -, -⟩ := hce h hh
 obtain ⟨e, he⟩ : ∃ y, y = es[h] := ⟨_, rfl⟩
 obtain ⟨n, hn⟩ : ∃ n, n = es.length := ⟨_, rfl⟩
 have hg : geK es key h = geB e.key key := by unfold geK; rw [List.getElem?_eq_getElem hh, ← he]
 rw [hg]
 rw [← he] at d0
 rw [← hn] at c4 hh hc1
 have C4 := Lib.hid c4
 have C5 := Lib.hid c5
 have D0 := Lib.hid d0
 have i0 : (h : Int) < n := by omega
 clear hes hce he hn c4 c5 d0 hg
 go_enter Tryz.func162, Tryz.ntmps162
 go_wp2_with fail
 refine wp_region_any (by kernel_rfl) ?_
 change wpAny _ _ _ _ _ _ _ (World.drew _)
 refine wpAny_of_held (S := fun (w' : World) => w'.cell? ⟨b4, 2, none⟩ = some (.slice (some ⟨b, off, none⟩) n cap) ∧ w'.cell? ⟨b5, 0, none⟩ = some (.string key) ∧ w'.cell? ⟨b, off + h * 3, none⟩ = some (.string e.key)) _ _ _ _ ?_
 have hS : (fun (w' : World) => w'.cell? ⟨b4, 2, none⟩ = some (.slice (some ⟨b, off, none⟩) n cap) ∧ w'.cell? ⟨b5, 0, none⟩ = some (.string key) ∧ w'.cell? ⟨b, off + h * 3, none⟩ = some (.string e.key)) _ := ⟨C4.out, C5.out, D0.out⟩
 try simp only [Act.put, List.setIfInBounds_toArray, List.set_cons_zero, List.set_cons_succ]
 refine wpAnyH_take (i := 0) (oi := ⟨some 5, _, _, _, _, _⟩) (v := ?_) rfl (by kernel_rfl) (by kernel_rfl) (by kernel_rfl) (fun _ _ _ h => h) (Or.inl ⟨by simp only [Region.wanted], ?_⟩) hS ?_
 rotate_left
 ·intro wz hSw
  clear hSw
  go_simp
  first | done | with_reducible rfl
 try simp only [Act.put, List.setIfInBounds_toArray, List.set_cons_zero, List.set_cons_succ]
 refine wpAnyH_take (i := 1) (oi := ⟨some 6, _, _, _, _, _⟩) (v := ?_) rfl (by kernel_rfl) (by kernel_rfl) (by kernel_rfl) (fun _ _ _ h => h) (Or.inl ⟨by simp only [Region.wanted], ?_⟩) hS ?_
 rotate_left
 ·intro wz hSw
  (try dsimp only at hSw)
  (try go_split_ands)
  go_simp
  first | done | with_reducible rfl
 try simp only [Act.put, List.setIfInBounds_toArray, List.set_cons_zero, List.set_cons_succ]
 refine wpAnyH_take (i := 2) (oi := ⟨some 7, _, _, _, _, _⟩) (v := ?_) rfl (by kernel_rfl) (by kernel_rfl) (by kernel_rfl) (fun _ _ _ h => h) (Or.inl ⟨by simp only [Region.wanted], ?_⟩) hS ?_
 rotate_left
 ·intro wz hSw
  clear hSw
  go_simp
  first | done | with_reducible rfl
 try simp only [Act.put, List.setIfInBounds_toArray, List.set_cons_zero, List.set_cons_succ]
 refine wpAnyH_take (i := 3) (oi := ⟨some 8, _, _, _, _, _⟩) (v := ?_) rfl (by kernel_rfl) (by kernel_rfl) (by kernel_rfl) (fun _ _ _ h => h) (Or.inl ⟨by simp only [Region.wanted], ?_⟩) hS ?_
 rotate_left
 ·intro wz hSw
  clear hSw
  go_simp
  first | done | with_reducible rfl
 try simp only [Act.put, List.setIfInBounds_toArray, List.set_cons_zero, List.set_cons_succ]
 refine wpAnyH_take (i := 4) (oi := ⟨some 9, _, _, _, _, _⟩) (v := ?_) rfl (by kernel_rfl) (by kernel_rfl) (by kernel_rfl) (fun _ _ _ h => h) (Or.inl ⟨by simp only [Region.wanted], ?_⟩) hS ?_
 rotate_left
 ·intro wz hSw
  clear hSw
  go_simp
  first | done | with_reducible rfl
 try simp only [Act.put, List.setIfInBounds_toArray, List.set_cons_zero, List.set_cons_succ]
 refine wpAnyH_take (i := 5) (oi := ⟨some 10, _, _, _, _, _⟩) (v := ?_) rfl (by kernel_rfl) (by kernel_rfl) (by kernel_rfl) (fun _ _ _ h => h) (Or.inl ⟨by simp only [Region.wanted], ?_⟩) hS ?_
 rotate_left
 ·intro wz hSw
  (try dsimp only at hSw)
  (try go_split_ands)
  go_simp
  first | done | with_reducible rfl
 try simp only [Act.put, List.setIfInBounds_toArray, List.set_cons_zero, List.set_cons_succ]
 refine wpAnyH_take (i := 6) (oi := ⟨some 11, _, _, _, _, _⟩) (v := ?_) rfl (by kernel_rfl) (by kernel_rfl) (by kernel_rfl) (fun _ _ _ h => h) (Or.inl ⟨by simp only [Region.wanted], ?_⟩) hS ?_
 rotate_left
 ·intro wz hSw
  (try dsimp only at hSw)
  (try go_split_ands)
  go_simp
  first | done | with_reducible rfl
 try simp only [Act.put, List.setIfInBounds_toArray, List.set_cons_zero, List.set_cons_succ]
 refine wpAnyH_take (i := 7) (oi := ⟨some 12, _, _, _, _, _⟩) (v := ?_) rfl (by kernel_rfl) (by kernel_rfl) (by kernel_rfl) (fun _ _ _ h => h) (Or.inl ⟨by simp only [Region.wanted], ?_⟩) hS ?_
 rotate_left
 ·intro wz hSw
  clear hSw
  go_simp
  first | done | with_reducible rfl
 try simp only [Act.put, List.setIfInBounds_toArray, List.set_cons_zero, List.set_cons_succ]
 refine wpAnyH_take (i := 8) (oi := ⟨some 4, _, _, _, _, _⟩) (v := ?_) rfl (by kernel_rfl) (by kernel_rfl) (by kernel_rfl) (fun _ _ _ h => h) (Or.inl ⟨by simp only [Region.wanted], ?_⟩) hS ?_
 rotate_left
 ·intro wz hSw
  clear hSw
  go_simp
  first | done | with_reducible rfl
 try simp only [Act.put, List.setIfInBounds_toArray, List.set_cons_zero, List.set_cons_succ]
 refine wpAnyH_done (by kernel_rfl) ?_ _
 clear hS
 go_wp2_with fail
 go_ret
 exact ⟨rfl, (Below.refl w.heap.size w).drew⟩
end Go.Proofs.YtbpdapcmaioeiaaGreat
namespace Go.Proofs.YtbpdapcmaioeiaaGreat
open Go.RowKit Go.Maps
set_option maxRecDepth 100000
set_option linter.unusedVariables false
/-- Where a key stands in a leaf, or would. -/
def PlaceOf (es : List Ent) (key : ByteArray) (m : Nat) : Prop := m ≤ es.length ∧ (m = es.length ∨ geK es key m = true) ∧ (m = 0 ∨ geK es key (m - 1) = false)
set_option maxHeartbeats 2000000 in
theorem place_leaf (pv : Value) (at' : Int) (v : Value) (es : List Ent) (key : ByteArray) (w : World) (hes : Ens w v es) (hn : es.length ≤ 10000) :
 Calls Tryz.prog 147 #[pv, nodeV at' 0 v, .string key] w fun e w' => ∃ m : Nat, e = .returned (.tuple #[.int .i64 m, .int .i64 0]) ∧ PlaceOf es key m ∧ Below w.heap.size w w' := by
 obtain ⟨ao, cap, rfl, hc1, hc2⟩ := hes.form
 obtain ⟨n, hn'⟩ : ∃ n, n = es.length := ⟨_, rfl⟩
 rw [← hn'] at hes hc1 hn ⊢
 have hal1 : Below w.heap.size w (w.alloc (.cells #[.int .i64 at', .int .i64 0, .slice ao n cap] 140)) := (Below.refl _ w).alloc (Nat.le_refl _) _
 have hb1 := Blk.new w #[.int .i64 at', .int .i64 0, .slice ao n cap] 140
 have hs1 : (w.alloc (.cells #[.int .i64 at', .int .i64 0, .slice ao n cap] 140)).heap.size = w.heap.size + 1 := by simp
 obtain ⟨w1, hw1⟩ : ∃ w1, w1 = w.alloc (.cells #[.int .i64 at', .int .i64 0, .slice ao n cap] 140) := ⟨_, rfl⟩
 rw [← hw1] at hal1 hb1 hs1
 have hal2 : Below w1.heap.size w1 (w1.alloc (.cells #[.string key] 9)) := (Below.refl _ w1).alloc (Nat.le_refl _) _
 have hb2 := Blk.new w1 #[.string key] 9
 obtain ⟨w2, hw2⟩ : ∃ w2, w2 = w1.alloc (.cells #[.string key] 9) := ⟨_, rfl⟩
 rw [← hw2] at hal2 hb2
 have hb12 := hb1.moved (Moved.of_below hal2 (fun _ => False)) (fun h => h)
 rw [hs1] at hb2
 have d1 : w2.cell? ⟨w.heap.size, 1, none⟩ = some (.int .i64 0) := by rw [hb12.cell]; rfl
 have d2 : w2.cell? ⟨w.heap.size, 2, none⟩ = some (.slice ao n cap) := by rw [hb12.cell]; rfl
 have d5 : w2.cell? ⟨w.heap.size + 1, 0, none⟩ = some (.string key) := by rw [hb2.cell]; rfl
 have HB := Lib.hid (hal1.trans (hal2.mono hal1.size))
 have hens2 : Ens w2 (.slice ao n cap) es := Ens.below (Ens.below hes hal1) hal2
 have hse := search_place n (by omega) (geK es key) (.pointer (some ⟨w.heap.size, 0, none⟩)) (.pointer (some ⟨w.heap.size + 1, 0, none⟩)) w2 (fun h hh w3 hb3 =>
  placeq_any _ _ _ es key h (by rw [← hn']; exact hh) w3 ((hb3.cell (World.block_lt_of_cell? w2 _ d2)).trans d2) ((hb3.cell (World.block_lt_of_cell? w2 _ d5)).trans d5) (Ens.below hens2 hb3))
 have HSE := Lib.hid hse
 have HW := Lib.hid (show w2 = (w.alloc (.cells #[.int .i64 at', .int .i64 0, .slice ao n cap] 140)).alloc (.cells #[.string key] 9) by rw [hw2, hw1])
 have HN := Lib.hid hn'
 have HS1 := Lib.hid hs1
 rw [HW.out] at d1 d2 d5
 unfold nodeV
 clear hes hn' hal1 hb1 hs1 hal2 hb2 hb12 hens2 hse hw1 hw2
 go_enter Tryz.func147, Tryz.ntmps147
 go_wp2_with fail
 rw [← HW.out]
 refine HSE.out.mono ?_
 rintro en w3 ⟨m, rfl, hm1, hm2, hm3, hb3⟩
 have HP := Lib.hid (show PlaceOf es key m from ⟨by rw [← HN.out]; exact hm1, by rw [← HN.out]; exact hm2, hm3⟩)
 have HB3 := Lib.hid (HB.out.trans (hb3.mono HB.out.size))
 clear hm1 hm2 hm3 hb3 HSE d1 d2 d5
 go_wp2_with fail
 go_ret2
 exact ⟨m, rfl, HP.out, HB3.out⟩
theorem Tryz.infoStep : (Tryz.prog.info? 142).map (fun i => (i.zero, i.size, i.bytes)) = some (some (.agg #[.int .i64 0, .int .i64 0, .slice none 0 0, .int .i64 0]), 4, 48) := by kernel_rfl
end Go.Proofs.YtbpdapcmaioeiaaGreat
namespace Go.Proofs.YtbpdapcmaioeiaaGreat
open Go.RowKit Go.Maps
set_option maxRecDepth 100000
set_option linter.unusedVariables false
end Go.Proofs.YtbpdapcmaioeiaaGreat
namespace Go.Proofs.YtbpdapcmaioeiaaGreat
open Go.RowKit Go.Maps
set_option maxRecDepth 100000
set_option linter.unusedVariables false
theorem sizes_cons (lvl : Int) (e : Ent) (es : List Ent) : sizes lvl (e :: es) = esize lvl e + sizes lvl es := by unfold sizes; simp
theorem sizes_append (lvl : Int) (a b : List Ent) : sizes lvl (a ++ b) = sizes lvl a + sizes lvl b := by unfold sizes; simp
/-- An entry of a leaf. -/
def LeafE (e : Ent) : Prop := e.kid = 0 ∧ e.key.size ≤ 255 ∧ e.val.size ≤ 60000
theorem encE_leaf_len {e : Ent} (h : LeafE e) : (encE 0 e).length = esize 0 e := by
 unfold encE esize
 rw [if_neg (by decide), if_neg (by decide), List.length_append, le_length, tx_length, ByteArray.size_append]
 obtain ⟨-, h2, h3⟩ := h
 omega
theorem encs_leaf_len {es : List Ent} (h : ∀ e ∈ es, LeafE e) : (encs 0 es).length = sizes 0 es := by
 induction es with
 | nil => rfl
 | cons e t ih =>
  rw [sizes_cons, ← ih (fun x hx => h x (List.mem_cons_of_mem _ hx)), ← encE_leaf_len (h e (List.mem_cons_self ..)), show encs 0 (e :: t) = encE 0 e ++ encs 0 t from rfl, List.length_append]
theorem LeafE.ok {e : Ent} (h : LeafE e) : EntOk e := by obtain ⟨-, h2, h3⟩ := h; exact ⟨by omega, by omega⟩
theorem leaf_few {es : List Ent} (h : sizes 0 es ≤ 502) : es.length ≤ 167 := by
 have : es.length * 3 ≤ sizes 0 es := by
  clear h
  induction es with
  | nil => exact Nat.le_refl _
  | cons e t ih =>
   rw [sizes_cons, List.length_cons]
   have : 3 ≤ esize 0 e := by unfold esize; rw [if_neg (by decide)]; omega
   omega
 omega
theorem leaf_part {es : List Ent} (h : ∀ e ∈ es, LeafE e) (hs : sizes 0 es ≤ 502) : PartOk 0 es := by
 refine ⟨fun e he => (h e he).ok, ?_, fun k => ?_, by have := leaf_few hs; omega⟩
 ·unfold enc
  rw [List.length_append, List.length_append, le_length, le_length, encs_leaf_len h]
  omega
 ·rw [encs_leaf_len (fun e he => h e (List.mem_of_mem_take he))]
  have : sizes 0 es = sizes 0 (es.take k) + sizes 0 (es.drop k) := by rw [← sizes_append, List.take_append_drop]
  omega
end Go.Proofs.YtbpdapcmaioeiaaGreat
namespace Go.Proofs.YtbpdapcmaioeiaaGreat
open Go.RowKit Go.Maps
set_option maxRecDepth 100000
set_option linter.unusedVariables false
/-- A leaf's entries with a key set. -/
def setEs (es : List Ent) (key val : ByteArray) (m : Nat) : List Ent := es.take m ++ [⟨key, val, 0⟩] ++ es.drop (if hasOf es m key then m + 1 else m)
end Go.Proofs.YtbpdapcmaioeiaaGreat
namespace Go.Proofs.YtbpdapcmaioeiaaGreat
open Go.RowKit Go.Maps
set_option maxRecDepth 100000
set_option linter.unusedVariables false
theorem bt_new {w0 w : World} {X : Nat → Prop} {r p N M c : Nat} {G : Lg} {H : Lg} (h : Pb w0 w X r p N M c G (some H)) (hc : c + 1 < 500000) {a : Nat} {rest : List Nat} (hf : H.free = a :: rest) :
 Calls Tryz.prog 12 #[.pointer (some ⟨p, 0, none⟩)] w fun e w' => e = .returned (.tuple #[.int .i64 a, .int .i64 0]) ∧
  Pb w0 w' X r p N M (c + 2) G (some { H with free := rest, page := upd H.page a (page (enc 0 [])) }) ∧ Mx w0 X w w' := by
 have HA := Lib.hid (bt_add h hc hf 0 (.slice none 0 0) [] (Ens.nil w) (fun h => by simp at h) (fun e he => by simp at he) (fun k => by simp [encs]) (by simp) (by decide))
 clear h hf
 go_enter Tryz.func12, Tryz.ntmps12
 go_wp2_with fail
 refine HA.out.mono ?_
 rintro e w1 ⟨rfl, h1, hm⟩
 have H1 := Lib.hid h1
 have HM := Lib.hid hm
 clear h1 hm HA
 go_wp2_with fail
 go_ret2
 exact ⟨rfl, H1.out, HM.out⟩
end Go.Proofs.YtbpdapcmaioeiaaGreat
namespace Go.Proofs.YtbpdapcmaioeiaaGreat
open Go.RowKit Go.Maps
set_option maxRecDepth 100000
set_option linter.unusedVariables false
end Go.Proofs.YtbpdapcmaioeiaaGreat
namespace Go.Proofs.YtbpdapcmaioeiaaGreat
open Go.RowKit Go.Maps
set_option maxRecDepth 100000
set_option linter.unusedVariables false
end Go.Proofs.YtbpdapcmaioeiaaGreat
namespace Go.Proofs.YtbpdapcmaioeiaaGreat
open Go.RowKit Go.Maps
set_option maxRecDepth 100000
set_option linter.unusedVariables false
def NoX5 : Nat → Prop := fun _ => False
theorem nox5_lt (w : World) : ∀ k, NoX5 k → k < w.heap.size := fun _ h => h.elim
theorem open5_any (w0 w : World) (hb : Below w0.heap.size w0 w) : Calls Tryz.prog 21 #[] w fun e w' => ∃ r p, e = .returned (.pointer (some ⟨p, 0, none⟩)) ∧ Pb w0 w' NoX5 r p 1199 0 0 (Lg.new 1199) (some (Lg.new 1199)) := by
 have HB := Lib.hid hb
 clear hb
 go_enter Tryz.func21, Tryz.ntmps21
 go_wp2_with fail
 refine (nd_new (w0 := w0) (X := NoX5) 1600 1600 rfl (by omega) (by omega) HB.out (nox5_lt w)).mono ?_
 rintro e w1 ⟨r, rfl, h1, -⟩
 have H1 := Lib.hid h1
 clear h1
 go_wp2_with fail
 refine (ndb_open (N := 1199) H1.out (by omega) (by omega)).mono ?_
 rintro e w2 ⟨p, rfl, h2, -⟩
 have H2 := Lib.hid h2
 clear h2
 go_wp2_with fail
 refine (pb_begin H2.out).mono ?_
 rintro e w3 ⟨rfl, h3, -⟩
 have H3 := Lib.hid h3
 clear h3
 go_wp2_with fail
 go_ret
 exact ⟨r, p, rfl, H3.out⟩
theorem new5_free : (Lg.new 1199).free = 1 :: List.range' 2 1197 := by
 show List.range' 1 (1199 - 1) = _
 rw [show (1199 - 1 : Nat) = 1197 + 1 by omega, List.range'_succ]
/-- The tree of one empty leaf. -/
theorem node_empty {N : Nat} {H : Lg} {i : Int} (hu : lgUsed N H i) (hp : H.page i.toNat = page (enc 0 [])) : NodeAt N H i 0 [] :=
 ⟨hu, hp, by decide, by decide, by decide, by decide, fun e he => by cases he⟩
end Go.Proofs.YtbpdapcmaioeiaaGreat
