/- Gm -/
import Derived.Test.YtbpdapcmaioeiaaGreatKGl
namespace Go.Proofs.YtbpdapcmaioeiaaGreat
open Go.RowKit Go.Maps
set_option maxRecDepth 100000
set_option linter.unusedVariables false
/-- The slice v reads as n elements of sz cells each, xs. -/
def Rw (sz : Nat) (w : World) (v : Value) (n : Nat) (xs : List Value) : Prop :=
 xs.length = n * sz ∧ ∃ ao cap, v = .slice ao n cap ∧ n ≤ cap ∧ cap ≤ maxLen ∧ (ao = none → cap = 0) ∧ ∀ ad, ao = some ad → ∀ j u, xs[j]? = some u → w.cell? (ad.add j) = some u
section
variable {sz n : Nat} {w w' : World} {v : Value} {xs : List Value}
theorem Rw.nil (sz : Nat) (w : World) : Rw sz w (.slice none 0 0) 0 [] := ⟨by simp, none, 0, rfl, Nat.le_refl _, by simp [maxLen], fun _ => rfl, fun ad h => by cases h⟩
theorem Rw.form (h : Rw sz w v n xs) : ∃ ao cap, v = .slice ao n cap ∧ n ≤ cap ∧ cap ≤ 9223372036854775807 := by
 obtain ⟨-, ao, cap, e, h1, h2, -⟩ := h; exact ⟨ao, cap, e, h1, h2⟩
theorem Rw.at (h : Rw sz w v n xs) (hn : 0 < n) (hz : 0 < sz) : ∃ b off cap, v = .slice (some ⟨b, off, none⟩) n cap ∧ n ≤ cap ∧ cap ≤ 9223372036854775807 ∧ b < w.heap.size ∧ ∀ j u, xs[j]? = some u → w.cell? ⟨b, off + j, none⟩ = some u := by
 obtain ⟨h0, ao, cap, rfl, h1, h2, h3, h4⟩ := h
 have hx : 0 < xs.length := by rw [h0]; exact Nat.mul_pos hn hz
 cases ao with
 | none => have := h3 rfl; omega
 | some ad =>
  obtain ⟨b, off, spot⟩ := ad
  have k0 := h4 _ rfl 0 _ (List.getElem?_eq_getElem hx)
  have hs : spot = none := by simpa [Addr.add] using World.cell?_spot k0
  subst hs
  have key : ∀ j u, xs[j]? = some u → w.cell? ⟨b, off + j, none⟩ = some u := fun j u hu => by
   have := h4 _ rfl j u hu
   rwa [Addr.add_lit] at this
  exact ⟨b, off, cap, rfl, h1, h2, World.block_lt_of_cell? w _ (key 0 _ (List.getElem?_eq_getElem hx)), key⟩
theorem Rw.moved {P : Nat → Prop} (h : Rw sz w v n xs) (hm : Moved P w w') (hP : 0 < xs.length → ∀ g, v.ownBlock = some g → ¬ P g) : Rw sz w' v n xs := by
 obtain ⟨h0, ao, cap, rfl, h1, h2, h3, h4⟩ := h
 refine ⟨h0, ao, cap, rfl, h1, h2, h3, fun ad had j u hu => ?_⟩
 subst had
 have hx : 0 < xs.length := by have := (List.getElem?_eq_some_iff.1 hu).1; omega
 have := h4 ad rfl j u hu
 have hlt := World.block_lt_of_cell? w _ this
 rw [← this]
 rw [block_add] at hlt
 exact World.cell?_of_block (by rw [block_add]; exact hm.block ad.block hlt (hP hx _ rfl))
theorem Rw.below (h : Rw sz w v n xs) (hb : Below w.heap.size w w') : Rw sz w' v n xs := h.moved (Moved.of_below hb (fun _ => False)) (fun _ _ _ h => h)
theorem Rw.lt (h : Rw sz w v n xs) (hx : 0 < xs.length) : ∀ g, v.ownBlock = some g → g < w.heap.size := by
 obtain ⟨h0, ao, cap, rfl, h1, h2, h3, h4⟩ := h
 intro g hg
 cases ao with
 | none => cases hg
 | some ad =>
  have := World.block_lt_of_cell? w _ (h4 ad rfl 0 _ (List.getElem?_eq_getElem hx))
  rw [block_add] at this
  cases hg
  exact this
theorem Rw.of_own {base : Nat} {t : TypeId} (h : w.ownsRow base t sz v n xs) : Rw sz w v n xs := by
 have hc := fun g (hg : v.ownBlock = some g) => World.ownsRow.cells h hg
 rcases id h with ⟨h0, ⟨rfl, rfl⟩ | ⟨g, cap, cur, rfl, hb, hh, h1, h2, h3, h4⟩⟩
 ·obtain rfl : xs = [] := List.eq_nil_of_length_eq_zero (by omega)
  exact Rw.nil _ _
 ·exact ⟨h.1, some ⟨g, 0, none⟩, cap, rfl, h1, h2, (fun e => by cases e), fun ad had j u hu => by cases had; exact hc g rfl j u hu⟩
theorem Rw.takes {ao : Option Addr} {cap : Nat} (h : Rw sz w (.slice ao n cap) n xs) (m : Nat) (hm : m ≤ n) : Rw sz w (.slice ao m cap) m (xs.take (m * sz)) := by
 obtain ⟨h0, a, c, e, h1, h2, h3, h4⟩ := h
 simp only [Value.slice.injEq, true_and] at e
 obtain ⟨rfl, rfl⟩ := e
 have hle : m * sz ≤ n * sz := Nat.mul_le_mul_right _ hm
 refine ⟨by rw [List.length_take, h0]; omega, ao, cap, rfl, by omega, h2, h3, fun ad had j u hu => h4 ad had j u ?_⟩
 rw [List.getElem?_take] at hu
 split at hu
 ·exact hu
 ·cases hu
theorem Rw.drops {ao : Option Addr} {cap : Nat} (h : Rw sz w (.slice ao n cap) n xs) (m : Nat) (hm : m ≤ n) : Rw sz w (.slice (if cap = m then ao else Option.map (fun x => x.add (m * sz)) ao) (n - m) (cap - m)) (n - m) (xs.drop (m * sz)) := by
 obtain ⟨h0, a, c, e, h1, h2, h3, h4⟩ := h
 simp only [Value.slice.injEq, true_and] at e
 obtain ⟨rfl, rfl⟩ := e
 refine ⟨by rw [List.length_drop, h0, Nat.sub_mul], _, cap - m, rfl, by omega, by omega, ?_, fun ad had j u hu => ?_⟩
 ·intro h
  split at h
  ·omega
  ·cases ao with
   | none => have := h3 rfl; omega
   | some x => simp at h
 ·rw [List.getElem?_drop] at hu
  by_cases hc : cap = m
  ·have := (List.getElem?_eq_some_iff.1 hu).1
   have hnm : n = m := by omega
   rw [h0, hnm] at this
   omega
  ·rw [if_neg hc] at had
   cases ao with
   | none => simp at had
   | some x =>
    simp at had
    subst had
    rw [add_add]
    exact h4 x rfl (m * sz + j) u hu
end
/-- An entry: a key, its value; or a kid's page. -/
structure Ent where
 key : ByteArray
 val : ByteArray
 kid : Int
def Ent.cells (e : Ent) : List Value := [.string e.key, .string e.val, .int .i64 e.kid]
def Ent.agg (e : Ent) : Value := .agg #[.string e.key, .string e.val, .int .i64 e.kid]
def ecells (es : List Ent) : List Value := es.flatMap Ent.cells
theorem ecells_cons (e : Ent) (es : List Ent) : ecells (e :: es) = .string e.key :: .string e.val :: .int .i64 e.kid :: ecells es := rfl
theorem ecells_append (a b : List Ent) : ecells (a ++ b) = ecells a ++ ecells b := by unfold ecells; rw [List.flatMap_append]
theorem ecells_length (es : List Ent) : (ecells es).length = es.length * 3 := by
 induction es with
 | nil => rfl
 | cons e t ih => rw [ecells_cons]; simp only [List.length_cons, ih]; omega
theorem ecells_at : ∀ (es : List Ent) (k : Nat) (hk : k < es.length), (ecells es)[k * 3]? = some (.string es[k].key) ∧ (ecells es)[k * 3 + 1]? = some (.string es[k].val) ∧ (ecells es)[k * 3 + 2]? = some (.int .i64 es[k].kid)
 | e :: t, 0, _ => ⟨rfl, rfl, rfl⟩
 | e :: t, k + 1, hk => by
  have ih := ecells_at t k (by simpa using hk)
  rw [ecells_cons, show (k + 1) * 3 = k * 3 + 3 by omega, show k * 3 + 3 + 1 = k * 3 + 1 + 3 by omega, show k * 3 + 3 + 2 = k * 3 + 2 + 3 by omega]
  simpa using ih
theorem ecells_take : ∀ (es : List Ent) (k : Nat), (ecells es).take (k * 3) = ecells (es.take k)
 | [], k => by simp [ecells]
 | e :: t, 0 => by simp [ecells]
 | e :: t, k + 1 => by
  rw [List.take_succ_cons, ecells_cons, ecells_cons, show (k + 1) * 3 = k * 3 + 1 + 1 + 1 by omega, List.take_succ_cons, List.take_succ_cons, List.take_succ_cons, ecells_take t k]
theorem ecells_drop : ∀ (es : List Ent) (k : Nat), (ecells es).drop (k * 3) = ecells (es.drop k)
 | [], k => by simp [ecells]
 | e :: t, 0 => by simp
 | e :: t, k + 1 => by
  rw [List.drop_succ_cons, ecells_cons, show (k + 1) * 3 = k * 3 + 1 + 1 + 1 by omega, List.drop_succ_cons, List.drop_succ_cons, List.drop_succ_cons, ecells_drop t k]
theorem ecells_one (es : List Ent) : ∀ u ∈ ecells es, u.oneCell' = true := by
 intro u hu
 unfold ecells at hu
 obtain ⟨e, -, he⟩ := List.mem_flatMap.1 hu
 simp only [Ent.cells, List.mem_cons, List.not_mem_nil, or_false] at he
 rcases he with rfl | rfl | rfl <;> rfl
/-- The slice v reads as the entries es. -/
def Ens (w : World) (v : Value) (es : List Ent) : Prop := Rw 3 w v es.length (ecells es)
section
variable {w w' : World} {v : Value} {es : List Ent}
theorem Ens.nil (w : World) : Ens w (.slice none 0 0) [] := Rw.nil 3 w
theorem Ens.form (h : Ens w v es) : ∃ ao cap, v = .slice ao es.length cap ∧ es.length ≤ cap ∧ cap ≤ 9223372036854775807 := Rw.form h
theorem Ens.at (h : Ens w v es) (hn : 0 < es.length) : ∃ b off cap, v = .slice (some ⟨b, off, none⟩) es.length cap ∧ es.length ≤ cap ∧ cap ≤ 9223372036854775807 ∧ b < w.heap.size ∧
 ∀ k (hk : k < es.length), w.cell? ⟨b, off + k * 3, none⟩ = some (.string es[k].key) ∧ w.cell? ⟨b, off + k * 3 + 1, none⟩ = some (.string es[k].val) ∧ w.cell? ⟨b, off + k * 3 + 2, none⟩ = some (.int .i64 es[k].kid) := by
 obtain ⟨b, off, cap, e, h1, h2, h3, h4⟩ := Rw.at h hn (by decide)
 refine ⟨b, off, cap, e, h1, h2, h3, fun k hk => ?_⟩
 obtain ⟨c0, c1, c2⟩ := ecells_at es k hk
 exact ⟨h4 _ _ c0, by rw [Nat.add_assoc]; exact h4 _ _ c1, by rw [Nat.add_assoc]; exact h4 _ _ c2⟩
theorem Ens.moved {P : Nat → Prop} (h : Ens w v es) (hm : Moved P w w') (hP : 0 < es.length → ∀ g, v.ownBlock = some g → ¬ P g) : Ens w' v es := Rw.moved h hm (fun h0 => hP (by rw [ecells_length] at h0; omega))
theorem Ens.below (h : Ens w v es) (hb : Below w.heap.size w w') : Ens w' v es := Rw.below h hb
theorem Ens.lt (h : Ens w v es) (hn : 0 < es.length) : ∀ g, v.ownBlock = some g → g < w.heap.size := Rw.lt h (by rw [ecells_length]; omega)
theorem Ens.takes {ao : Option Addr} {cap : Nat} (h : Ens w (.slice ao es.length cap) es) (m : Nat) (hm : m ≤ es.length) : Ens w (.slice ao m cap) (es.take m) := by
 have := Rw.takes h m hm
 rw [ecells_take] at this
 have hl : (es.take m).length = m := by rw [List.length_take]; omega
 unfold Ens; rw [hl]; exact this
theorem Ens.drops {ao : Option Addr} {cap : Nat} (h : Ens w (.slice ao es.length cap) es) (m : Nat) (hm : m ≤ es.length) : Ens w (.slice (if cap = m then ao else Option.map (fun x => x.add (m * 3)) ao) (es.length - m) (cap - m)) (es.drop m) := by
 have := Rw.drops h m hm
 rw [ecells_drop] at this
 unfold Ens; rw [List.length_drop]; exact this
end
def esize (lvl : Int) (e : Ent) : Nat := if 0 < lvl then 2 else 3 + e.key.size + e.val.size
theorem esize_any (e : Ent) (lvl : Int) (hk : e.key.size ≤ 1000000) (hv : e.val.size ≤ 1000000) (w : World) :
 Calls Tryz.prog 145 #[e.agg, .int .i64 lvl] w fun en w' => en = .returned (.int .i64 (esize lvl e)) ∧ Below w.heap.size w w' := by
 have hal : Below w.heap.size w (w.alloc (.cells #[.string e.key, .string e.val, .int .i64 e.kid] 121)) := (Below.refl _ w).alloc (Nat.le_refl _) _
 have HAL := Lib.hid hal
 clear hal
 unfold Ent.agg
 by_cases hl : 0 < lvl
 ·go_enter Tryz.func145, Tryz.ntmps145
  go_wp2_with fail
  go_ret
  exact ⟨by unfold esize; rw [if_pos hl]; rfl, HAL.out⟩
 ·go_enter Tryz.func145, Tryz.ntmps145
  go_wp2_with fail
  go_ret
  refine ⟨?_, HAL.out⟩
  unfold esize
  rw [if_neg (by omega)]
  go_num
end Go.Proofs.YtbpdapcmaioeiaaGreat
namespace Go.Proofs.YtbpdapcmaioeiaaGreat
open Go.RowKit Go.Maps
set_option maxRecDepth 100000
set_option linter.unusedVariables false
def encE (lvl : Int) (e : Ent) : List UInt8 := if 0 < lvl then le e.kid 1 ++ le (e.kid / 256) 1 else le e.key.size 1 ++ tx (e.key ++ e.val)
set_option maxHeartbeats 1000000 in
theorem behindE_kid (e : Ent) (lvl : Int) (hl : 0 < lvl) (v : Value) (l : List UInt8) (hlen : l.length ≤ 100000) (w : World) (hv : Bs w v l) :
 Calls Tryz.prog 112 #[e.agg, v, .int .i64 lvl] w fun en w' => ∃ v', en = .returned v' ∧ Own w' w.heap.size v' (l ++ encE lvl e) ∧ Below w.heap.size w w' := by
 obtain ⟨ao, cap, rfl, hc1, hc2, -⟩ := id hv
 have hal : Below w.heap.size w (w.alloc (.cells #[.string e.key, .string e.val, .int .i64 e.kid] 121)) := (Below.refl _ w).alloc (Nat.le_refl _) _
 have hb := Blk.new w #[.string e.key, .string e.val, .int .i64 e.kid] 121
 have hv1 := hv.below hal
 obtain ⟨w1, hw1⟩ : ∃ w1, w1 = w.alloc (.cells #[.string e.key, .string e.val, .int .i64 e.kid] 121) := ⟨_, rfl⟩
 rw [← hw1] at hal hb hv1
 have HAL := Lib.hid hal
 have HV := Lib.hid hv1
 have HW1 := Lib.hid hw1
 have k0 : w1.cell? ⟨w.heap.size, 0, none⟩ = some (.string e.key) := by rw [hb.cell]; rfl
 have k1 : w1.cell? ⟨w.heap.size, 1, none⟩ = some (.string e.val) := by rw [hb.cell]; rfl
 have k2 : w1.cell? ⟨w.heap.size, 2, none⟩ = some (.int .i64 e.kid) := by rw [hb.cell]; rfl
 have hlt := hb.lt
 have C0 := Lib.hid k0
 have C1 := Lib.hid k1
 have C2 := Lib.hid k2
 have HLT := Lib.hid hlt
 have HLEN := Lib.hid hlen
 clear hv hal hb hv1 hw1 k0 k1 k2 hlt hlen hc1 hc2
 unfold Ent.agg
 go_enter Tryz.func112, Tryz.ntmps112
 go_wp2_with fail
 rw [← HW1.out]
 refine wp_region_any (by kernel_rfl) ?_
 change wpAny _ _ _ _ _ _ _ (World.drew _)
 refine wpAny_of_held (S := fun (w' : World) => w'.cell? ⟨w.heap.size, 2, none⟩ = some (.int .i64 e.kid)) _ _ _ _ ?_
 have hS : (fun (w' : World) => w'.cell? ⟨w.heap.size, 2, none⟩ = some (.int .i64 e.kid)) _ := C2.out
 try simp only [Act.put, List.setIfInBounds_toArray, List.set_cons_zero, List.set_cons_succ]
 refine wpAnyH_take (i := 0) (oi := ⟨some 9, _, _, _, _, _⟩) (v := ?_) rfl (by kernel_rfl) (by kernel_rfl) (by kernel_rfl) (fun _ _ _ h => h) (Or.inl ⟨by simp only [Region.wanted], ?_⟩) hS ?_
 rotate_left
 ·intro wz hSw
  clear hSw
  go_simp
  first | done | with_reducible rfl
 try simp only [Act.put, List.setIfInBounds_toArray, List.set_cons_zero, List.set_cons_succ]
 refine wpAnyH_take (i := 1) (oi := ⟨some 10, _, _, _, _, _⟩) (v := ?_) rfl (by kernel_rfl) (by kernel_rfl) (by kernel_rfl) (fun _ _ _ h => h) (Or.inl ⟨by simp only [Region.wanted], ?_⟩) hS ?_
 rotate_left
 ·intro wz hSw
  clear hSw
  go_simp
  first | done | with_reducible rfl
 try simp only [Act.put, List.setIfInBounds_toArray, List.set_cons_zero, List.set_cons_succ]
 refine wpAnyH_take (i := 2) (oi := ⟨some 11, _, _, _, _, _⟩) (v := ?_) rfl (by kernel_rfl) (by kernel_rfl) (by kernel_rfl) (fun _ _ _ h => h) (Or.inl ⟨by simp only [Region.wanted], ?_⟩) hS ?_
 rotate_left
 ·intro wz hSw
  (try dsimp only at hSw)
  (try go_split_ands)
  go_simp
  first | done | with_reducible rfl
 try simp only [Act.put, List.setIfInBounds_toArray, List.set_cons_zero, List.set_cons_succ]
 refine wpAnyH_take (i := 4) (oi := ⟨some 13, _, _, _, _, _⟩) (v := ?_) rfl (by kernel_rfl) (by kernel_rfl) (by kernel_rfl) (fun _ _ _ h => h) (Or.inl ⟨by simp only [Region.wanted], ?_⟩) hS ?_
 rotate_left
 ·intro wz hSw
  clear hSw
  go_simp
  first | done | with_reducible rfl
 try simp only [Act.put, List.setIfInBounds_toArray, List.set_cons_zero, List.set_cons_succ]
 refine wpAnyH_take (i := 5) (oi := ⟨some 14, _, _, _, _, _⟩) (v := ?_) rfl (by kernel_rfl) (by kernel_rfl) (by kernel_rfl) (fun _ _ _ h => h) (Or.inl ⟨by simp only [Region.wanted], ?_⟩) hS ?_
 rotate_left
 ·intro wz hSw
  (try dsimp only at hSw)
  (try go_split_ands)
  go_simp
  first | done | with_reducible rfl
 try simp only [Act.put, List.setIfInBounds_toArray, List.set_cons_zero, List.set_cons_succ]
 refine wpAnyH_take (i := 6) (oi := ⟨some 15, _, _, _, _, _⟩) (v := ?_) rfl (by kernel_rfl) (by kernel_rfl) (by kernel_rfl) (fun _ _ _ h => h) (Or.inl ⟨by simp only [Region.wanted], ?_⟩) hS ?_
 rotate_left
 ·intro wz hSw
  clear hSw
  go_simp
  first | done | with_reducible rfl
 try simp only [Act.put, List.setIfInBounds_toArray, List.set_cons_zero, List.set_cons_succ]
 refine wpAnyH_ready (rs := [3]) (by kernel_rfl) (by simp) ?_
 refine AllReadyH.cons (o := ⟨some 12, _, _, _, _, _⟩) rfl (fun K hK => ?_) AllReadyH.nil
 go_simp
 refine (byte_any _ l e.kid (by have := HLEN.out; omega) _ HV.out.drew).mono ?_
 rintro en w2 ⟨v2, rfl, ho2, hb2⟩
 obtain ⟨L, hL⟩ : ∃ L, L = l ++ le e.kid 1 := ⟨_, rfl⟩
 rw [← hL] at ho2
 have HLE2 : Hid (L.length ≤ 100001) := Lib.hid (by have := HLEN.out; rw [hL, List.length_append, le_length]; omega)
 have HL := Lib.hid hL
 clear hL
 obtain ⟨ao2, cap2, rfl, -⟩ := ho2.bs
 have CC := Lib.hid ((hb2.cell HLT.out).trans C2.out)
 have HO := Lib.hid ho2
 have HB2 := Lib.hid hb2
 clear ho2 hb2
 go_simp
 refine hK.out _ _ (CC.out) (fun hS => ?_)
 clear hK K
 try simp only [Act.put, List.setIfInBounds_toArray, List.set_cons_zero, List.set_cons_succ]
 refine wpAnyH_ready (rs := [7]) (by kernel_rfl) (by simp) ?_
 refine AllReadyH.cons (o := ⟨some 16, _, _, _, _, _⟩) rfl (fun K hK => ?_) AllReadyH.nil
 go_simp
 refine (byte_any _ L (e.kid / 256) (by have := HLE2.out; omega) _ HO.out.bs).mono ?_
 rintro en w3 ⟨v3, rfl, ho3, hb3⟩
 generalize hL3 : L ++ _ = L3 at ho3
 have HL3 := Lib.hid hL3
 clear hL3
 have hb3' := HB2.out.trans (hb3.mono HB2.out.size)
 obtain ⟨ao3, cap3, rfl, -⟩ := ho3.bs
 have CC3 := Lib.hid ((hb3'.cell HLT.out).trans C2.out)
 have HO3 := Lib.hid ho3
 have HB3 := Lib.hid hb3'
 have HS2 := Lib.hid HB2.out.size
 clear ho3 hb3 hb3'
 go_simp
 refine hK.out _ _ (CC3.out) (fun hS => ?_)
 clear hK K
 try simp only [Act.put, List.setIfInBounds_toArray, List.set_cons_zero, List.set_cons_succ]
 refine wpAnyH_take (i := 8) (oi := ⟨some 6, _, _, _, _, _⟩) (v := ?_) rfl (by kernel_rfl) (by kernel_rfl) (by kernel_rfl) (fun _ _ _ h => h) (Or.inl ⟨by simp only [Region.wanted], ?_⟩) hS ?_
 rotate_left
 ·intro wz hSw
  clear hSw
  go_simp
  first | done | with_reducible rfl
 try simp only [Act.put, List.setIfInBounds_toArray, List.set_cons_zero, List.set_cons_succ]
 refine wpAnyH_done (by kernel_rfl) ?_ _
 clear hS
 go_wp2_with fail
 go_ret
 have hh : l ++ encE lvl e = l ++ le e.kid 1 ++ le (e.kid / 256) 1 := by unfold encE; rw [if_pos hl, List.append_assoc]
 rw [hh, ← HL.out, HL3.out]
 refine ⟨_, rfl, HO3.out.mono (Nat.le_trans HAL.out.size HS2.out), HAL.out.drew.trans (HB3.out.mono HAL.out.size)⟩
set_option maxHeartbeats 1000000 in
theorem behindE_leaf (e : Ent) (lvl : Int) (hl : ¬ 0 < lvl) (hsk : e.key.size ≤ 1000000) (hsv : e.val.size ≤ 1000000) (v : Value) (l : List UInt8) (hlen : l.length ≤ 100000) (w : World) (hv : Bs w v l) :
 Calls Tryz.prog 112 #[e.agg, v, .int .i64 lvl] w fun en w' => ∃ v', en = .returned v' ∧ Own w' w.heap.size v' (l ++ encE lvl e) ∧ Below w.heap.size w w' := by
 obtain ⟨ao, cap, rfl, hc1, hc2, -⟩ := id hv
 have hal : Below w.heap.size w (w.alloc (.cells #[.string e.key, .string e.val, .int .i64 e.kid] 121)) := (Below.refl _ w).alloc (Nat.le_refl _) _
 have hb := Blk.new w #[.string e.key, .string e.val, .int .i64 e.kid] 121
 have hv1 := hv.below hal
 obtain ⟨w1, hw1⟩ : ∃ w1, w1 = w.alloc (.cells #[.string e.key, .string e.val, .int .i64 e.kid] 121) := ⟨_, rfl⟩
 rw [← hw1] at hal hb hv1
 have HAL := Lib.hid hal
 have HV := Lib.hid hv1
 have HW1 := Lib.hid hw1
 have k0 : w1.cell? ⟨w.heap.size, 0, none⟩ = some (.string e.key) := by rw [hb.cell]; rfl
 have k1 : w1.cell? ⟨w.heap.size, 1, none⟩ = some (.string e.val) := by rw [hb.cell]; rfl
 have k2 : w1.cell? ⟨w.heap.size, 2, none⟩ = some (.int .i64 e.kid) := by rw [hb.cell]; rfl
 have hlt := hb.lt
 have C0 := Lib.hid k0
 have C1 := Lib.hid k1
 have C2 := Lib.hid k2
 have HLT := Lib.hid hlt
 have HLEN := Lib.hid hlen
 clear hv hal hb hv1 hw1 k0 k1 k2 hlt hlen hc1 hc2
 unfold Ent.agg
 go_enter Tryz.func112, Tryz.ntmps112
 go_wp2_with fail
 rw [← HW1.out]
 refine wp_region_any (by kernel_rfl) ?_
 change wpAny _ _ _ _ _ _ _ (World.drew _)
 refine wpAny_of_held (S := fun (w' : World) => w'.cell? ⟨w.heap.size, 0, none⟩ = some (.string e.key) ∧ w'.cell? ⟨w.heap.size, 1, none⟩ = some (.string e.val)) _ _ _ _ ?_
 have hS : (fun (w' : World) => w'.cell? ⟨w.heap.size, 0, none⟩ = some (.string e.key) ∧ w'.cell? ⟨w.heap.size, 1, none⟩ = some (.string e.val)) _ := ⟨C0.out, C1.out⟩
 try simp only [Act.put, List.setIfInBounds_toArray, List.set_cons_zero, List.set_cons_succ]
 refine wpAnyH_take (i := 0) (oi := ⟨some 17, _, _, _, _, _⟩) (v := ?_) rfl (by kernel_rfl) (by kernel_rfl) (by kernel_rfl) (fun _ _ _ h => h) (Or.inl ⟨by simp only [Region.wanted], ?_⟩) hS ?_
 rotate_left
 ·intro wz hSw
  clear hSw
  go_simp
  first | done | with_reducible rfl
 try simp only [Act.put, List.setIfInBounds_toArray, List.set_cons_zero, List.set_cons_succ]
 refine wpAnyH_take (i := 1) (oi := ⟨some 18, _, _, _, _, _⟩) (v := ?_) rfl (by kernel_rfl) (by kernel_rfl) (by kernel_rfl) (fun _ _ _ h => h) (Or.inl ⟨by simp only [Region.wanted], ?_⟩) hS ?_
 rotate_left
 ·intro wz hSw
  clear hSw
  go_simp
  first | done | with_reducible rfl
 try simp only [Act.put, List.setIfInBounds_toArray, List.set_cons_zero, List.set_cons_succ]
 refine wpAnyH_take (i := 2) (oi := ⟨some 19, _, _, _, _, _⟩) (v := ?_) rfl (by kernel_rfl) (by kernel_rfl) (by kernel_rfl) (fun _ _ _ h => h) (Or.inl ⟨by simp only [Region.wanted], ?_⟩) hS ?_
 rotate_left
 ·intro wz hSw
  (try dsimp only at hSw)
  (try go_split_ands)
  go_simp
  first | done | with_reducible rfl
 try simp only [Act.put, List.setIfInBounds_toArray, List.set_cons_zero, List.set_cons_succ]
 refine wpAnyH_take (i := 3) (oi := ⟨some 20, _, _, _, _, _⟩) (v := ?_) rfl (by kernel_rfl) (by kernel_rfl) (by kernel_rfl) (fun _ _ _ h => h) (Or.inl ⟨by simp only [Region.wanted], ?_⟩) hS ?_
 rotate_left
 ·intro wz hSw
  clear hSw
  go_simp
  first | done | with_reducible rfl
 try simp only [Act.put, List.setIfInBounds_toArray, List.set_cons_zero, List.set_cons_succ]
 refine wpAnyH_take (i := 5) (oi := ⟨some 22, _, _, _, _, _⟩) (v := ?_) rfl (by kernel_rfl) (by kernel_rfl) (by kernel_rfl) (fun _ _ _ h => h) (Or.inl ⟨by simp only [Region.wanted], ?_⟩) hS ?_
 rotate_left
 ·intro wz hSw
  clear hSw
  go_simp
  first | done | with_reducible rfl
 try simp only [Act.put, List.setIfInBounds_toArray, List.set_cons_zero, List.set_cons_succ]
 refine wpAnyH_take (i := 6) (oi := ⟨some 23, _, _, _, _, _⟩) (v := ?_) rfl (by kernel_rfl) (by kernel_rfl) (by kernel_rfl) (fun _ _ _ h => h) (Or.inl ⟨by simp only [Region.wanted], ?_⟩) hS ?_
 rotate_left
 ·intro wz hSw
  (try dsimp only at hSw)
  (try go_split_ands)
  go_simp
  first | done | with_reducible rfl
 try simp only [Act.put, List.setIfInBounds_toArray, List.set_cons_zero, List.set_cons_succ]
 refine wpAnyH_take (i := 7) (oi := ⟨some 24, _, _, _, _, _⟩) (v := ?_) rfl (by kernel_rfl) (by kernel_rfl) (by kernel_rfl) (fun _ _ _ h => h) (Or.inl ⟨by simp only [Region.wanted], ?_⟩) hS ?_
 rotate_left
 ·intro wz hSw
  clear hSw
  go_simp
  first | done | with_reducible rfl
 try simp only [Act.put, List.setIfInBounds_toArray, List.set_cons_zero, List.set_cons_succ]
 refine wpAnyH_take (i := 8) (oi := ⟨some 25, _, _, _, _, _⟩) (v := ?_) rfl (by kernel_rfl) (by kernel_rfl) (by kernel_rfl) (fun _ _ _ h => h) (Or.inl ⟨by simp only [Region.wanted], ?_⟩) hS ?_
 rotate_left
 ·intro wz hSw
  (try dsimp only at hSw)
  (try go_split_ands)
  go_simp
  first | done | with_reducible rfl
 try simp only [Act.put, List.setIfInBounds_toArray, List.set_cons_zero, List.set_cons_succ]
 refine wpAnyH_take (i := 9) (oi := ⟨some 26, _, _, _, _, _⟩) (v := ?_) rfl (by kernel_rfl) (by kernel_rfl) (by kernel_rfl) (fun _ _ _ h => h) (Or.inl ⟨by simp only [Region.wanted], ?_⟩) hS ?_
 rotate_left
 ·intro wz hSw
  clear hSw
  go_simp
  rw [if_neg (by omega)]
  first | done | with_reducible rfl
 try simp only [Act.put, List.setIfInBounds_toArray, List.set_cons_zero, List.set_cons_succ]
 refine wpAnyH_ready (rs := [4]) (by kernel_rfl) (by simp) ?_
 refine AllReadyH.cons (o := ⟨some 21, _, _, _, _, _⟩) rfl (fun K hK => ?_) AllReadyH.nil
 go_simp
 refine (byte_any _ l e.key.size (by have := HLEN.out; omega) _ HV.out.drew).mono ?_
 rintro en w2 ⟨v2, rfl, ho2, hb2⟩
 obtain ⟨L, hL⟩ : ∃ L, L = l ++ le e.key.size 1 := ⟨_, rfl⟩
 rw [← hL] at ho2
 have HLE2 : Hid (L.length ≤ 100001) := Lib.hid (by have := HLEN.out; rw [hL, List.length_append, le_length]; omega)
 have HL := Lib.hid hL
 clear hL
 obtain ⟨ao2, cap2, rfl, -⟩ := ho2.bs
 have CA := Lib.hid ((hb2.cell HLT.out).trans C0.out)
 have CB := Lib.hid ((hb2.cell HLT.out).trans C1.out)
 have HO := Lib.hid ho2
 have HB2 := Lib.hid hb2
 clear ho2 hb2
 go_simp
 refine hK.out _ _ (⟨CA.out, CB.out⟩) (fun hS => ?_)
 clear hK K
 try simp only [Act.put, List.setIfInBounds_toArray, List.set_cons_zero, List.set_cons_succ]
 refine wpAnyH_ready (rs := [10]) (by kernel_rfl) (by simp) ?_
 refine AllReadyH.cons (o := ⟨some 27, _, _, _, _, _⟩) rfl (fun K hK => ?_) AllReadyH.nil
 go_simp
 refine (text_any _ L (e.key ++ e.val) (by have := HLE2.out; omega) _ HO.out.bs).mono ?_
 rintro en w3 ⟨v3, rfl, ho3, hb3⟩
 generalize hL3 : L ++ _ = L3 at ho3
 have HL3 := Lib.hid hL3
 clear hL3
 have hb3' := HB2.out.trans (hb3.mono HB2.out.size)
 obtain ⟨ao3, cap3, rfl, -⟩ := ho3.bs
 have CA3 := Lib.hid ((hb3'.cell HLT.out).trans C0.out)
 have CB3 := Lib.hid ((hb3'.cell HLT.out).trans C1.out)
 have HO3 := Lib.hid ho3
 have HB3 := Lib.hid hb3'
 have HS2 := Lib.hid HB2.out.size
 clear ho3 hb3 hb3'
 go_simp
 refine hK.out _ _ (⟨CA3.out, CB3.out⟩) (fun hS => ?_)
 clear hK K
 try simp only [Act.put, List.setIfInBounds_toArray, List.set_cons_zero, List.set_cons_succ]
 refine wpAnyH_take (i := 11) (oi := ⟨some 6, _, _, _, _, _⟩) (v := ?_) rfl (by kernel_rfl) (by kernel_rfl) (by kernel_rfl) (fun _ _ _ h => h) (Or.inl ⟨by simp only [Region.wanted], ?_⟩) hS ?_
 rotate_left
 ·intro wz hSw
  clear hSw
  go_simp
  first | done | with_reducible rfl
 try simp only [Act.put, List.setIfInBounds_toArray, List.set_cons_zero, List.set_cons_succ]
 refine wpAnyH_done (by kernel_rfl) ?_ _
 clear hS
 go_wp2_with fail
 go_ret
 have hh : l ++ encE lvl e = l ++ le e.key.size 1 ++ tx (e.key ++ e.val) := by unfold encE; rw [if_neg (by omega), List.append_assoc]
 rw [hh, ← HL.out, HL3.out]
 refine ⟨_, rfl, HO3.out.mono (Nat.le_trans HAL.out.size HS2.out), HAL.out.drew.trans (HB3.out.mono HAL.out.size)⟩
/-- The sizes that an entry may have. -/
def EntOk (e : Ent) : Prop := e.key.size ≤ 1000000 ∧ e.val.size ≤ 1000000
theorem behindE_any (e : Ent) (lvl : Int) (he : EntOk e) (v : Value) (l : List UInt8) (hlen : l.length ≤ 100000) (w : World) (hv : Bs w v l) :
 Calls Tryz.prog 112 #[e.agg, v, .int .i64 lvl] w fun en w' => ∃ v', en = .returned v' ∧ Own w' w.heap.size v' (l ++ encE lvl e) ∧ Below w.heap.size w w' := by
 by_cases hl : 0 < lvl
 ·exact behindE_kid e lvl hl v l hlen w hv
 ·exact behindE_leaf e lvl hl he.1 he.2 v l hlen w hv
/-- A page's bytes: the level, how many entries, the entries. -/
def encs (lvl : Int) (es : List Ent) : List UInt8 := es.flatMap (encE lvl)
def enc (lvl : Int) (es : List Ent) : List UInt8 := le lvl 1 ++ le es.length 1 ++ encs lvl es
theorem encs_snoc (lvl : Int) (es : List Ent) (e : Ent) : encs lvl (es ++ [e]) = encs lvl es ++ encE lvl e := by unfold encs; rw [List.flatMap_append]; simp
set_option maxHeartbeats 2000000 in
/-- write, till the Put. -/
theorem bt_write {w0 w : World} {X : Nat → Prop} {r p N M c : Nat} {G : Lg} {H : Option Lg} (h : Pb w0 w X r p N M c G H) (hc : c < 500000) (at' lvl : Int) (hat : (Lit.int .i64 at').wf = true) (v : Value) (es : List Ent) (hes : Ens w v es)
 (hv : 0 < es.length → ∀ g, v.ownBlock = some g → g < w0.heap.size ∨ X g) (hok : ∀ e ∈ es, EntOk e) (hsz : ∀ k, (encs lvl (es.take k)).length ≤ 90000) (hn : es.length ≤ 1000) :
 Calls Tryz.prog 71 #[.pointer (some ⟨p, 0, none⟩), .int .i64 at', .int .i64 lvl, v] w fun e w' => e = .returned (.int .i64 (lgPut N at' (enc lvl es) H).1) ∧
  Pb w0 w' X r p N M (c + 1) G (lgPut N at' (enc lvl es) H).2 ∧ Mx w0 X w w' := by
 obtain ⟨ao, cap, rfl, hc1, hc2⟩ := hes.form
 obtain ⟨n, hn'⟩ : ∃ n, n = es.length := ⟨_, rfl⟩
 have HN := Lib.hid hn'
 have HES := Lib.hid hes
 have HP := Lib.hid h
 have HV := Lib.hid hv
 have HOK := Lib.hid hok
 have HSZ := Lib.hid hsz
 have HAT := Lib.hid hat
 rw [← hn'] at hc1 hn HES ⊢
 clear hes h hv hok hsz hat hn'
 go_enter Tryz.func71, Tryz.ntmps71
 go_wp2_with fail
 refine (byte_any _ [] lvl (by simp) _ (Bs.nil _)).mono ?_
 rintro e w1 ⟨v1, rfl, ho1, hb1⟩
 obtain ⟨L1, hL1⟩ : ∃ L, L = [] ++ le lvl 1 := ⟨_, rfl⟩
 rw [← hL1] at ho1
 have hl1 : L1.length = 1 := by rw [hL1]; simp [le_length]
 have HL1 := Lib.hid hL1
 have HLEN1 := Lib.hid hl1
 obtain ⟨ao1, cap1, rfl, -⟩ := ho1.bs
 have HO1 := Lib.hid ho1
 have HB1 := Lib.hid hb1
 clear ho1 hb1 hL1 hl1
 go_wp2_with fail
 refine (byte_any _ L1 n (by have := HLEN1.out; omega) _ HO1.out.bs).mono ?_
 rintro e w2 ⟨v2, rfl, ho2, hb2⟩
 obtain ⟨L2, hL2⟩ : ∃ L, L = L1 ++ le n 1 := ⟨_, rfl⟩
 rw [← hL2] at ho2
 have hl2 : L2.length = 2 := by rw [hL2, List.length_append, HLEN1.out, le_length]
 have hL2' : L2 = le lvl 1 ++ le n 1 := by rw [hL2, HL1.out]; rfl
 have HL2 := Lib.hid hL2'
 have hS1 := HB1.out.size
 have HO2 := Lib.hid (ho2.mono (Nat.le_refl _))
 have HB2 := Lib.hid (HB1.out.trans (hb2.mono HB1.out.size))
 have HO2' := Lib.hid (ho2.mono hS1)
 have hl2' := hl2
 have HLL := Lib.hid hl2'
 clear ho2 hb2 hL2 hL2' hl2 hl2' HO1 HO2 hS1
 go_wp2_with fail
 go_loopw [9, 11, 19, 21, 22, 23, 24, 25, 26, 27, 20] (fun v9 _ i _ _ _ _ _ _ _ _ wr => ∃ (k : Nat) (ao' : Option Addr) (cap' : Nat), k ≤ n ∧ i = .int .i64 k ∧ v9 = .slice ao' (L2 ++ encs lvl (es.take k)).length cap' ∧ Own wr w.heap.size v9 (L2 ++ encs lvl (es.take k)) ∧ Below w.heap.size w wr) (fun _ _ i _ _ _ _ _ _ _ _ _ => n - (intOf i).toNat)
 case atStart =>
  have e0 : L2 ++ encs lvl (es.take 0) = L2 := by simp [encs]
  obtain ⟨ao2, cap2, hv2, -⟩ := HO2'.out.bs
  exact ⟨0, ao2, cap2, Nat.zero_le _, rfl, by rw [e0]; exact hv2, by rw [e0]; exact HO2'.out, HB2.out⟩
 case round =>
  obtain ⟨k, ao', cap', hk, rfl, rfl, ho, hb⟩ := hrel
  obtain ⟨L, hL⟩ : ∃ L, L = L2 ++ encs lvl (es.take k) := ⟨_, rfl⟩
  rw [← hL] at ho ⊢
  have hLl : L.length ≤ 90002 := by rw [hL, List.length_append, HLL.out]; have := HSZ.out k; omega
  have HL := Lib.hid hL
  have HO := Lib.hid ho
  have HB := Lib.hid hb
  clear ho hb hL
  by_cases hlt : k < n
  ·have hke : k < es.length := by rw [← HN.out]; exact hlt
   obtain ⟨b, off, cp, hsl, -, -, hbs, hce⟩ := (show Ens w (.slice ao n cap) es from HES.out).at (by omega)
   rw [← HN.out] at hsl
   simp only [Value.slice.injEq, true_and] at hsl
   obtain ⟨rfl, rfl⟩ := hsl
   obtain ⟨d0, d1, d2⟩ := hce k hke
   obtain ⟨ek, hek⟩ : ∃ y, y = es[k] := ⟨_, rfl⟩
   rw [← hek] at d0 d1 d2
   have hst : es.take (k + 1) = es.take k ++ [ek] := by rw [List.take_succ_eq_append_getElem hke, hek]
   have hoke := HOK.out ek (by rw [hek]; exact List.getElem_mem _)
   have f0 := (HB.out.cell (show (⟨b, off + k * 3, none⟩ : Addr).block < _ from hbs)).trans d0
   have f1 := (HB.out.cell (show (⟨b, off + k * 3 + 1, none⟩ : Addr).block < _ from hbs)).trans d1
   have f2 := (HB.out.cell (show (⟨b, off + k * 3 + 2, none⟩ : Addr).block < _ from hbs)).trans d2
   have HST := Lib.hid hst
   have HOKE := Lib.hid hoke
   have hlt' : (k : Int) < n := by omega
   clear hce d0 d1 d2 hek hst hoke hbs
   have hal : Below wr.heap.size wr (wr.alloc (.cells #[.string ek.key, .string ek.val, .int .i64 ek.kid] 121)) := (Below.refl _ wr).alloc (Nat.le_refl _) _
   have HAL := Lib.hid hal
   clear hal
   go_wp2_with fail
   refine (behindE_any ek lvl HOKE.out _ L (by omega) _ (HO.out.bs.below HAL.out)).mono ?_
   rintro e w4 ⟨v4, rfl, ho4, hb4⟩
   have hL4 : L ++ encE lvl ek = L2 ++ encs lvl (es.take (k + 1)) := by rw [HST.out, encs_snoc, HL.out, List.append_assoc]
   rw [hL4] at ho4
   have HO4 := Lib.hid (ho4.mono (Nat.le_trans HB.out.size HAL.out.size))
   have HB4 := Lib.hid ((HB.out.trans (HAL.out.mono HB.out.size)).trans (hb4.mono (Nat.le_trans HB.out.size HAL.out.size)))
   clear ho4 hb4 hL4
   go_wp2_with fail
   go_roundw
   case rel =>
    obtain ⟨ao4, cap4, hv4, -⟩ := HO4.out.bs
    exact ⟨k + 1, ao4, cap4, by omega, by go_num, hv4, HO4.out, HB4.out⟩
   case measure => simp [intOf]; omega
  ·obtain rfl : n = k := by omega
   have hLe : L = enc lvl es := by
    rw [HL.out, HL2.out, HN.out, List.take_length]; rfl
   have hput := pb_put at' HAT.out _ L HO.out.bs (HP.out.grow HB.out) hc
   rw [hLe] at hput
   have HPUT := Lib.hid hput
   have HMX := Lib.hid (Mx.of (w0 := w0) (X := X) HB.out)
   clear hput
   subst hLe
   go_wp2_with fail
   refine HPUT.out.mono ?_
   rintro e w4 ⟨rfl, h4, hm4⟩
   have H4 := Lib.hid h4
   have HM4 := Lib.hid (HMX.out.trans hm4)
   clear h4 hm4 HPUT
   go_wp2_with fail
   go_ret
   exact ⟨rfl, H4.out, HM4.out⟩
theorem lgNew_some {H : Lg} {a : Nat} {rest : List Nat} (hf : H.free = a :: rest) : lgNew (some H) = ((a : Int), 0, some { H with free := rest, page := upd H.page a (zeros 504) }) := by
 unfold lgNew; simp only [hf]
/-- add: a page that is free. -/
theorem bt_add {w0 w : World} {X : Nat → Prop} {r p N M c : Nat} {G : Lg} {H : Lg} (h : Pb w0 w X r p N M c G (some H)) (hc : c + 1 < 500000) {a : Nat} {rest : List Nat} (hf : H.free = a :: rest) (lvl : Int) (v : Value) (es : List Ent) (hes : Ens w v es)
 (hv : 0 < es.length → ∀ g, v.ownBlock = some g → g < w0.heap.size ∨ X g) (hok : ∀ e ∈ es, EntOk e) (hsz : ∀ k, (encs lvl (es.take k)).length ≤ 90000) (hn : es.length ≤ 1000) (hl : (enc lvl es).length ≤ 504) :
 Calls Tryz.prog 37 #[.pointer (some ⟨p, 0, none⟩), .int .i64 lvl, v] w fun e w' => e = .returned (.tuple #[.int .i64 a, .int .i64 0]) ∧
  Pb w0 w' X r p N M (c + 2) G (some { H with free := rest, page := upd H.page a (page (enc lvl es)) }) ∧ Mx w0 X w w' := by
 obtain ⟨ao, cap, rfl, hc1, hc2⟩ := hes.form
 have hch : Chn N H.free := h.chn
 rw [hf] at hch
 have ha := hch.all a (by simp)
 have hN := h.most
 have hnew := pb_new h (by omega)
 rw [lgNew_some hf] at hnew
 have HN := Lib.hid hnew
 have HES := Lib.hid hes
 have HV := Lib.hid hv
 have HOK := Lib.hid hok
 have HSZ := Lib.hid hsz
 have HL := Lib.hid hl
 have HCH := Lib.hid hch
 clear h hnew hes hv hok hsz hl hch hf
 go_enter Tryz.func37, Tryz.ntmps37
 go_wp2_with fail
 go_step3
 go_wp2_with fail
 refine HN.out.mono ?_
 rintro e w1 ⟨rfl, h1, hm1⟩
 have hes1 := HES.out.moved hm1 (fun h0 g hg e => by
  rcases HV.out h0 g hg with k | k
  ·have := e.1; omega
  ·exact e.2 k)
 have hus : lgUsed N { H with free := rest, page := upd H.page a (zeros 504) } (a : Int) := by
  refine ⟨by omega, by omega, fun hm => ?_⟩
  have := HCH.out.nodup
  rw [List.nodup_cons] at this
  exact this.1 (by simpa using hm)
 have hw := bt_write h1 (by omega) (a : Int) lvl (WalkArith.wf_i64 (by omega)) _ es hes1 HV.out HOK.out HSZ.out hn
 rw [lgPut_some, if_pos hus, if_neg (by have := HL.out; omega)] at hw
 have HW := Lib.hid hw
 have HM1 := Lib.hid hm1
 clear h1 hes1 hus hw hm1 HN
 go_wp2_with fail
 refine HW.out.mono ?_
 rintro e w2 ⟨rfl, h2, hm2⟩
 have H2 := Lib.hid h2
 have HM2 := Lib.hid (HM1.out.trans hm2)
 clear h2 hm2 HW
 go_wp2_with fail
 rw [Exit.noGoto_ret]
 go_ret2
 refine ⟨rfl, ?_, HM2.out⟩
 have e1 : upd (upd H.page a (zeros 504)) ((a : Int)).toNat (page (enc lvl es)) = upd H.page a (page (enc lvl es)) := by
  funext j
  unfold upd
  simp only [Int.toNat_natCast]
  split <;> rfl
 have := H2.out
 rw [e1] at this
 exact this
end Go.Proofs.YtbpdapcmaioeiaaGreat
