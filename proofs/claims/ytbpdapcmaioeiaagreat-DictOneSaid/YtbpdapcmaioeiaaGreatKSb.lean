/- Sb; Sc; Sd -/
import Derived.Test.YtbpdapcmaioeiaaGreatKIa
import Derived.Test.YtbpdapcmaioeiaaGreatKIb
import Derived.Test.YtbpdapcmaioeiaaGreatKTz
namespace Go.Proofs.YtbpdapcmaioeiaaGreat
open Go.RowKit Go.Maps
set_option maxRecDepth 100000
set_option linter.unusedVariables false
section
variable {w0 w : World} {X : Nat → Prop} {r p N M c : Nat} {G : Lg} {H : Option Lg} {n : Nat} {t : BT Ent n}
theorem number_bad (pg : Int) (x : Tm) (hx : x.Ok) (C : Int) (hc : checkOf x = C) (h0 : C ≠ 0) :
 Calls Tryz.prog 58 #[.agg #[.pointer (some ⟨p, 0, none⟩), .int .i64 pg], x.val] w fun e w' => e = .returned (.tuple #[.int .i64 0, .int .i64 C]) ∧ Below w.heap.size w w' := by
 have HC := Lib.hid (fun w => check_any x hx w)
 rw [hc] at HC
 obtain ⟨k, s, l, u⟩ := x
 unfold Tm.val at HC ⊢
 dsimp only at HC ⊢
 have hc' : (C == 0) = false := by simpa using h0
 have hal : Below w.heap.size w ((w.alloc (.cells #[.pointer (some ⟨p, 0, none⟩), .int .i64 pg] 110)).alloc (.cells #[.int .i64 k, .string s, .string l, .string u] 59)) := ((Below.refl _ w).alloc (Nat.le_refl _) _).alloc (by simp) _
 go_enter Tryz.func58, Tryz.ntmps58
 go_wp2_with fail
 refine wp_scope_jumps 0 (fun a' w' => ∃ u0 u1 u2 u3 u4 u5 u6 u7 u8 u10 u11 u12 u13 u14 u15 u16 u17 u18 u19 u20 u21 u22 u23 u24 u25 u26 u27 u28 u29 u30 u31 u32 u33 : Value, a' = { tmps := #[u0, u1, u2, u3, u4, u5, u6, u7, u8, .int .i64 C, u10, u11, u12, u13, u14, u15, u16, u17, u18, u19, u20, u21, u22, u23, u24, u25, u26, u27, u28, u29, u30, u31, u32, u33], defers := [] } ∧ Below w.heap.size w w') (fun _ _ => 0) rfl ?_ ?_
 ·go_wp2_with fail
  refine (HC.out _).mono ?_
  rintro en w3 ⟨rfl, hb3⟩
  have hbf := hal.trans (hb3.mono hal.size)
  go_wp2_with fail
  go_step3
  exact ⟨rfl, ⟨_, _, _, _, _, _, _, _, _, _, _, _, _, _, _, _, _, _, _, _, _, _, _, _, _, _, _, _, _, _, _, _, _, rfl, hbf⟩⟩
 ·rintro a' w' ⟨u0, u1, u2, u3, u4, u5, u6, u7, u8, u10, u11, u12, u13, u14, u15, u16, u17, u18, u19, u20, u21, u22, u23, u24, u25, u26, u27, u28, u29, u30, u31, u32, u33, rfl, hbz⟩
  go_wp2_with fail
  simp only [Exit.jump]
  exact bodyPost_ret (v := .tuple #[.int .i64 0, .int .i64 C]) (by simp [results, Tryz.results58]) rfl ⟨rfl, hbz⟩
set_option maxHeartbeats 4000000 in
theorem number_none (h : Pb w0 w X r p N M c G H) (hi : InLg N (H.getD G) t) (hfew : ∀ y ∈ t.flat, y.val.size ≤ 1000) (x : Tm) (hx : x.Ok) (hc : checkOf x = 0) (hF' : t.flat.find? (sameK ⟨(encT x).toArray⟩) = none) :
 Calls Tryz.prog 58 #[.agg #[.pointer (some ⟨p, 0, none⟩), .int .i64 (t.page : Int)], x.val] w fun e w' => e = .returned (.tuple #[.int .i64 0, .int .i64 2]) ∧ Below w.heap.size w w' := by
 have HT := Lib.hid (fun w => tbytes_any x w)
 obtain ⟨pg, hpg⟩ : ∃ pg : Int, pg = (t.page : Int) := ⟨_, rfl⟩
 obtain ⟨ky, hky⟩ : ∃ ky, ky = encT x := ⟨_, rfl⟩
 have HG := Lib.hid (fun (u : World) (hu : Below w.heap.size w u) (kv : Value) (hk : Bs u kv (encT x)) => dget_any (h.grow hu) hi kv (encT x) hk hfew)
 rw [← hpg, hF'] at HG
 rw [← hky] at HG
 rw [← hky] at HT
 have HC := Lib.hid (fun w => check_any x hx w)
 rw [hc] at HC
 rw [← hpg]
 clear hky hpg hF' hc hfew hi h hx
 obtain ⟨k, s, l, u⟩ := x
 unfold Tm.val at HC HT ⊢
 dsimp only at HC HT HG ⊢
 have hal : Below w.heap.size w ((w.alloc (.cells #[.pointer (some ⟨p, 0, none⟩), .int .i64 pg] 110)).alloc (.cells #[.int .i64 k, .string s, .string l, .string u] 59)) := ((Below.refl _ w).alloc (Nat.le_refl _) _).alloc (by simp) _
 have hb1 := (Blk.new w #[.pointer (some ⟨p, 0, none⟩), .int .i64 pg] 110).alloc (.cells #[.int .i64 k, .string s, .string l, .string u] 59)
 have hb2 := Blk.new (w.alloc (.cells #[.pointer (some ⟨p, 0, none⟩), .int .i64 pg] 110)) #[.int .i64 k, .string s, .string l, .string u] 59
 rw [show (w.alloc (.cells #[.pointer (some ⟨p, 0, none⟩), .int .i64 pg] 110)).heap.size = w.heap.size + 1 by simp] at hb2
 go_enter Tryz.func58, Tryz.ntmps58
 go_wp2_with fail
 refine wp_scope_jumps 0 (fun a' w' => ∃ u0 u1 u2 u3 u4 u5 u6 u7 u8 u10 u11 u12 u13 u14 u15 u16 u17 u18 u19 u20 u21 u22 u23 u24 u25 u26 u27 u28 u29 u30 u31 u32 u33 : Value, a' = { tmps := #[u0, u1, u2, u3, u4, u5, u6, u7, u8, .int .i64 2, u10, u11, u12, u13, u14, u15, u16, u17, u18, u19, u20, u21, u22, u23, u24, u25, u26, u27, u28, u29, u30, u31, u32, u33], defers := [] } ∧ Below w.heap.size w w') (fun _ _ => 0) rfl ?_ ?_
 ·skip
  go_wp2_with fail
  generalize World.alloc (World.alloc w _) _ = w1 at hal hb1 hb2 ⊢
  refine (HC.out _).mono ?_
  rintro en w3 ⟨rfl, hb3⟩
  have hal3 := hal.trans (hb3.mono hal.size)
  have hb13 : Blk w3 w.heap.size _ _ := (hb3.block _ hb1.lt).trans hb1
  have hb23 : Blk w3 (w.heap.size + 1) _ _ := (hb3.block _ hb2.lt).trans hb2
  clear hal hb1 hb2 hb3
  go_wp2_with fail
  refine wp_region_any (by kernel_rfl) ?_
  change wpAny _ _ _ _ _ _ _ (World.drew _)
  refine wpAny_of_held (S := fun (w' : World) => Blk w' w.heap.size #[.pointer (some ⟨p, 0, none⟩), .int .i64 pg] 110 ∧ Blk w' (w.heap.size + 1) #[.int .i64 k, .string s, .string l, .string u] 59) _ _ _ _ ?_
  have hS : (fun (w' : World) => Blk w' w.heap.size #[.pointer (some ⟨p, 0, none⟩), .int .i64 pg] 110 ∧ Blk w' (w.heap.size + 1) #[.int .i64 k, .string s, .string l, .string u] 59) (World.drew w3) := ⟨hb13.drew, hb23.drew⟩
  have hal4 := hal3.drew
  clear hal3 hb13 hb23
  generalize World.drew w3 = v0 at hal4 hS ⊢
  try simp only [Act.put, List.setIfInBounds_toArray, List.set_cons_zero, List.set_cons_succ]
  refine wpAnyH_take (i := 0) (oi := ⟨some 15, _, _, _, _, _⟩) (v := ?_) rfl (by kernel_rfl) (by kernel_rfl) (by kernel_rfl) (fun _ _ _ h => h) (Or.inl ⟨by simp only [Region.wanted], ?_⟩) hS ?_
  rotate_left
  ·intro wz hSw
   clear hSw
   go_simp
   first | done | with_reducible rfl
  try simp only [Act.put, List.setIfInBounds_toArray, List.set_cons_zero, List.set_cons_succ]
  refine wpAnyH_take (i := 1) (oi := ⟨some 16, _, _, _, _, _⟩) (v := ?_) rfl (by kernel_rfl) (by kernel_rfl) (by kernel_rfl) (fun _ _ _ h => h) (Or.inl ⟨by simp only [Region.wanted], ?_⟩) hS ?_
  rotate_left
  ·intro wz hSw; have q0 := hSw.1.cell 0; have q1 := hSw.1.cell 1; have m0 := hSw.2.cell 0; have m1 := hSw.2.cell 1; have m2 := hSw.2.cell 2; have m3 := hSw.2.cell 3; simp only [List.getElem?_toArray, List.getElem?_cons_zero, List.getElem?_cons_succ] at q0 q1 m0 m1 m2 m3
   clear hSw
   go_simp
   first | done | with_reducible rfl
  try simp only [Act.put, List.setIfInBounds_toArray, List.set_cons_zero, List.set_cons_succ]
  refine wpAnyH_take (i := 2) (oi := ⟨some 17, _, _, _, _, _⟩) (v := ?_) rfl (by kernel_rfl) (by kernel_rfl) (by kernel_rfl) (fun _ _ _ h => h) (Or.inl ⟨by simp only [Region.wanted], ?_⟩) hS ?_
  rotate_left
  ·intro wz hSw; have q0 := hSw.1.cell 0; have q1 := hSw.1.cell 1; have m0 := hSw.2.cell 0; have m1 := hSw.2.cell 1; have m2 := hSw.2.cell 2; have m3 := hSw.2.cell 3; simp only [List.getElem?_toArray, List.getElem?_cons_zero, List.getElem?_cons_succ] at q0 q1 m0 m1 m2 m3
   clear hSw
   go_simp
   first | done | with_reducible rfl
  try simp only [Act.put, List.setIfInBounds_toArray, List.set_cons_zero, List.set_cons_succ]
  refine wpAnyH_ready (rs := [3]) (by kernel_rfl) (by simp) ?_
  refine AllReadyH.cons (o := ⟨some 18, _, _, _, _, _⟩) rfl (fun K hK => ?_) AllReadyH.nil
  go_simp
  refine (HT.out _).mono ?_
  rintro en v1 ⟨kv, rfl, hown, hb5⟩
  have hal5 := hal4.trans (hb5.mono hal4.size)
  have hbs := hown.bs
  refine hK.out _ _ (⟨(hb5.block _ hS.1.lt).trans hS.1, (hb5.block _ hS.2.lt).trans hS.2⟩) (fun hS => ?_)
  clear hK K
  try simp only [Act.put, List.setIfInBounds_toArray, List.set_cons_zero, List.set_cons_succ]
  refine wpAnyH_ready (rs := [4]) (by kernel_rfl) (by simp) ?_
  refine AllReadyH.cons (o := ⟨some 19, _, _, _, _, _⟩) rfl (fun K hK => ?_) AllReadyH.nil
  go_simp
  refine (HG.out _ hal5 _ hbs).mono ?_
  rintro en v2 ⟨hb6, rfl⟩
  refine hK.out _ _ (⟨(hb6.block _ hS.1.lt).trans hS.1, (hb6.block _ hS.2.lt).trans hS.2⟩) (fun hS => ?_)
  clear hK K
  try simp only [Act.put, List.setIfInBounds_toArray, List.set_cons_zero, List.set_cons_succ]
  have hbf := hal5.trans (hb6.mono hal5.size)
  refine wpAnyH_take (i := 5) (oi := ⟨some 14, _, _, _, _, _⟩) (v := ?_) rfl (by kernel_rfl) (by kernel_rfl) (by kernel_rfl) (fun _ _ _ h => h) (Or.inl ⟨by simp only [Region.wanted], ?_⟩) hS ?_
  rotate_left
  ·intro wz hSw
   clear hSw
   go_simp
   first | done | with_reducible rfl
  try simp only [Act.put, List.setIfInBounds_toArray, List.set_cons_zero, List.set_cons_succ]
  refine wpAnyH_take (i := 6) (oi := ⟨some 20, _, _, _, _, _⟩) (v := ?_) rfl (by kernel_rfl) (by kernel_rfl) (by kernel_rfl) (fun _ _ _ h => h) (Or.inl ⟨by simp only [Region.wanted], ?_⟩) hS ?_
  rotate_left
  ·intro wz hSw
   clear hSw
   go_simp
   first | done | with_reducible rfl
  try simp only [Act.put, List.setIfInBounds_toArray, List.set_cons_zero, List.set_cons_succ]
  refine wpAnyH_take (i := 7) (oi := ⟨some 21, _, _, _, _, _⟩) (v := ?_) rfl (by kernel_rfl) (by kernel_rfl) (by kernel_rfl) (fun _ _ _ h => h) (Or.inl ⟨by simp only [Region.wanted], ?_⟩) hS ?_
  rotate_left
  ·intro wz hSw
   clear hSw
   go_simp
   first | done | with_reducible rfl
  try simp only [Act.put, List.setIfInBounds_toArray, List.set_cons_zero, List.set_cons_succ]
  refine wpAnyH_take (i := 8) (oi := ⟨some 6, _, _, _, _, _⟩) (v := ?_) rfl (by kernel_rfl) (by kernel_rfl) (by kernel_rfl) (fun _ _ _ h => h) (Or.inl ⟨by simp only [Region.wanted], ?_⟩) hS ?_
  rotate_left
  ·intro wz hSw
   clear hSw
   go_simp
   first | done | with_reducible rfl
  try simp only [Act.put, List.setIfInBounds_toArray, List.set_cons_zero, List.set_cons_succ]
  refine wpAnyH_take (i := 9) (oi := ⟨some 9, _, _, _, _, _⟩) (v := ?_) rfl (by kernel_rfl) (by kernel_rfl) (by kernel_rfl) (fun _ _ _ h => h) (Or.inl ⟨by simp only [Region.wanted], ?_⟩) hS ?_
  rotate_left
  ·intro wz hSw
   clear hSw
   go_simp
   first | done | with_reducible rfl
  try simp only [Act.put, List.setIfInBounds_toArray, List.set_cons_zero, List.set_cons_succ]
  refine wpAnyH_done (by kernel_rfl) ?_ _
  go_wp2_with fail
  go_step3
  exact ⟨rfl, ⟨_, _, _, _, _, _, _, _, _, _, _, _, _, _, _, _, _, _, _, _, _, _, _, _, _, _, _, _, _, _, _, _, _, rfl, hbf⟩⟩
 ·rintro a' w' ⟨u0, u1, u2, u3, u4, u5, u6, u7, u8, u10, u11, u12, u13, u14, u15, u16, u17, u18, u19, u20, u21, u22, u23, u24, u25, u26, u27, u28, u29, u30, u31, u32, u33, rfl, hbz⟩
  go_wp2_with fail
  simp only [Exit.jump]
  exact bodyPost_ret (v := .tuple #[.int .i64 0, .int .i64 2]) (by simp [results, Tryz.results58]) rfl ⟨rfl, hbz⟩
set_option maxHeartbeats 4000000 in
theorem number_some (h : Pb w0 w X r p N M c G H) (hi : InLg N (H.getD G) t) (hfew : ∀ y ∈ t.flat, y.val.size ≤ 1000) (x : Tm) (hx : x.Ok) (hc : checkOf x = 0) (i : Int) (hwf : (Lit.int .i64 i).wf = true) (y : Ent) (hy : y.val = ⟨(le i 8).toArray⟩) (hF' : t.flat.find? (sameK ⟨(encT x).toArray⟩) = some y) :
 Calls Tryz.prog 58 #[.agg #[.pointer (some ⟨p, 0, none⟩), .int .i64 (t.page : Int)], x.val] w fun e w' => e = .returned (.tuple #[.int .i64 i, .int .i64 0]) ∧ Below w.heap.size w w' := by
 have hlen : (le i 8).length = 8 := le_length i 8
 have hT : wrap64 (num (tookOf (le i 8) 0 8)) = i := by
  rw [show tookOf (le i 8) 0 8 = le i 8 by unfold tookOf; rw [if_pos ⟨rfl, by omega⟩, ← hlen]; exact List.take_length]
  exact num_back i hwf
 have hE : endOf (leftOf (le i 8) 0 8) (errOf (le i 8) 0 8) = 0 := by
  rw [show leftOf (le i 8) 0 8 = [] by unfold leftOf; rw [if_pos ⟨rfl, by omega⟩, ← hlen]; exact List.drop_length, show errOf (le i 8) 0 8 = 0 by unfold errOf; rw [if_neg (by omega)]]
  rfl
 have HT := Lib.hid (fun w => tbytes_any x w)
 obtain ⟨pg, hpg⟩ : ∃ pg : Int, pg = (t.page : Int) := ⟨_, rfl⟩
 obtain ⟨ky, hky⟩ : ∃ ky, ky = encT x := ⟨_, rfl⟩
 have HG := Lib.hid (fun (u : World) (hu : Below w.heap.size w u) (kv : Value) (hk : Bs u kv (encT x)) => dget_any (h.grow hu) hi kv (encT x) hk hfew)
 rw [← hpg, hF'] at HG
 rw [← hky] at HG
 rw [← hky] at HT
 have HC := Lib.hid (fun w => check_any x hx w)
 rw [hc] at HC
 rw [← hpg]
 clear hky hpg hF' hc hfew hi h hx
 obtain ⟨k, s, l, u⟩ := x
 unfold Tm.val at HC HT ⊢
 dsimp only at HC HT HG ⊢
 have hal : Below w.heap.size w ((w.alloc (.cells #[.pointer (some ⟨p, 0, none⟩), .int .i64 pg] 110)).alloc (.cells #[.int .i64 k, .string s, .string l, .string u] 59)) := ((Below.refl _ w).alloc (Nat.le_refl _) _).alloc (by simp) _
 have hb1 := (Blk.new w #[.pointer (some ⟨p, 0, none⟩), .int .i64 pg] 110).alloc (.cells #[.int .i64 k, .string s, .string l, .string u] 59)
 have hb2 := Blk.new (w.alloc (.cells #[.pointer (some ⟨p, 0, none⟩), .int .i64 pg] 110)) #[.int .i64 k, .string s, .string l, .string u] 59
 rw [show (w.alloc (.cells #[.pointer (some ⟨p, 0, none⟩), .int .i64 pg] 110)).heap.size = w.heap.size + 1 by simp] at hb2
 go_enter Tryz.func58, Tryz.ntmps58
 go_wp2_with fail
 refine wp_scope_jumps 0 (fun _ _ => False) (fun _ _ => 0) rfl ?_ ?_
 ·skip
  go_wp2_with fail
  generalize World.alloc (World.alloc w _) _ = w1 at hal hb1 hb2 ⊢
  refine (HC.out _).mono ?_
  rintro en w3 ⟨rfl, hb3⟩
  have hal3 := hal.trans (hb3.mono hal.size)
  have hb13 : Blk w3 w.heap.size _ _ := (hb3.block _ hb1.lt).trans hb1
  have hb23 : Blk w3 (w.heap.size + 1) _ _ := (hb3.block _ hb2.lt).trans hb2
  clear hal hb1 hb2 hb3
  go_wp2_with fail
  refine wp_region_any (by kernel_rfl) ?_
  change wpAny _ _ _ _ _ _ _ (World.drew _)
  refine wpAny_of_held (S := fun (w' : World) => Blk w' w.heap.size #[.pointer (some ⟨p, 0, none⟩), .int .i64 pg] 110 ∧ Blk w' (w.heap.size + 1) #[.int .i64 k, .string s, .string l, .string u] 59) _ _ _ _ ?_
  have hS : (fun (w' : World) => Blk w' w.heap.size #[.pointer (some ⟨p, 0, none⟩), .int .i64 pg] 110 ∧ Blk w' (w.heap.size + 1) #[.int .i64 k, .string s, .string l, .string u] 59) (World.drew w3) := ⟨hb13.drew, hb23.drew⟩
  have hal4 := hal3.drew
  clear hal3 hb13 hb23
  generalize World.drew w3 = v0 at hal4 hS ⊢
  try simp only [Act.put, List.setIfInBounds_toArray, List.set_cons_zero, List.set_cons_succ]
  refine wpAnyH_take (i := 0) (oi := ⟨some 15, _, _, _, _, _⟩) (v := ?_) rfl (by kernel_rfl) (by kernel_rfl) (by kernel_rfl) (fun _ _ _ h => h) (Or.inl ⟨by simp only [Region.wanted], ?_⟩) hS ?_
  rotate_left
  ·intro wz hSw
   clear hSw
   go_simp
   first | done | with_reducible rfl
  try simp only [Act.put, List.setIfInBounds_toArray, List.set_cons_zero, List.set_cons_succ]
  refine wpAnyH_take (i := 1) (oi := ⟨some 16, _, _, _, _, _⟩) (v := ?_) rfl (by kernel_rfl) (by kernel_rfl) (by kernel_rfl) (fun _ _ _ h => h) (Or.inl ⟨by simp only [Region.wanted], ?_⟩) hS ?_
  rotate_left
  ·intro wz hSw; have q0 := hSw.1.cell 0; have q1 := hSw.1.cell 1; have m0 := hSw.2.cell 0; have m1 := hSw.2.cell 1; have m2 := hSw.2.cell 2; have m3 := hSw.2.cell 3; simp only [List.getElem?_toArray, List.getElem?_cons_zero, List.getElem?_cons_succ] at q0 q1 m0 m1 m2 m3
   clear hSw
   go_simp
   first | done | with_reducible rfl
  try simp only [Act.put, List.setIfInBounds_toArray, List.set_cons_zero, List.set_cons_succ]
  refine wpAnyH_take (i := 2) (oi := ⟨some 17, _, _, _, _, _⟩) (v := ?_) rfl (by kernel_rfl) (by kernel_rfl) (by kernel_rfl) (fun _ _ _ h => h) (Or.inl ⟨by simp only [Region.wanted], ?_⟩) hS ?_
  rotate_left
  ·intro wz hSw; have q0 := hSw.1.cell 0; have q1 := hSw.1.cell 1; have m0 := hSw.2.cell 0; have m1 := hSw.2.cell 1; have m2 := hSw.2.cell 2; have m3 := hSw.2.cell 3; simp only [List.getElem?_toArray, List.getElem?_cons_zero, List.getElem?_cons_succ] at q0 q1 m0 m1 m2 m3
   clear hSw
   go_simp
   first | done | with_reducible rfl
  try simp only [Act.put, List.setIfInBounds_toArray, List.set_cons_zero, List.set_cons_succ]
  refine wpAnyH_ready (rs := [3]) (by kernel_rfl) (by simp) ?_
  refine AllReadyH.cons (o := ⟨some 18, _, _, _, _, _⟩) rfl (fun K hK => ?_) AllReadyH.nil
  go_simp
  refine (HT.out _).mono ?_
  rintro en v1 ⟨kv, rfl, hown, hb5⟩
  have hal5 := hal4.trans (hb5.mono hal4.size)
  have hbs := hown.bs
  refine hK.out _ _ (⟨(hb5.block _ hS.1.lt).trans hS.1, (hb5.block _ hS.2.lt).trans hS.2⟩) (fun hS => ?_)
  clear hK K
  try simp only [Act.put, List.setIfInBounds_toArray, List.set_cons_zero, List.set_cons_succ]
  refine wpAnyH_ready (rs := [4]) (by kernel_rfl) (by simp) ?_
  refine AllReadyH.cons (o := ⟨some 19, _, _, _, _, _⟩) rfl (fun K hK => ?_) AllReadyH.nil
  go_simp
  refine (HG.out _ hal5 _ hbs).mono ?_
  rintro en v2 ⟨hb6, v, rfl, hbs2, -⟩
  rw [hy] at hbs2
  refine hK.out _ _ (⟨(hb6.block _ hS.1.lt).trans hS.1, (hb6.block _ hS.2.lt).trans hS.2⟩) (fun hS => ?_)
  clear hK K
  try simp only [Act.put, List.setIfInBounds_toArray, List.set_cons_zero, List.set_cons_succ]
  have hbf := hal5.trans (hb6.mono hal5.size)
  refine wpAnyH_take (i := 5) (oi := ⟨some 14, _, _, _, _, _⟩) (v := ?_) rfl (by kernel_rfl) (by kernel_rfl) (by kernel_rfl) (fun _ _ _ h => h) (Or.inl ⟨by simp only [Region.wanted], ?_⟩) hS ?_
  rotate_left
  ·intro wz hSw
   clear hSw
   go_simp
   first | done | with_reducible rfl
  try simp only [Act.put, List.setIfInBounds_toArray, List.set_cons_zero, List.set_cons_succ]
  refine wpAnyH_take (i := 6) (oi := ⟨some 20, _, _, _, _, _⟩) (v := ?_) rfl (by kernel_rfl) (by kernel_rfl) (by kernel_rfl) (fun _ _ _ h => h) (Or.inl ⟨by simp only [Region.wanted], ?_⟩) hS ?_
  rotate_left
  ·intro wz hSw
   clear hSw
   go_simp
   first | done | with_reducible rfl
  try simp only [Act.put, List.setIfInBounds_toArray, List.set_cons_zero, List.set_cons_succ]
  refine wpAnyH_take (i := 7) (oi := ⟨some 21, _, _, _, _, _⟩) (v := ?_) rfl (by kernel_rfl) (by kernel_rfl) (by kernel_rfl) (fun _ _ _ h => h) (Or.inl ⟨by simp only [Region.wanted], ?_⟩) hS ?_
  rotate_left
  ·intro wz hSw
   clear hSw
   go_simp
   first | done | with_reducible rfl
  try simp only [Act.put, List.setIfInBounds_toArray, List.set_cons_zero, List.set_cons_succ]
  refine wpAnyH_take (i := 8) (oi := ⟨some 6, _, _, _, _, _⟩) (v := ?_) rfl (by kernel_rfl) (by kernel_rfl) (by kernel_rfl) (fun _ _ _ h => h) (Or.inl ⟨by simp only [Region.wanted], ?_⟩) hS ?_
  rotate_left
  ·intro wz hSw
   clear hSw
   go_simp
   first | done | with_reducible rfl
  try simp only [Act.put, List.setIfInBounds_toArray, List.set_cons_zero, List.set_cons_succ]
  refine wpAnyH_take (i := 9) (oi := ⟨some 9, _, _, _, _, _⟩) (v := ?_) rfl (by kernel_rfl) (by kernel_rfl) (by kernel_rfl) (fun _ _ _ h => h) (Or.inl ⟨by simp only [Region.wanted], ?_⟩) hS ?_
  rotate_left
  ·intro wz hSw
   clear hSw
   go_simp
   first | done | with_reducible rfl
  try simp only [Act.put, List.setIfInBounds_toArray, List.set_cons_zero, List.set_cons_succ]
  refine wpAnyH_done (by kernel_rfl) ?_ _
  go_wp2_with fail
  refine (new_any v _ (by rw [hlen]; omega) _ hbs2).mono ?_
  rintro en v3 ⟨rr, rfl, hrd, hge, hb7⟩
  have hb3 := hbf.trans (hb7.mono hbf.size)
  go_wp2_with fail
  have hri := rint_any rr (le i 8) 0 _ hrd
  rw [hT] at hri
  refine hri.mono ?_
  rintro en v4 ⟨rfl, hrd4, hg8⟩
  have hb4 := Below.grown hb3 hg8 hb3.size (fun k hk => by simp only [Option.some.injEq] at hk; subst hk; exact Nat.le_trans hbf.size hge)
  go_wp2_with fail
  have hen := end_any _ _ _ _ hrd4
  rw [hE] at hen
  refine hen.mono ?_
  rintro en v5 ⟨rfl, rfl⟩
  go_wp2_with fail
  simp only [Exit.jump]
  go_ret2
  exact ⟨rfl, hb4⟩
 ·intro a' w' hf
  exact hf.elim
end
end Go.Proofs.YtbpdapcmaioeiaaGreat
namespace Go.Proofs.YtbpdapcmaioeiaaGreat
open Go.RowKit Go.Maps
set_option maxRecDepth 100000
set_option linter.unusedVariables false
section
variable {w0 w : World} {X : Nat → Prop} {r p N M c : Nat} {G : Lg} {H : Option Lg} {n : Nat} {t : BT Ent n}
set_option maxHeartbeats 4000000 in
theorem dterm_none (h : Pb w0 w X r p N M c G H) (hi : InLg N (H.getD G) t) (hfew : ∀ y ∈ t.flat, y.val.size ≤ 1000) (id : Int) (hF' : t.flat.find? (sameK ⟨(le id 8).reverse.toArray⟩) = none) :
 Calls Tryz.prog 62 #[.agg #[.pointer (some ⟨p, 0, none⟩), .int .i64 (t.page : Int)], .int .i64 id] w fun e w' => e = .returned (.tuple #[.agg #[.int .i64 0, .string ⟨#[]⟩, .string ⟨#[]⟩, .string ⟨#[]⟩], .int .i64 2]) ∧ Below w.heap.size w w' := by
 have HP := Lib.hid (fun w => place_any w id)
 obtain ⟨pg, hpg⟩ : ∃ pg : Int, pg = (t.page : Int) := ⟨_, rfl⟩
 have HG := Lib.hid (fun (u : World) (hu : Below w.heap.size w u) (kv : Value) (hk : Bs u kv (le id 8).reverse) => dget_any (h.grow hu) hi kv _ hk hfew)
 rw [← hpg, hF'] at HG
 dsimp only at HG
 rw [← hpg]
 clear hpg hF' hfew hi h
 have hal : Below w.heap.size w ((w.alloc (.cells #[.pointer (some ⟨p, 0, none⟩), .int .i64 pg] 111)).alloc (.cells #[.int .i64 0, .string ⟨#[]⟩, .string ⟨#[]⟩, .string ⟨#[]⟩] 59)) := ((Below.refl _ w).alloc (Nat.le_refl _) _).alloc (by simp) _
 have hb1 := (Blk.new w #[.pointer (some ⟨p, 0, none⟩), .int .i64 pg] 111).alloc (.cells #[.int .i64 0, .string ⟨#[]⟩, .string ⟨#[]⟩, .string ⟨#[]⟩] 59)
 have hb2 := Blk.new (w.alloc (.cells #[.pointer (some ⟨p, 0, none⟩), .int .i64 pg] 111)) #[.int .i64 0, .string ⟨#[]⟩, .string ⟨#[]⟩, .string ⟨#[]⟩] 59
 rw [show (w.alloc (.cells #[.pointer (some ⟨p, 0, none⟩), .int .i64 pg] 111)).heap.size = w.heap.size + 1 by simp] at hb2
 go_enter Tryz.func62, Tryz.ntmps62
 go_wp2_with fail
 generalize World.alloc (World.alloc w _) _ = w3 at hal hb1 hb2 ⊢
 refine wp_region_any (by kernel_rfl) ?_
 change wpAny _ _ _ _ _ _ _ (World.drew _)
 refine wpAny_of_held (S := fun (w' : World) => Blk w' w.heap.size #[.pointer (some ⟨p, 0, none⟩), .int .i64 pg] 111 ∧ Blk w' (w.heap.size + 1) #[.int .i64 0, .string ⟨#[]⟩, .string ⟨#[]⟩, .string ⟨#[]⟩] 59) _ _ _ _ ?_
 have hS : (fun (w' : World) => Blk w' w.heap.size #[.pointer (some ⟨p, 0, none⟩), .int .i64 pg] 111 ∧ Blk w' (w.heap.size + 1) #[.int .i64 0, .string ⟨#[]⟩, .string ⟨#[]⟩, .string ⟨#[]⟩] 59) (World.drew w3) := ⟨hb1.drew, hb2.drew⟩
 have hal4 := hal.drew
 clear hal hb1 hb2
 generalize World.drew w3 = v0 at hal4 hS ⊢
 try simp only [Act.put, List.setIfInBounds_toArray, List.set_cons_zero, List.set_cons_succ]
 refine wpAnyH_take (i := 0) (oi := ⟨some 9, _, _, _, _, _⟩) (v := ?_) rfl (by kernel_rfl) (by kernel_rfl) (by kernel_rfl) (fun _ _ _ h => h) (Or.inl ⟨by simp only [Region.wanted], ?_⟩) hS ?_
 rotate_left
 ·intro wz hSw
  clear hSw
  go_simp
  first | done | with_reducible rfl
 try simp only [Act.put, List.setIfInBounds_toArray, List.set_cons_zero, List.set_cons_succ]
 refine wpAnyH_take (i := 1) (oi := ⟨some 10, _, _, _, _, _⟩) (v := ?_) rfl (by kernel_rfl) (by kernel_rfl) (by kernel_rfl) (fun _ _ _ h => h) (Or.inl ⟨by simp only [Region.wanted], ?_⟩) hS ?_
 rotate_left
 ·intro wz hSw; have q0 := hSw.1.cell 0; have q1 := hSw.1.cell 1; simp only [List.getElem?_toArray, List.getElem?_cons_zero, List.getElem?_cons_succ] at q0 q1
  clear hSw
  go_simp
  first | done | with_reducible rfl
 try simp only [Act.put, List.setIfInBounds_toArray, List.set_cons_zero, List.set_cons_succ]
 refine wpAnyH_take (i := 2) (oi := ⟨some 11, _, _, _, _, _⟩) (v := ?_) rfl (by kernel_rfl) (by kernel_rfl) (by kernel_rfl) (fun _ _ _ h => h) (Or.inl ⟨by simp only [Region.wanted], ?_⟩) hS ?_
 rotate_left
 ·intro wz hSw
  clear hSw
  go_simp
  first | done | with_reducible rfl
 try simp only [Act.put, List.setIfInBounds_toArray, List.set_cons_zero, List.set_cons_succ]
 refine wpAnyH_ready (rs := [3]) (by kernel_rfl) (by simp) ?_
 refine AllReadyH.cons (o := ⟨some 12, _, _, _, _, _⟩) rfl (fun K hK => ?_) AllReadyH.nil
 go_simp
 refine (HP.out _).mono ?_
 rintro en v1 ⟨kv, rfl, hown, hb5⟩
 have hal5 := hal4.trans (hb5.mono hal4.size)
 have hbs := hown.bs
 refine hK.out _ _ (⟨(hb5.block _ hS.1.lt).trans hS.1, (hb5.block _ hS.2.lt).trans hS.2⟩) (fun hS => ?_)
 clear hK K
 try simp only [Act.put, List.setIfInBounds_toArray, List.set_cons_zero, List.set_cons_succ]
 refine wpAnyH_ready (rs := [4]) (by kernel_rfl) (by simp) ?_
 refine AllReadyH.cons (o := ⟨some 13, _, _, _, _, _⟩) rfl (fun K hK => ?_) AllReadyH.nil
 go_simp
 refine (HG.out _ hal5 _ hbs).mono ?_
 rintro en v2 ⟨hb6, rfl⟩
 refine hK.out _ _ (⟨(hb6.block _ hS.1.lt).trans hS.1, (hb6.block _ hS.2.lt).trans hS.2⟩) (fun hS => ?_)
 clear hK K
 try simp only [Act.put, List.setIfInBounds_toArray, List.set_cons_zero, List.set_cons_succ]
 have hbf := hal5.trans (hb6.mono hal5.size)
 refine wpAnyH_take (i := 5) (oi := ⟨some 8, _, _, _, _, _⟩) (v := ?_) rfl (by kernel_rfl) (by kernel_rfl) (by kernel_rfl) (fun _ _ _ h => h) (Or.inl ⟨by simp only [Region.wanted], ?_⟩) hS ?_
 rotate_left
 ·intro wz hSw
  clear hSw
  go_simp
  first | done | with_reducible rfl
 try simp only [Act.put, List.setIfInBounds_toArray, List.set_cons_zero, List.set_cons_succ]
 refine wpAnyH_take (i := 6) (oi := ⟨some 14, _, _, _, _, _⟩) (v := ?_) rfl (by kernel_rfl) (by kernel_rfl) (by kernel_rfl) (fun _ _ _ h => h) (Or.inl ⟨by simp only [Region.wanted], ?_⟩) hS ?_
 rotate_left
 ·intro wz hSw
  clear hSw
  go_simp
  first | done | with_reducible rfl
 try simp only [Act.put, List.setIfInBounds_toArray, List.set_cons_zero, List.set_cons_succ]
 refine wpAnyH_take (i := 7) (oi := ⟨some 15, _, _, _, _, _⟩) (v := ?_) rfl (by kernel_rfl) (by kernel_rfl) (by kernel_rfl) (fun _ _ _ h => h) (Or.inl ⟨by simp only [Region.wanted], ?_⟩) hS ?_
 rotate_left
 ·intro wz hSw
  clear hSw
  go_simp
  first | done | with_reducible rfl
 try simp only [Act.put, List.setIfInBounds_toArray, List.set_cons_zero, List.set_cons_succ]
 refine wpAnyH_take (i := 8) (oi := ⟨some 6, _, _, _, _, _⟩) (v := ?_) rfl (by kernel_rfl) (by kernel_rfl) (by kernel_rfl) (fun _ _ _ h => h) (Or.inl ⟨by simp only [Region.wanted], ?_⟩) hS ?_
 rotate_left
 ·intro wz hSw
  clear hSw
  go_simp
  first | done | with_reducible rfl
 try simp only [Act.put, List.setIfInBounds_toArray, List.set_cons_zero, List.set_cons_succ]
 refine wpAnyH_take (i := 9) (oi := ⟨some 7, _, _, _, _, _⟩) (v := ?_) rfl (by kernel_rfl) (by kernel_rfl) (by kernel_rfl) (fun _ _ _ h => h) (Or.inl ⟨by simp only [Region.wanted], ?_⟩) hS ?_
 rotate_left
 ·intro wz hSw
  clear hSw
  go_simp
  first | done | with_reducible rfl
 try simp only [Act.put, List.setIfInBounds_toArray, List.set_cons_zero, List.set_cons_succ]
 refine wpAnyH_done (by kernel_rfl) ?_ _
 have hB := hS.2
 have z0 := hB.cell 0
 have z1 := hB.cell 1
 have z2 := hB.cell 2
 have z3 := hB.cell 3
 have y0 := hB.frozen 0
 have y1 := hB.frozen 1
 have y2 := hB.frozen 2
 have y3 := hB.frozen 3
 simp only [List.getElem?_toArray, List.getElem?_cons_zero, List.getElem?_cons_succ] at z0 z1 z2 z3
 go_wp2_with fail
 have hz := (((hB.set 0 (.int .i64 0)).set 1 (.string ⟨#[]⟩)).set 2 (.string ⟨#[]⟩)).set 3 (.string ⟨#[]⟩)
 simp only [List.setIfInBounds_toArray, List.set_cons_zero, List.set_cons_succ] at hz
 have hbz := (((hbf.setCell (p := ⟨w.heap.size + 1, 0, none⟩) (Nat.le_succ _) (.int .i64 0)).setCell (p := ⟨w.heap.size + 1, 1, none⟩) (Nat.le_succ _) (.string ⟨#[]⟩)).setCell (p := ⟨w.heap.size + 1, 2, none⟩) (Nat.le_succ _) (.string ⟨#[]⟩)).setCell (p := ⟨w.heap.size + 1, 3, none⟩) (Nat.le_succ _) (.string ⟨#[]⟩)
 exact bodyPost_ret (results_cell_tmp_row (p := 4) (u := 5) (ty := 59) (by kernel_rfl) _ _ (w.heap.size + 1) _ _ _ _ rfl hz Tryz.underlying59 rfl (by kernel_rfl)) rfl ⟨rfl, hbz⟩
set_option maxHeartbeats 4000000 in
theorem dterm_some (h : Pb w0 w X r p N M c G H) (hi : InLg N (H.getD G) t) (hfew : ∀ y ∈ t.flat, y.val.size ≤ 1000) (id : Int) (y : Ent) (x : Tm) (E : Int) (hyl : y.val.size ≤ 1000) (hpo : parseOf y.val.data.toList = (x, E)) (hF' : t.flat.find? (sameK ⟨(le id 8).reverse.toArray⟩) = some y) :
 Calls Tryz.prog 62 #[.agg #[.pointer (some ⟨p, 0, none⟩), .int .i64 (t.page : Int)], .int .i64 id] w fun e w' => e = .returned (.tuple #[x.val, .int .i64 E]) ∧ Below w.heap.size w w' := by
 have HP := Lib.hid (fun w => place_any w id)
 obtain ⟨pg, hpg⟩ : ∃ pg : Int, pg = (t.page : Int) := ⟨_, rfl⟩
 have HG := Lib.hid (fun (u : World) (hu : Below w.heap.size w u) (kv : Value) (hk : Bs u kv (le id 8).reverse) => dget_any (h.grow hu) hi kv _ hk hfew)
 rw [← hpg, hF'] at HG
 dsimp only at HG
 rw [← hpg]
 clear hpg hF' hfew hi h
 have hal : Below w.heap.size w ((w.alloc (.cells #[.pointer (some ⟨p, 0, none⟩), .int .i64 pg] 111)).alloc (.cells #[.int .i64 0, .string ⟨#[]⟩, .string ⟨#[]⟩, .string ⟨#[]⟩] 59)) := ((Below.refl _ w).alloc (Nat.le_refl _) _).alloc (by simp) _
 have hb1 := (Blk.new w #[.pointer (some ⟨p, 0, none⟩), .int .i64 pg] 111).alloc (.cells #[.int .i64 0, .string ⟨#[]⟩, .string ⟨#[]⟩, .string ⟨#[]⟩] 59)
 have hb2 := Blk.new (w.alloc (.cells #[.pointer (some ⟨p, 0, none⟩), .int .i64 pg] 111)) #[.int .i64 0, .string ⟨#[]⟩, .string ⟨#[]⟩, .string ⟨#[]⟩] 59
 rw [show (w.alloc (.cells #[.pointer (some ⟨p, 0, none⟩), .int .i64 pg] 111)).heap.size = w.heap.size + 1 by simp] at hb2
 go_enter Tryz.func62, Tryz.ntmps62
 go_wp2_with fail
 generalize World.alloc (World.alloc w _) _ = w3 at hal hb1 hb2 ⊢
 refine wp_region_any (by kernel_rfl) ?_
 change wpAny _ _ _ _ _ _ _ (World.drew _)
 refine wpAny_of_held (S := fun (w' : World) => Blk w' w.heap.size #[.pointer (some ⟨p, 0, none⟩), .int .i64 pg] 111 ∧ Blk w' (w.heap.size + 1) #[.int .i64 0, .string ⟨#[]⟩, .string ⟨#[]⟩, .string ⟨#[]⟩] 59) _ _ _ _ ?_
 have hS : (fun (w' : World) => Blk w' w.heap.size #[.pointer (some ⟨p, 0, none⟩), .int .i64 pg] 111 ∧ Blk w' (w.heap.size + 1) #[.int .i64 0, .string ⟨#[]⟩, .string ⟨#[]⟩, .string ⟨#[]⟩] 59) (World.drew w3) := ⟨hb1.drew, hb2.drew⟩
 have hal4 := hal.drew
 clear hal hb1 hb2
 generalize World.drew w3 = v0 at hal4 hS ⊢
 try simp only [Act.put, List.setIfInBounds_toArray, List.set_cons_zero, List.set_cons_succ]
 refine wpAnyH_take (i := 0) (oi := ⟨some 9, _, _, _, _, _⟩) (v := ?_) rfl (by kernel_rfl) (by kernel_rfl) (by kernel_rfl) (fun _ _ _ h => h) (Or.inl ⟨by simp only [Region.wanted], ?_⟩) hS ?_
 rotate_left
 ·intro wz hSw
  clear hSw
  go_simp
  first | done | with_reducible rfl
 try simp only [Act.put, List.setIfInBounds_toArray, List.set_cons_zero, List.set_cons_succ]
 refine wpAnyH_take (i := 1) (oi := ⟨some 10, _, _, _, _, _⟩) (v := ?_) rfl (by kernel_rfl) (by kernel_rfl) (by kernel_rfl) (fun _ _ _ h => h) (Or.inl ⟨by simp only [Region.wanted], ?_⟩) hS ?_
 rotate_left
 ·intro wz hSw; have q0 := hSw.1.cell 0; have q1 := hSw.1.cell 1; simp only [List.getElem?_toArray, List.getElem?_cons_zero, List.getElem?_cons_succ] at q0 q1
  clear hSw
  go_simp
  first | done | with_reducible rfl
 try simp only [Act.put, List.setIfInBounds_toArray, List.set_cons_zero, List.set_cons_succ]
 refine wpAnyH_take (i := 2) (oi := ⟨some 11, _, _, _, _, _⟩) (v := ?_) rfl (by kernel_rfl) (by kernel_rfl) (by kernel_rfl) (fun _ _ _ h => h) (Or.inl ⟨by simp only [Region.wanted], ?_⟩) hS ?_
 rotate_left
 ·intro wz hSw
  clear hSw
  go_simp
  first | done | with_reducible rfl
 try simp only [Act.put, List.setIfInBounds_toArray, List.set_cons_zero, List.set_cons_succ]
 refine wpAnyH_ready (rs := [3]) (by kernel_rfl) (by simp) ?_
 refine AllReadyH.cons (o := ⟨some 12, _, _, _, _, _⟩) rfl (fun K hK => ?_) AllReadyH.nil
 go_simp
 refine (HP.out _).mono ?_
 rintro en v1 ⟨kv, rfl, hown, hb5⟩
 have hal5 := hal4.trans (hb5.mono hal4.size)
 have hbs := hown.bs
 refine hK.out _ _ (⟨(hb5.block _ hS.1.lt).trans hS.1, (hb5.block _ hS.2.lt).trans hS.2⟩) (fun hS => ?_)
 clear hK K
 try simp only [Act.put, List.setIfInBounds_toArray, List.set_cons_zero, List.set_cons_succ]
 refine wpAnyH_ready (rs := [4]) (by kernel_rfl) (by simp) ?_
 refine AllReadyH.cons (o := ⟨some 13, _, _, _, _, _⟩) rfl (fun K hK => ?_) AllReadyH.nil
 go_simp
 refine (HG.out _ hal5 _ hbs).mono ?_
 rintro en v2 ⟨hb6, v, rfl, hbs2, -⟩
 refine hK.out _ _ (⟨(hb6.block _ hS.1.lt).trans hS.1, (hb6.block _ hS.2.lt).trans hS.2⟩) (fun hS => ?_)
 clear hK K
 try simp only [Act.put, List.setIfInBounds_toArray, List.set_cons_zero, List.set_cons_succ]
 have hbf := hal5.trans (hb6.mono hal5.size)
 refine wpAnyH_take (i := 5) (oi := ⟨some 8, _, _, _, _, _⟩) (v := ?_) rfl (by kernel_rfl) (by kernel_rfl) (by kernel_rfl) (fun _ _ _ h => h) (Or.inl ⟨by simp only [Region.wanted], ?_⟩) hS ?_
 rotate_left
 ·intro wz hSw
  clear hSw
  go_simp
  first | done | with_reducible rfl
 try simp only [Act.put, List.setIfInBounds_toArray, List.set_cons_zero, List.set_cons_succ]
 refine wpAnyH_take (i := 6) (oi := ⟨some 14, _, _, _, _, _⟩) (v := ?_) rfl (by kernel_rfl) (by kernel_rfl) (by kernel_rfl) (fun _ _ _ h => h) (Or.inl ⟨by simp only [Region.wanted], ?_⟩) hS ?_
 rotate_left
 ·intro wz hSw
  clear hSw
  go_simp
  first | done | with_reducible rfl
 try simp only [Act.put, List.setIfInBounds_toArray, List.set_cons_zero, List.set_cons_succ]
 refine wpAnyH_take (i := 7) (oi := ⟨some 15, _, _, _, _, _⟩) (v := ?_) rfl (by kernel_rfl) (by kernel_rfl) (by kernel_rfl) (fun _ _ _ h => h) (Or.inl ⟨by simp only [Region.wanted], ?_⟩) hS ?_
 rotate_left
 ·intro wz hSw
  clear hSw
  go_simp
  first | done | with_reducible rfl
 try simp only [Act.put, List.setIfInBounds_toArray, List.set_cons_zero, List.set_cons_succ]
 refine wpAnyH_take (i := 8) (oi := ⟨some 6, _, _, _, _, _⟩) (v := ?_) rfl (by kernel_rfl) (by kernel_rfl) (by kernel_rfl) (fun _ _ _ h => h) (Or.inl ⟨by simp only [Region.wanted], ?_⟩) hS ?_
 rotate_left
 ·intro wz hSw
  clear hSw
  go_simp
  first | done | with_reducible rfl
 try simp only [Act.put, List.setIfInBounds_toArray, List.set_cons_zero, List.set_cons_succ]
 refine wpAnyH_take (i := 9) (oi := ⟨some 7, _, _, _, _, _⟩) (v := ?_) rfl (by kernel_rfl) (by kernel_rfl) (by kernel_rfl) (fun _ _ _ h => h) (Or.inl ⟨by simp only [Region.wanted], ?_⟩) hS ?_
 rotate_left
 ·intro wz hSw
  clear hSw
  go_simp
  first | done | with_reducible rfl
 try simp only [Act.put, List.setIfInBounds_toArray, List.set_cons_zero, List.set_cons_succ]
 refine wpAnyH_done (by kernel_rfl) ?_ _
 go_wp2_with fail
 have hpa := parse_any v _ (by show y.val.data.toList.length ≤ _; rw [Array.length_toList]; show y.val.size ≤ _; omega) _ hbs2
 rw [hpo] at hpa
 obtain ⟨k, s, l, u⟩ := x
 unfold Tm.val at hpa
 dsimp only at hpa
 refine hpa.mono ?_
 rintro en v3 ⟨rfl, hb7⟩
 have hbf3 := hbf.trans (hb7.mono hbf.size)
 have hS3 : Blk v3 (w.heap.size + 1) _ _ := (hb7.block _ hS.2.lt).trans hS.2
 clear hpa
 have hB := hS3
 have z0 := hB.cell 0
 have z1 := hB.cell 1
 have z2 := hB.cell 2
 have z3 := hB.cell 3
 have y0 := hB.frozen 0
 have y1 := hB.frozen 1
 have y2 := hB.frozen 2
 have y3 := hB.frozen 3
 simp only [List.getElem?_toArray, List.getElem?_cons_zero, List.getElem?_cons_succ] at z0 z1 z2 z3
 go_wp2_with fail
 have hz := (((hB.set 0 (.int .i64 k)).set 1 (.string s)).set 2 (.string l)).set 3 (.string u)
 simp only [List.setIfInBounds_toArray, List.set_cons_zero, List.set_cons_succ] at hz
 have hbz := (((hbf3.setCell (p := ⟨w.heap.size + 1, 0, none⟩) (Nat.le_succ _) (.int .i64 k)).setCell (p := ⟨w.heap.size + 1, 1, none⟩) (Nat.le_succ _) (.string s)).setCell (p := ⟨w.heap.size + 1, 2, none⟩) (Nat.le_succ _) (.string l)).setCell (p := ⟨w.heap.size + 1, 3, none⟩) (Nat.le_succ _) (.string u)
 exact bodyPost_ret (results_cell_tmp_row (p := 4) (u := 5) (ty := 59) (by kernel_rfl) _ _ (w.heap.size + 1) _ _ _ _ rfl hz Tryz.underlying59 rfl (by kernel_rfl)) rfl ⟨rfl, hbz⟩
end
end Go.Proofs.YtbpdapcmaioeiaaGreat
namespace Go.Proofs.YtbpdapcmaioeiaaGreat
open Go.RowKit Go.Maps
set_option maxRecDepth 100000
set_option linter.unusedVariables false
set_option maxHeartbeats 4000000 in
theorem dfind_of (w : World) (p : Nat) (ti ii li : Int) (x : Tm) (a b : Value) (HN : ∀ u, Below w.heap.size w u → Calls Tryz.prog 58 #[.agg #[.pointer (some ⟨p, 0, none⟩), .int .i64 ti], x.val] u fun e w' => e = .returned (.tuple #[a, b]) ∧ Below u.heap.size u w') :
 Calls Tryz.prog 27 #[.pointer (some ⟨p, 0, none⟩), .agg #[.int .i64 ti, .int .i64 ii, .int .i64 li], x.val] w fun e w' => e = .returned (.tuple #[a, b]) ∧ Below w.heap.size w w' := by
 have HT := Lib.hid (fun w => trees_any w p ti ii li)
 have HNN := Lib.hid HN
 clear HN
 obtain ⟨k, s, l, u⟩ := x
 unfold Tm.val at HNN ⊢
 dsimp only at HNN ⊢
 have hal : Below w.heap.size w ((w.alloc (.cells #[.int .i64 ti, .int .i64 ii, .int .i64 li] 52)).alloc (.cells #[.int .i64 k, .string s, .string l, .string u] 59)) := ((Below.refl _ w).alloc (Nat.le_refl _) _).alloc (by simp) _
 go_enter Tryz.func27, Tryz.ntmps27
 go_wp2_with fail
 have hbk := Blk.new (w.alloc (.cells #[.int .i64 ti, .int .i64 ii, .int .i64 li] 52)) #[.int .i64 k, .string s, .string l, .string u] 59
 rw [show (w.alloc (.cells #[.int .i64 ti, .int .i64 ii, .int .i64 li] 52)).heap.size = w.heap.size + 1 by simp] at hbk
 generalize World.alloc (World.alloc w _) _ = w2 at hal hbk ⊢
 refine (HT.out _).mono ?_
 rintro en w3 ⟨rfl, hb3⟩
 have hal3 := hal.trans (hb3.mono hal.size)
 have hbk3 : Blk w3 (w.heap.size + 1) _ _ := (hb3.block _ hbk.lt).trans hbk
 have hB5 := (hbk3.alloc (.cells #[.pointer (some ⟨p, 0, none⟩), .int .i64 ti] 110)).alloc (.cells #[.pointer (some ⟨p, 0, none⟩), .int .i64 ii] 111)
 have hal5 := (hal3.alloc hal3.size (.cells #[.pointer (some ⟨p, 0, none⟩), .int .i64 ti] 110)).alloc (Nat.le_trans hal3.size (by simp)) (.cells #[.pointer (some ⟨p, 0, none⟩), .int .i64 ii] 111)
 have z0 := hB5.cell 0
 have z1 := hB5.cell 1
 have z2 := hB5.cell 2
 have z3 := hB5.cell 3
 simp only [List.getElem?_toArray, List.getElem?_cons_zero, List.getElem?_cons_succ] at z0 z1 z2 z3
 clear hal hbk hb3 hbk3 hal3 HT
 go_wp2_with fail
 refine (HNN.out _ hal5).mono ?_
 rintro en w6 ⟨rfl, hb6⟩
 go_wp2_with fail
 go_ret2
 exact ⟨rfl, hal5.trans (hb6.mono hal5.size)⟩
set_option maxHeartbeats 4000000 in
theorem dictget_of (w : World) (p : Nat) (ti ii li id : Int) (x : Tm) (E : Int) (HN : ∀ u, Below w.heap.size w u → Calls Tryz.prog 62 #[.agg #[.pointer (some ⟨p, 0, none⟩), .int .i64 ii], .int .i64 id] u fun e w' => e = .returned (.tuple #[x.val, .int .i64 E]) ∧ Below u.heap.size u w') :
 Calls Tryz.prog 29 #[.pointer (some ⟨p, 0, none⟩), .agg #[.int .i64 ti, .int .i64 ii, .int .i64 li], .int .i64 id] w fun e w' => e = .returned (.tuple #[x.val, .int .i64 E]) ∧ Below w.heap.size w w' := by
 have HT := Lib.hid (fun w => trees_any w p ti ii li)
 obtain ⟨k, s, l, u⟩ := x
 unfold Tm.val at HN ⊢
 dsimp only at HN ⊢
 have HNN := Lib.hid HN
 clear HN
 have hal : Below w.heap.size w ((w.alloc (.cells #[.int .i64 ti, .int .i64 ii, .int .i64 li] 52)).alloc (.cells #[.int .i64 0, .string ⟨#[]⟩, .string ⟨#[]⟩, .string ⟨#[]⟩] 59)) := ((Below.refl _ w).alloc (Nat.le_refl _) _).alloc (by simp) _
 go_enter Tryz.func29, Tryz.ntmps29
 go_wp2_with fail
 have hbk := Blk.new (w.alloc (.cells #[.int .i64 ti, .int .i64 ii, .int .i64 li] 52)) #[.int .i64 0, .string ⟨#[]⟩, .string ⟨#[]⟩, .string ⟨#[]⟩] 59
 rw [show (w.alloc (.cells #[.int .i64 ti, .int .i64 ii, .int .i64 li] 52)).heap.size = w.heap.size + 1 by simp] at hbk
 generalize World.alloc (World.alloc w _) _ = w2 at hal hbk ⊢
 refine (HT.out _).mono ?_
 rintro en w3 ⟨rfl, hb3⟩
 have hal3 := hal.trans (hb3.mono hal.size)
 have hbk3 : Blk w3 (w.heap.size + 1) _ _ := (hb3.block _ hbk.lt).trans hbk
 have hB5 := (hbk3.alloc (.cells #[.pointer (some ⟨p, 0, none⟩), .int .i64 ti] 110)).alloc (.cells #[.pointer (some ⟨p, 0, none⟩), .int .i64 ii] 111)
 have hal5 := (hal3.alloc hal3.size (.cells #[.pointer (some ⟨p, 0, none⟩), .int .i64 ti] 110)).alloc (Nat.le_trans hal3.size (by simp)) (.cells #[.pointer (some ⟨p, 0, none⟩), .int .i64 ii] 111)
 clear hal hbk hb3 hbk3 hal3 HT
 go_wp2_with fail
 refine (HNN.out _ hal5).mono ?_
 rintro en w6 ⟨rfl, hb6⟩
 have hB : Blk w6 (w.heap.size + 1) _ _ := (hb6.block _ hB5.lt).trans hB5
 have hbf := hal5.trans (hb6.mono hal5.size)
 have z0 := hB.cell 0
 have z1 := hB.cell 1
 have z2 := hB.cell 2
 have z3 := hB.cell 3
 have y0 := hB.frozen 0
 have y1 := hB.frozen 1
 have y2 := hB.frozen 2
 have y3 := hB.frozen 3
 simp only [List.getElem?_toArray, List.getElem?_cons_zero, List.getElem?_cons_succ] at z0 z1 z2 z3
 go_wp2_with fail
 have hz := (((hB.set 0 (.int .i64 k)).set 1 (.string s)).set 2 (.string l)).set 3 (.string u)
 simp only [List.setIfInBounds_toArray, List.set_cons_zero, List.set_cons_succ] at hz
 have hbz := (((hbf.setCell (p := ⟨w.heap.size + 1, 0, none⟩) (Nat.le_succ _) (.int .i64 k)).setCell (p := ⟨w.heap.size + 1, 1, none⟩) (Nat.le_succ _) (.string s)).setCell (p := ⟨w.heap.size + 1, 2, none⟩) (Nat.le_succ _) (.string l)).setCell (p := ⟨w.heap.size + 1, 3, none⟩) (Nat.le_succ _) (.string u)
 exact bodyPost_ret (results_cell_tmp_row (p := 6) (u := 7) (ty := 59) (by kernel_rfl) _ _ (w.heap.size + 1) _ _ _ _ rfl hz Tryz.underlying59 rfl (by kernel_rfl)) rfl ⟨rfl, hbz⟩
end Go.Proofs.YtbpdapcmaioeiaaGreat
