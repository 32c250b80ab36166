/- Gn -/
import Derived.Test.YtbpdapcmaioeiaaGreatKGm
namespace Go.Proofs.YtbpdapcmaioeiaaGreat
open Go.RowKit Go.Maps
set_option maxRecDepth 100000
set_option linter.unusedVariables false
/-- An entry as a page of a level has it. -/
def EWf (lvl : Int) (e : Ent) : Prop := if 0 < lvl then e.key = ⟨#[]⟩ ∧ e.val = ⟨#[]⟩ ∧ 0 ≤ e.kid ∧ e.kid < 65536 else e.kid = 0 ∧ e.key.size ≤ 255 ∧ e.val.size ≤ 60000
theorem grown_moved {w w' : World} {r : Nat} (h : w.grownBy w' (some r)) : Moved (· = r) w w' := ⟨h.os, h.tape, h.output, h.size, fun k hk hn => h.block k hk (fun e => hn (Option.some.inj e))⟩
theorem Rds.moved {E P : Nat → Prop} {w w' : World} {r : Nat} {l : List UInt8} {e : Int} (h : Rds E w r l e) (hm : Moved P w w') (hP : ∀ k, E k → ¬ P k) : Rds E w' r l e := by
 obtain ⟨⟨sv, h0, h1, h2, h3, h4, h5⟩, hE, sv', h6, h7⟩ := h
 obtain rfl : sv' = sv := by rw [h0] at h6; exact (Option.some.inj h6).symm
 have hr : r < w.heap.size := World.block_lt_of_cell? w _ h0
 have hb := hm.block r hr (hP r hE)
 refine ⟨⟨sv', by rw [World.cell?_of_block (w := w) hb]; exact h0, by rw [World.cell?_of_block (w := w) hb]; exact h1, by rw [World.frozen?_of_block (w := w) hb]; exact h2, by rw [World.frozen?_of_block (w := w) hb]; exact h3, ?_, h5⟩, hE, sv', by rw [World.cell?_of_block (w := w) hb]; exact h6, h7⟩
 exact h4.moved hm (fun k hk => hP k (h7 k hk))
theorem wraps_i64 (n : Int) (h₀ : 0 ≤ n) (h₁ : n < 2 ^ 63) : IntKind.i64.wrap n = n := by rw [IntKind.wrap_i64]; omega
theorem or_two (a b : Nat) (ha : a < 256) (hb : b < 256) : bits .or .i64 (a : Int) ((b : Int) * 256) = (a : Int) + (b : Int) * 256 := by
 have h2 : b * 256 < 2 ^ 63 := by omega
 have := (bits_nat .i64 63 (by decide) wraps_i64 a (b * 256) (by omega) h2).2
 rw [show ((b : Int) * 256) = ((b * 256 : Nat) : Int) by omega, this]
 have e := Nat.two_pow_add_eq_or_of_lt (i := 8) (b := a) (by omega) b
 rw [Nat.or_comm, Nat.mul_comm b, show (256 : Nat) = 2 ^ 8 by decide, ← e]
 omega
set_option maxHeartbeats 1000000 in
theorem next_kid {E : Nat → Prop} {r : Nat} {t : List UInt8} {w : World} (e : Ent) (lvl : Int) (hl : 0 < lvl) (he : EWf lvl e) (h : Rds E w r (encE lvl e ++ t) 0) (hE : ∀ k, E k → k < w.heap.size) :
 Calls Tryz.prog 127 #[.pointer (some ⟨r, 0, none⟩), .int .i64 lvl] w fun en w' => en = .returned e.agg ∧ Rds E w' r t 0 ∧ Moved (· = r) w w' := by
 unfold EWf at he
 rw [if_pos hl] at he
 obtain ⟨he1, he2, he3, he4⟩ := he
 have hcut : encE lvl e ++ t = le e.kid 1 ++ (le (e.kid / 256) 1 ++ t) := by unfold encE; rw [if_pos hl, List.append_assoc]
 rw [hcut] at h
 have hal : Below w.heap.size w (w.alloc (.cells #[.string ⟨#[]⟩, .string ⟨#[]⟩, .int .i64 0] 121)) := (Below.refl _ w).alloc (Nat.le_refl _) _
 have hb := Blk.new w #[.string ⟨#[]⟩, .string ⟨#[]⟩, .int .i64 0] 121
 have h1 := h.below hal
 obtain ⟨w1, hw1⟩ : ∃ w1, w1 = w.alloc (.cells #[.string ⟨#[]⟩, .string ⟨#[]⟩, .int .i64 0] 121) := ⟨_, rfl⟩
 rw [← hw1] at hal hb h1
 have hne : w.heap.size ≠ r := fun e => by have := hE r h.2.1; omega
 have HAL := Lib.hid hal
 have HB := Lib.hid hb
 have H1 := Lib.hid h1
 have HW1 := Lib.hid hw1
 have HNE := Lib.hid hne
 clear h hal hb h1 hw1 hcut
 go_enter Tryz.func127, Tryz.ntmps127
 go_wp2_with fail
 rw [← HW1.out]
 refine (rbyteS_any E r _ 0 _ H1.out).mono ?_
 rintro en w2 ⟨rfl, h2, hg2⟩
 obtain ⟨q1, q2, q3⟩ := took_front (le e.kid 1) (le (e.kid / 256) 1 ++ t) 1 (le_length _ _)
 rw [q1, num_one]
 rw [q2, q3] at h2
 have HB2 := Lib.hid (HB.out.moved (grown_moved hg2) HNE.out)
 have H2 := Lib.hid h2
 have HG2 := Lib.hid (grown_moved hg2)
 clear h2 hg2 q1 q2 q3
 go_wp2_with fail
 refine (rbyteS_any E r _ 0 _ H2.out).mono ?_
 rintro en w3 ⟨rfl, h3, hg3⟩
 obtain ⟨q1, q2, q3⟩ := took_front (le (e.kid / 256) 1) t 1 (le_length _ _)
 rw [q1, num_one]
 rw [q2, q3] at h3
 have HB3 := Lib.hid (HB2.out.moved (grown_moved hg3) HNE.out)
 have H3 := Lib.hid h3
 have HG3 := Lib.hid (HG2.out.trans (grown_moved hg3) (fun j hj => .inl hj))
 clear h3 hg3 q1 q2 q3
 have c0 : w3.cell? ⟨w.heap.size, 0, none⟩ = some (.string ⟨#[]⟩) := by rw [HB3.out.cell]; rfl
 have c1 : w3.cell? ⟨w.heap.size, 1, none⟩ = some (.string ⟨#[]⟩) := by rw [HB3.out.cell]; rfl
 have c2 : w3.cell? ⟨w.heap.size, 2, none⟩ = some (.int .i64 0) := by rw [HB3.out.cell]; rfl
 have g0 := HB3.out.frozen 0
 have g1 := HB3.out.frozen 1
 have g2 := HB3.out.frozen 2
 have hor := or_two (e.kid % 256).toNat (e.kid / 256 % 256).toNat (by omega) (by omega)
 rw [show (((e.kid % 256).toNat : Nat) : Int) = e.kid % 256 by omega, show (((e.kid / 256 % 256).toNat : Nat) : Int) = e.kid / 256 % 256 by omega, show e.kid % 256 + e.kid / 256 % 256 * 256 = e.kid by omega] at hor
 have HOR := Lib.hid hor
 clear hor
 go_wp2_with fail
 rw [HOR.out]
 have hbf : Blk (((w3.setCell ⟨w.heap.size, 0, none⟩ (.string ⟨#[]⟩)).setCell ⟨w.heap.size, 1, none⟩ (.string ⟨#[]⟩)).setCell ⟨w.heap.size, 2, none⟩ (.int .i64 e.kid)) w.heap.size #[.string ⟨#[]⟩, .string ⟨#[]⟩, .int .i64 e.kid] 121 := ((HB3.out.set 0 (.string ⟨#[]⟩)).set 1 (.string ⟨#[]⟩)).set 2 (.int .i64 e.kid)
 have hms : Moved (· = w.heap.size) w3 (((w3.setCell ⟨w.heap.size, 0, none⟩ (.string ⟨#[]⟩)).setCell ⟨w.heap.size, 1, none⟩ (.string ⟨#[]⟩)).setCell ⟨w.heap.size, 2, none⟩ (.int .i64 e.kid)) := (((Moved.refl (· = w.heap.size) w3).setCell _ _ (.inl rfl)).setCell _ _ (.inl rfl)).setCell _ _ (.inl rfl)
 refine bodyPost_ret (results_cell_row rfl _ _ w.heap.size 121 _ (0, 0) _ rfl hbf Tryz.underlying121 rfl (by kernel_rfl)) rfl ?_
 refine ⟨?_, H3.out.moved hms (fun k hk e => by have := hE k hk; omega), ((Moved.of_below HAL.out _).trans HG3.out (fun j hj => .inl hj)).trans hms (fun j hj => .inr (by omega))⟩
 unfold Ent.agg
 rw [he1, he2]
theorem tx_back (s : ByteArray) (t : List UInt8) (h : s.size ≤ 65535) : textOf (tx s ++ t) 0 = s.data.toList ∧ textLeft (tx s ++ t) 0 = t ∧ textErr (tx s ++ t) 0 = 0 := by
 have hs : s.data.toList.length = s.size := Array.length_toList
 have e : tx s = le s.size 2 ++ s.data.toList := by
  unfold tx
  rw [show min (s.size : Int) 65535 = s.size by omega, List.take_of_length_le (by omega)]
 have h2 : num (le (s.size : Int) 2) = s.size := by
  have := num_le (s.size : Int) 2
  omega
 obtain ⟨q1, q2, q3⟩ := took_front (le (s.size : Int) 2) (s.data.toList ++ t) 2 (le_length _ _)
 obtain ⟨p1, p2, p3⟩ := took_front s.data.toList t s.size hs
 unfold textOf textLeft textErr
 rw [e, List.append_assoc, q1, q2, q3, h2]
 exact ⟨p1, p2, p3⟩
theorem cut_cat (k v : ByteArray) : (k ++ v).extract 0 k.size = k ∧ (k ++ v).extract k.size (k ++ v).size = v := by
 refine ⟨?_, ?_⟩ <;> ext <;> simp
set_option maxHeartbeats 2000000 in
theorem next_leaf {E : Nat → Prop} {r : Nat} {t : List UInt8} {w : World} (e : Ent) (lvl : Int) (hl : ¬ 0 < lvl) (he : EWf lvl e) (h : Rds E w r (encE lvl e ++ t) 0) (hE : ∀ k, E k → k < w.heap.size) :
 Calls Tryz.prog 127 #[.pointer (some ⟨r, 0, none⟩), .int .i64 lvl] w fun en w' => en = .returned e.agg ∧ Rds E w' r t 0 ∧ Moved (· = r) w w' := by
 unfold EWf at he
 rw [if_neg hl] at he
 obtain ⟨he1, he2, he3⟩ := he
 have hsum : (e.key ++ e.val).size = e.key.size + e.val.size := ByteArray.size_append
 have hcut : encE lvl e ++ t = le e.key.size 1 ++ (tx (e.key ++ e.val) ++ t) := by unfold encE; rw [if_neg hl, List.append_assoc]
 rw [hcut] at h
 have hal : Below w.heap.size w (w.alloc (.cells #[.string ⟨#[]⟩, .string ⟨#[]⟩, .int .i64 0] 121)) := (Below.refl _ w).alloc (Nat.le_refl _) _
 have hb := Blk.new w #[.string ⟨#[]⟩, .string ⟨#[]⟩, .int .i64 0] 121
 have h1 := h.below hal
 obtain ⟨w1, hw1⟩ : ∃ w1, w1 = w.alloc (.cells #[.string ⟨#[]⟩, .string ⟨#[]⟩, .int .i64 0] 121) := ⟨_, rfl⟩
 rw [← hw1] at hal hb h1
 have hne : w.heap.size ≠ r := fun e => by have := hE r h.2.1; omega
 obtain ⟨tb1, tb2, tb3⟩ := tx_back (e.key ++ e.val) t (by omega)
 obtain ⟨q1, q2, q3⟩ := took_front (le (e.key.size : Int) 1) (tx (e.key ++ e.val) ++ t) 1 (le_length _ _)
 obtain ⟨x1, x2⟩ := cut_cat e.key e.val
 have hk256 : ((e.key.size : Nat) : Int) % 256 = e.key.size := by omega
 have HAL := Lib.hid hal
 have HB := Lib.hid hb
 have H1 := Lib.hid h1
 have HW1 := Lib.hid hw1
 have HNE := Lib.hid hne
 have HSUM := Lib.hid hsum
 have X1 := Lib.hid x1
 have X2 := Lib.hid x2
 clear h hal hb h1 hw1 hcut
 go_enter Tryz.func127, Tryz.ntmps127
 go_wp2_with fail
 rw [← HW1.out]
 refine (rbyteS_any E r _ 0 _ H1.out).mono ?_
 rintro en w2 ⟨rfl, h2, hg2⟩
 rw [q1, num_one, hk256]
 rw [q2, q3] at h2
 have HB2 := Lib.hid (HB.out.moved (grown_moved hg2) HNE.out)
 have H2 := Lib.hid h2
 have HG2 := Lib.hid (grown_moved hg2)
 clear h2 hg2 q1 q2 q3 hk256 x1 x2 hsum
 have HT1 := Lib.hid tb1
 have HT2 := Lib.hid tb2
 have HT3 := Lib.hid tb3
 clear tb1 tb2 tb3
 go_wp2_with fail
 refine (rtextS_any E r _ 0 _ H2.out).mono ?_
 rintro en w3 ⟨rfl, h3, hg3⟩
 rw [HT1.out]
 rw [HT2.out, HT3.out] at h3
 rw [show (⟨(e.key ++ e.val).data.toList.toArray⟩ : ByteArray) = e.key ++ e.val from rfl]
 obtain ⟨s, hs⟩ : ∃ s, s = e.key ++ e.val := ⟨_, rfl⟩
 rw [← hs]
 have hss : s.size = e.key.size + e.val.size := by rw [hs]; exact HSUM.out
 have hx1 : s.extract 0 e.key.size = e.key := by rw [hs]; exact X1.out
 have hx2 : s.extract e.key.size (e.key.size + e.val.size) = e.val := by rw [← hss, hs]; exact X2.out
 have HX2 := Lib.hid hx2
 have hle : e.key.size ≤ s.size := by omega
 have HB3 := Lib.hid (HB2.out.moved (grown_moved hg3) HNE.out)
 have H3 := Lib.hid h3
 have HG3 := Lib.hid (HG2.out.trans (grown_moved hg3) (fun j hj => .inl hj))
 have c0 : w3.cell? ⟨w.heap.size, 0, none⟩ = some (.string ⟨#[]⟩) := by rw [HB3.out.cell]; rfl
 have c1 : w3.cell? ⟨w.heap.size, 1, none⟩ = some (.string ⟨#[]⟩) := by rw [HB3.out.cell]; rfl
 have c2 : w3.cell? ⟨w.heap.size, 2, none⟩ = some (.int .i64 0) := by rw [HB3.out.cell]; rfl
 have g0 := HB3.out.frozen 0
 have g1 := HB3.out.frozen 1
 have g2 := HB3.out.frozen 2
 clear h3 hg3 hs hx2
 go_wp2_with fail
 refine wp_region_any (by kernel_rfl) ?_
 change wpAny _ _ _ _ _ _ _ (World.drew _)
 refine wpAny_of_held (S := fun (w' : World) => w'.heap.size = w3.heap.size) _ _ _ _ ?_
 have hS : (fun (w' : World) => w'.heap.size = w3.heap.size) _ := (show w3.drew.heap.size = w3.heap.size from rfl)
 try simp only [Act.put, List.setIfInBounds_toArray, List.set_cons_zero, List.set_cons_succ]
 refine wpAnyH_take (i := 0) (oi := ⟨some 26, _, _, _, _, _⟩) (v := ?_) rfl (by kernel_rfl) (by kernel_rfl) (by kernel_rfl) (fun _ _ _ h => h) (Or.inl ⟨by simp only [Region.wanted], ?_⟩) hS ?_
 rotate_left
 ·intro wz hSw
  clear hSw
  go_simp
  first | done | with_reducible rfl
 try simp only [Act.put, List.setIfInBounds_toArray, List.set_cons_zero, List.set_cons_succ]
 refine wpAnyH_take (i := 1) (oi := ⟨some 27, _, _, _, _, _⟩) (v := ?_) rfl (by kernel_rfl) (by kernel_rfl) (by kernel_rfl) (fun _ _ _ h => h) (Or.inl ⟨by simp only [Region.wanted], ?_⟩) hS ?_
 rotate_left
 ·intro wz hSw
  clear hSw
  go_simp
  first | done | with_reducible rfl
 try simp only [Act.put, List.setIfInBounds_toArray, List.set_cons_zero, List.set_cons_succ]
 refine wpAnyH_take (i := 2) (oi := ⟨some 28, _, _, _, _, _⟩) (v := ?_) rfl (by kernel_rfl) (by kernel_rfl) (by kernel_rfl) (fun _ _ _ h => h) (Or.inl ⟨by simp only [Region.wanted], ?_⟩) hS ?_
 rotate_left
 ·intro wz hSw
  clear hSw
  go_simp
  first | done | with_reducible rfl
 try simp only [Act.put, List.setIfInBounds_toArray, List.set_cons_zero, List.set_cons_succ]
 refine wpAnyH_take (i := 3) (oi := ⟨some 29, _, _, _, _, _⟩) (v := ?_) rfl (by kernel_rfl) (by kernel_rfl) (by kernel_rfl) (fun _ _ _ h => h) (Or.inl ⟨by simp only [Region.wanted], ?_⟩) hS ?_
 rotate_left
 ·intro wz hSw
  clear hSw
  go_simp
  first | done | with_reducible rfl
 try simp only [Act.put, List.setIfInBounds_toArray, List.set_cons_zero, List.set_cons_succ]
 refine wpAnyH_take (i := 4) (oi := ⟨some 30, _, _, _, _, _⟩) (v := ?_) rfl (by kernel_rfl) (by kernel_rfl) (by kernel_rfl) (fun _ _ _ h => h) (Or.inl ⟨by simp only [Region.wanted], ?_⟩) hS ?_
 rotate_left
 ·intro wz hSw
  clear hSw
  go_simp
  first | done | with_reducible rfl
 try simp only [Act.put, List.setIfInBounds_toArray, List.set_cons_zero, List.set_cons_succ]
 refine wpAnyH_take (i := 5) (oi := ⟨some 31, _, _, _, _, _⟩) (v := ?_) rfl (by kernel_rfl) (by kernel_rfl) (by kernel_rfl) (fun _ _ _ h => h) (Or.inl ⟨by simp only [Region.wanted], ?_⟩) hS ?_
 rotate_left
 ·intro wz hSw
  clear hSw
  go_simp
  first | done | with_reducible rfl
 try simp only [Act.put, List.setIfInBounds_toArray, List.set_cons_zero, List.set_cons_succ]
 refine wpAnyH_take (i := 6) (oi := ⟨some 32, _, _, _, _, _⟩) (v := ?_) rfl (by kernel_rfl) (by kernel_rfl) (by kernel_rfl) (fun _ _ _ h => h) (Or.inl ⟨by simp only [Region.wanted], ?_⟩) hS ?_
 rotate_left
 ·intro wz hSw
  clear hSw
  go_simp
  first | done | with_reducible rfl
 try simp only [Act.put, List.setIfInBounds_toArray, List.set_cons_zero, List.set_cons_succ]
 refine wpAnyH_ready (rs := [7]) (by kernel_rfl) (by simp) ?_
 refine AllReadyH.cons (o := ⟨none, _, _, _, _, _⟩) rfl (fun K hK => ?_) AllReadyH.nil
 go_simp
 refine hK.out _ _ (by simp) (fun hS => ?_)
 clear hK K
 try simp only [Act.put, List.setIfInBounds_toArray, List.set_cons_zero, List.set_cons_succ]
 refine wpAnyH_done (by kernel_rfl) ?_ _
 clear hS
 rw [HX2.out]
 have hbf : Blk (((w3.setCell ⟨w.heap.size, 0, none⟩ (.string e.key)).setCell ⟨w.heap.size, 1, none⟩ (.string e.val)).setCell ⟨w.heap.size, 2, none⟩ (.int .i64 0)).drew w.heap.size #[.string e.key, .string e.val, .int .i64 0] 121 := (((HB3.out.set 0 (.string e.key)).set 1 (.string e.val)).set 2 (.int .i64 0)).drew
 have hms : Moved (· = w.heap.size) w3 (((w3.setCell ⟨w.heap.size, 0, none⟩ (.string e.key)).setCell ⟨w.heap.size, 1, none⟩ (.string e.val)).setCell ⟨w.heap.size, 2, none⟩ (.int .i64 0)).drew := ((((Moved.refl (· = w.heap.size) w3).setCell _ _ (.inl rfl)).setCell _ _ (.inl rfl)).setCell _ _ (.inl rfl)).drew
 have HBF := Lib.hid hbf
 have HMS := Lib.hid hms
 clear hbf hms
 go_wp2_with fail
 refine bodyPost_ret (results_cell_row rfl _ _ w.heap.size 121 _ (0, 0) _ rfl HBF.out Tryz.underlying121 rfl (by kernel_rfl)) rfl ?_
 refine ⟨?_, H3.out.moved HMS.out (fun k hk e => by have := hE k hk; omega), ((Moved.of_below HAL.out _).trans HG3.out (fun j hj => .inl hj)).trans HMS.out (fun j hj => .inr (by omega))⟩
 unfold Ent.agg
 rw [he1]
theorem next_any {E : Nat → Prop} {r : Nat} {t : List UInt8} {w : World} (e : Ent) (lvl : Int) (he : EWf lvl e) (h : Rds E w r (encE lvl e ++ t) 0) (hE : ∀ k, E k → k < w.heap.size) :
 Calls Tryz.prog 127 #[.pointer (some ⟨r, 0, none⟩), .int .i64 lvl] w fun en w' => en = .returned e.agg ∧ Rds E w' r t 0 ∧ Moved (· = r) w w' := by
 by_cases hl : 0 < lvl
 ·exact next_kid e lvl hl he h hE
 ·exact next_leaf e lvl hl he h hE
/-- failed: nothing has gone wrong. -/
theorem failed_no {E : Nat → Prop} {r : Nat} {t : List UInt8} {w : World} (h : Rds E w r t 0) :
 Calls Tryz.prog 128 #[.pointer (some ⟨r, 0, none⟩)] w fun en w' => en = .returned (.bool false) ∧ w' = w := by
 have H := Lib.hid h
 by_cases ht : t = []
 ·subst ht
  clear h
  go_enter Tryz.func128, Tryz.ntmps128
  go_wp2_with fail
  refine (end_any r [] 0 _ H.out.1).mono ?_
  rintro en w1 ⟨rfl, he⟩
  replace he := he.symm
  subst he
  rw [show endOf [] 0 = 0 by decide]
  go_wp2_with fail
  go_ret
  exact ⟨rfl, rfl⟩
 ·have he8 : endOf t 0 = 8 := by unfold endOf; rw [if_pos ⟨rfl, ht⟩]
  have HE8 := Lib.hid he8
  clear h he8
  go_enter Tryz.func128, Tryz.ntmps128
  go_wp2_with fail
  refine (end_any r t 0 _ H.out.1).mono ?_
  rintro en w1 ⟨rfl, he⟩
  subst he
  rw [HE8.out]
  go_wp2_with fail
  refine (end_any r t 0 _ H.out.1).mono ?_
  rintro en w1 ⟨rfl, he⟩
  subst he
  rw [HE8.out]
  go_wp2_with fail
  go_ret
  exact ⟨rfl, rfl⟩
end Go.Proofs.YtbpdapcmaioeiaaGreat
namespace Go.Proofs.YtbpdapcmaioeiaaGreat
open Go.RowKit Go.Maps
set_option maxRecDepth 100000
set_option linter.unusedVariables false
theorem results_cell_tmp_row {P : Program} {fn : Func} {p u : Tmp} {ty : TypeId} (h : fn.results = #[.cell p ty, .tmp u]) (tmps : Array Value) (w : World) (g : Nat) (t : TypeId) (cs : Array Value) (fr : Nat × Nat) (d : TypeDesc)
 (hp : tmps.getD p undef = .pointer (some ⟨g, 0, none⟩)) (hg : w.heap[g]? = some (.cells cs t fr))
 (hu : P.underlying ty = some d) (hd : (match d with | .struct _ | .array _ _ => true | _ => false) = true) (hi : (P.info? ty).map (·.size) = some cs.size) :
 (results fn tmps).run P w = .ok (.tuple #[.agg cs, tmps.getD u undef]) w := by
 rw [results_cell_tmp h, hp]
 simp [asAddr, Result.andThen, run_loadVar_row w g t ty cs fr d hg hu hd hi]
theorem results_tmp4 {fn : Func} {t u v x : Tmp} (h : fn.results = #[.tmp t, .tmp u, .tmp v, .tmp x]) (tmps : Array Value) (P : Program) (w : World) :
 (results fn tmps).run P w = .ok (.tuple #[tmps.getD t undef, tmps.getD u undef, tmps.getD v undef, tmps.getD x undef]) w := by
 simp [results, h]
/-- Page i holds the entries es of a node of a level. -/
structure NodeAt (N : Nat) (H : Lg) (i : Int) (lvl : Int) (es : List Ent) : Prop where
 used : lgUsed N H i
 page : H.page i.toNat = page (enc lvl es)
 size : (enc lvl es).length ≤ 504
 low : 0 ≤ lvl
 high : lvl ≤ 11
 few : es.length ≤ 255
 wf : ∀ e ∈ es, EWf lvl e
set_option maxHeartbeats 1000000 in
theorem open_any {w0 w : World} {X : Nat → Prop} {r p N M c : Nat} {G : Lg} {H : Option Lg} (h : Pb w0 w X r p N M c G H) {i lvl : Int} {es : List Ent} (hn : NodeAt N (H.getD G) i lvl es) :
 Calls Tryz.prog 126 #[.pointer (some ⟨p, 0, none⟩), .int .i64 i] w fun e w' => ∃ rd E zs, e = .returned (.tuple #[.int .i64 lvl, .int .i64 es.length, .pointer (some ⟨rd, 0, none⟩), .int .i64 0]) ∧
  (∀ k, E k → w.heap.size ≤ k ∧ k < w'.heap.size) ∧ Rds E w' rd (encs lvl es ++ zs) 0 ∧ Below w.heap.size w w' := by
 have hg := pb_get i h
 rw [if_pos hn.used, if_pos hn.used, hn.page] at hg
 have hsz := hn.size
 have hlow := hn.low
 have hhigh := hn.high
 have hfew := hn.few
 obtain ⟨n, hn'⟩ : ∃ n, n = es.length := ⟨_, rfl⟩
 rw [← hn'] at hfew ⊢
 obtain ⟨zs, hzs⟩ : ∃ zs, page (enc lvl es) = le lvl 1 ++ (le n 1 ++ (encs lvl es ++ zs)) := ⟨_, by rw [hn']; unfold page enc; simp only [List.append_assoc]; rfl⟩
 have hpl : (page (enc lvl es)).length = 504 := page_length _ hsz
 rw [hzs] at hg hpl
 obtain ⟨L, hL⟩ : ∃ L, L = le lvl 1 ++ (le n 1 ++ (encs lvl es ++ zs)) := ⟨_, rfl⟩
 rw [← hL] at hg hpl
 have HL := Lib.hid hL
 have HG := Lib.hid hg
 have HPL := Lib.hid hpl
 clear h hg hn hn' hzs hL hsz hpl
 go_enter Tryz.func126, Tryz.ntmps126
 go_wp2_with fail
 refine HG.out.mono ?_
 rintro e w1 ⟨v, rfl, hv, -, hb1⟩
 obtain ⟨ao, cap, rfl, -⟩ := id hv
 have HV := Lib.hid hv
 have HB1 := Lib.hid hb1
 clear hv hb1 HG
 go_wp2_with fail
 refine (newS_any _ L (by have := HPL.out; omega) _ HV.out).mono ?_
 rintro e w2 ⟨rd, rfl, hr, -, hb2⟩
 obtain ⟨E, hE⟩ : ∃ E : Nat → Prop, E = fun k => w1.heap.size ≤ k ∧ k < w2.heap.size := ⟨_, rfl⟩
 rw [← hE] at hr
 have HE := Lib.hid hE
 have hr' := hr
 rw [HL.out] at hr
 have HR := Lib.hid hr
 have HB2 := Lib.hid (HB1.out.trans (hb2.mono HB1.out.size))
 have HB22 := Lib.hid hb2
 clear hr hr' hb2 hE
 go_wp2_with fail
 refine (rbyteS_any E rd _ 0 _ HR.out).mono ?_
 rintro en w3 ⟨rfl, h3, hg3⟩
 obtain ⟨q1, q2, q3⟩ := took_front (le lvl 1) (le n 1 ++ (encs lvl es ++ zs)) 1 (le_length _ _)
 rw [q1, num_one, show lvl % 256 = lvl by omega]
 rw [q2, q3] at h3
 have H3 := Lib.hid h3
 have HG3 := Lib.hid (grown_moved hg3)
 clear h3 hg3 q1 q2 q3
 go_wp2_with fail
 refine (rbyteS_any E rd _ 0 _ H3.out).mono ?_
 rintro en w4 ⟨rfl, h4, hg4⟩
 obtain ⟨q1, q2, q3⟩ := took_front (le n 1) (encs lvl es ++ zs) 1 (le_length _ _)
 rw [q1, num_one, show (n : Int) % 256 = n by omega]
 rw [q2, q3] at h4
 have H4 := Lib.hid h4
 have HG4 := Lib.hid (HG3.out.trans (grown_moved hg4) (fun j hj => .inl hj))
 clear h4 hg4 q1 q2 q3
 go_wp2_with fail
 refine bodyPost_ret (results_tmp4 rfl _ _ _) rfl ?_
 have hs4 := HG4.out.size
 have hs2 := HB22.out.size
 have hs1 := HB1.out.size
 have hrd : E rd := H4.out.2.1
 refine ⟨rd, E, zs, rfl, fun k hk => ?_, H4.out, ?_⟩
 ·rw [HE.out] at hk
  exact ⟨by omega, by omega⟩
 ·rw [HE.out] at hrd
  exact HB2.out.trans (HG4.out.below (fun j hj => by omega) HB2.out.size)
theorem Tryz.infoEnt : (Tryz.prog.info? 121).map (fun i => (i.zero, i.size, i.bytes)) = some (some (.agg #[.string ⟨#[]⟩, .string ⟨#[]⟩, .int .i64 0]), 3, 40) := by kernel_rfl
def Owe (w : World) (base : Nat) (v : Value) (es : List Ent) : Prop := w.ownsRow base 121 3 v es.length (ecells es)
theorem Owe.out {w : World} {base : Nat} {v : Value} {es : List Ent} (h : Owe w base v es) : w.ownsRow base 121 3 v es.length (ecells es) := h
theorem Owe.ens {w : World} {base : Nat} {v : Value} {es : List Ent} (h : Owe w base v es) : Ens w v es := Rw.of_own h.out
theorem Owe.nil (w : World) (base : Nat) : Owe w base (.slice none 0 0) [] := World.ownsRow_nil _ _ _ _
theorem Owe.lt {w : World} {base : Nat} {v : Value} {es : List Ent} (h : Owe w base v es) : ∀ q, v.ownBlock = some q → base ≤ q ∧ q < w.heap.size := h.out.lt
theorem Owe.moved {P : Nat → Prop} {w w' : World} {base : Nat} {v : Value} {es : List Ent} (h : Owe w base v es) (hm : Moved P w w') (hP : ∀ q, v.ownBlock = some q → ¬ P q) : Owe w' base v es := owns_moved h hm hP
theorem Owe.below {w w' : World} {base : Nat} {v : Value} {es : List Ent} (h : Owe w base v es) (hb : Below w.heap.size w w') : Owe w' base v es := h.moved (Moved.of_below hb (fun _ => False)) (fun _ _ h => h)
theorem Owe.mono {w : World} {base base' : Nat} {v : Value} {es : List Ent} (h : Owe w base v es) (hb : base' ≤ base) : Owe w base' v es := by
 obtain ⟨h0, h1⟩ := h
 refine ⟨h0, ?_⟩
 rcases h1 with h1 | ⟨g, cap, cur, rfl, hg, k⟩
 ·exact .inl h1
 ·exact .inr ⟨g, cap, cur, rfl, Nat.le_trans hb hg, k⟩
theorem Owe.form {w : World} {base : Nat} {v : Value} {es : List Ent} (h : Owe w base v es) : ∃ ao cap, v = .slice ao es.length cap ∧ es.length ≤ cap ∧ cap ≤ 9223372036854775807 := h.ens.form
/-- append(s, l...) -/
theorem run_append_ens (w : World) (ty : TypeId) (base : Nat) (hbase : base ≤ w.heap.size) (v : Value) (es : List Ent) (hown : Owe w base v es) (y : Value) (m : List Ent) (hy : Ens w y m) (hl : es.length + m.length ≤ 1000000) :
 ∃ v' w', (Builtin.append_ #[132, 132] ty #[v, y]).run Tryz.prog w = .ok v' w' ∧ Owe w' base v' (es ++ m) ∧ w.grownBy w' v.ownBlock := by
 obtain ⟨i0, hi, hz0, hz1, hz2⟩ := info_parts Tryz.infoEnt
 obtain ⟨h0, ao, cap, rfl, h1, h2, h3, h4⟩ := hy
 cases ao with
 | none =>
  have hc := h3 rfl
  obtain rfl : m = [] := List.eq_nil_of_length_eq_zero (by omega)
  subst hc
  have hrun := run_append_owned_none (P := Tryz.prog) (w := w) base 132 ty 121 i0 3 Tryz.underlying132 hi v _ _ hown
  exact ⟨v, w, hrun, by rw [List.append_nil]; exact hown, World.grownBy.refl _ _⟩
 | some ad =>
  obtain ⟨v', w', hr, k1, k2, -⟩ := run_append_own (P := Tryz.prog) w base 132 ty 121 i0 _ 3 40 Tryz.underlying132 hi hz0 hz1 hz2 rfl (by decide) v es.length (ecells es) hown ad m.length cap (ecells m) (ecells_length m) (h4 ad rfl) (ecells_one m) (by simp [maxLen]; omega) (by omega) hbase
  refine ⟨v', w', hr, ?_, k2⟩
  unfold Owe
  rw [ecells_append, List.length_append]
  exact k1
theorem wpList_append_ens {w : World} {ops : Array Oper} {rest : List Oper} {o : Oper} {a : Act} {Q : Exit → Act → World → Prop} (hgd : o.guard = none) (s x : Operand)
 (ho : o.op = .call { callee := .builtin .append, args := #[s, x], argTypes := #[132, 132] }) (base : Nat) (hbase : base ≤ w.heap.size)
 (v : Value) (es : List Ent) (hs : a.eval s = v) (hown : Owe w base v es) (y : Value) (m : List Ent) (hx : a.eval x = y) (hy : Ens w y m) (n : Nat) (hn : n = (es ++ m).length) (hl : n ≤ 1000000)
 (h : ∀ ao cap w', Owe w' base (.slice ao n cap) (es ++ m) → w.grownBy w' v.ownBlock → wpList Tryz.prog ops Q rest (a.put o.dst (.slice ao n cap)) w') :
 wpList Tryz.prog ops Q (o :: rest) a w := by
 refine wpList_plain hgd fun K hK => ?_
 obtain ⟨v', w', hr, k1, k2⟩ := run_append_ens w o.type base hbase v es hown y m hy (by rw [hn, List.length_append] at hl; exact hl)
 obtain ⟨ao, cap, rfl, -⟩ := k1.form
 subst hn
 unfold Oper.wp execOp
 simp only [ho, resolve, invoke, builtin, Sem.run_bind, Sem.run_pure, Result.andThen_ok, List.map_toArray, List.map_cons, List.map_nil, hs, hx, hr]
 exact hK _ _ (h ao cap w' k1 k2)
theorem Ens.one {w : World} {g : Nat} (e : Ent) (hg : Blk w g #[.string e.key, .string e.val, .int .i64 e.kid] 121) : Ens w (.slice (some ⟨g, 0, none⟩) 1 1) [e] := by
 refine ⟨rfl, some ⟨g, 0, none⟩, 1, rfl, Nat.le_refl _, by simp [maxLen], (fun e => by cases e), fun ad had j u hu => ?_⟩
 cases had
 rw [Addr.add_lit, Nat.zero_add, hg.cell]
 simpa [ecells, Ent.cells] using hu
end Go.Proofs.YtbpdapcmaioeiaaGreat
namespace Go.Proofs.YtbpdapcmaioeiaaGreat
open Go.RowKit Go.Maps
set_option maxRecDepth 100000
set_option linter.unusedVariables false
def nodeV (i lvl : Int) (v : Value) : Value := .agg #[.int .i64 i, .int .i64 lvl, v]
set_option maxHeartbeats 2000000 in
theorem read_node {w0 w : World} {X : Nat → Prop} {r p N M c : Nat} {G : Lg} {H : Option Lg} (h : Pb w0 w X r p N M c G H) {i lvl : Int} {es : List Ent} (hn : NodeAt N (H.getD G) i lvl es) (hk : lvl = 0 ∨ 1 < es.length) :
 Calls Tryz.prog 88 #[.pointer (some ⟨p, 0, none⟩), .int .i64 i] w fun e w' => ∃ v, e = .returned (.tuple #[nodeV i lvl v, .int .i64 0]) ∧ Owe w' w.heap.size v es ∧ Below w.heap.size w w' := by
 have hal : Below w.heap.size w (w.alloc (.cells #[.int .i64 0, .int .i64 0, .slice none 0 0] 140)) := (Below.refl _ w).alloc (Nat.le_refl _) _
 have hb := Blk.new w #[.int .i64 0, .int .i64 0, .slice none 0 0] 140
 obtain ⟨w1, hw1⟩ : ∃ w1, w1 = w.alloc (.cells #[.int .i64 0, .int .i64 0, .slice none 0 0] 140) := ⟨_, rfl⟩
 rw [← hw1] at hal hb
 have hop := open_any (h.grow hal) hn
 have hlow := hn.low
 have hhigh := hn.high
 have hfew := hn.few
 have hwf := hn.wf
 obtain ⟨n, hn'⟩ : ∃ n, n = es.length := ⟨_, rfl⟩
 rw [← hn'] at hfew hk hop
 have HN := Lib.hid hn'
 have HOP := Lib.hid hop
 have HWF := Lib.hid hwf
 have HAL := Lib.hid hal
 have HB := Lib.hid hb
 have HW1 := Lib.hid hw1
 have HK := Lib.hid hk
 have HSZ : Hid (w1.heap.size = w.heap.size + 1) := Lib.hid (by rw [hw1]; simp)
 clear h hn hop hn' hwf hal hb hw1 hk
 go_enter Tryz.func88, Tryz.ntmps88
 go_wp2_with fail
 go_step3
 go_wp2_with fail
 rw [← HW1.out]
 refine HOP.out.mono ?_
 rintro e w2 ⟨rd, E, zs, rfl, hE, hr, hb2⟩
 have HE := Lib.hid hE
 have HR := Lib.hid hr
 have HB2 := Lib.hid hb2
 clear hE hr hb2 HOP
 go_wp2_with fail
 go_loopw [6, 22] (fun v6 i wr => ∃ (k : Nat) (ao : Option Addr) (cap : Nat), k ≤ n ∧ i = .int .i64 k ∧ v6 = .slice ao k cap ∧ k ≤ cap ∧ cap ≤ 9223372036854775807 ∧ Owe wr w2.heap.size v6 (es.take k) ∧ Rds E wr rd (encs lvl (es.drop k) ++ zs) 0 ∧ Moved (· = rd) w2 wr) (fun _ i _ => n - (intOf i).toNat)
 case atStart => exact ⟨0, none, 0, Nat.zero_le _, rfl, rfl, Nat.le_refl _, by decide, Owe.nil _ _, HR.out, Moved.refl _ _⟩
 case round =>
  obtain ⟨k, ao, cap, hk, rfl, rfl, hcap1, hcap2, ho, hrd, hm⟩ := hrel
  have hqk : (es.take k).length = k := by rw [List.length_take, ← HN.out]; omega
  have HQK := Lib.hid hqk
  have HO := Lib.hid ho
  have HRD := Lib.hid hrd
  have HM := Lib.hid hm
  clear ho hrd hm hqk
  by_cases hlt : k < n
  ·have hke : k < es.length := by rw [← HN.out]; exact hlt
   obtain ⟨e, he⟩ : ∃ y, y = es[k] := ⟨_, rfl⟩
   have hst : es.take (k + 1) = es.take k ++ [e] := by rw [List.take_succ_eq_append_getElem hke, he]
   have hsd : es.drop k = e :: es.drop (k + 1) := by rw [List.drop_eq_getElem_cons hke, he]
   have hrd := HRD.out
   rw [hsd, show encs lvl (e :: es.drop (k + 1)) = encE lvl e ++ encs lvl (es.drop (k + 1)) from rfl, List.append_assoc] at hrd
   have hnx := next_any e lvl (HWF.out e (by rw [he]; exact List.getElem_mem _)) hrd (fun j hj => by have := (HE.out j hj).2; have := HM.out.size; omega)
   have HNX := Lib.hid hnx
   have HST := Lib.hid hst
   have hlt' : (k : Int) < n := by omega
   clear he hst hsd hrd hnx
   go_wp2_with fail
   refine HNX.out.mono ?_
   rintro en w3 ⟨rfl, hr3, hm3⟩
   have hal4 : Below w3.heap.size w3 (w3.alloc (.cells #[.string e.key, .string e.val, .int .i64 e.kid] 121)) := (Below.refl _ w3).alloc (Nat.le_refl _) _
   have hb4 := Blk.new w3 #[.string e.key, .string e.val, .int .i64 e.kid] 121
   have hEr : E rd := HR.out.2.1
   have hrdlt : rd < w2.heap.size := (HE.out rd hEr).2
   have HO4 := Lib.hid ((HO.out.moved hm3 (fun q hq e => by have := (HO.out.lt q hq).1; omega)).below hal4)
   have HR4 := Lib.hid (hr3.below hal4)
   have HS4 := Lib.hid (Nat.le_trans HM.out.size (Nat.le_trans hm3.size hal4.size))
   have HM4 := Lib.hid ((HM.out.trans hm3 (fun j hj => .inl hj)).trans (Moved.of_below hal4 (· = rd)) (fun j hj => .inl hj))
   have HONE := Lib.hid (Ens.one e hb4)
   have hlen : k + 1 = (es.take k ++ [e]).length := by rw [List.length_append, HQK.out]; rfl
   have HLEN := Lib.hid hlen
   have hk255 : k + 1 ≤ 1000000 := by omega
   have HK255 := Lib.hid hk255
   have HEO := Lib.hid (fun q (hq : (Value.slice ao k cap).ownBlock = some q) => (HO.out.lt q hq).1)
   clear hr3 hm3 hal4 hb4 HNX hEr hrdlt hlen hk255 HO
   unfold Ent.agg
   go_wp2_with (first | (with_reducible refine wpList_append_ens rfl _ _ rfl w2.heap.size HS4.out (.slice ao k cap) (es.take k) rfl HO4.out (.slice (some ⟨w3.heap.size, 0, none⟩) 1 1) [e] rfl HONE.out (k + 1) HLEN.out HK255.out ?_; intro ao5 cap5 w5 ho5 hg5) | fail)
   obtain ⟨aox, capx, hsl5, hcA, hcB⟩ := ho5.form
   simp only [Value.slice.injEq] at hsl5
   obtain ⟨rfl, -, rfl⟩ := hsl5
   have HO5 := Lib.hid (show Owe w5 w2.heap.size _ (es.take (k + 1)) by rw [HST.out]; exact ho5)
   have HR5 := Lib.hid (HR4.out.grown hg5 (fun q hq hE => by have := HEO.out q hq; have := (HE.out q hE).2; omega))
   have HM5 := Lib.hid (HM4.out.grown hg5 (fun q hq => .inr (HEO.out q hq)))
   clear ho5 hg5 HO4 HR4 HM4 HEO
   go_roundw
   case rel => exact ⟨k + 1, _, _, by omega, by go_num, rfl, by rw [← HLEN.out] at hcA; exact hcA, hcB, HO5.out, HR5.out, HM5.out⟩
   case measure => simp [intOf]; omega
  ·obtain rfl : n = k := by omega
   have htk : es.take n = es := by rw [HN.out, List.take_length]
   have ho := HO.out
   rw [htk] at ho
   have HO2 := Lib.hid ho
   have hfl := failed_no HRD.out
   have HFL := Lib.hid hfl
   have hbn : w.heap.size ≠ rd := fun e => by have := (HE.out rd HR.out.2.1).1; have := HSZ.out; omega
   have HBW := Lib.hid ((HB.out.moved (Moved.of_below HB2.out (fun _ => False)) (fun h => h)).moved HM.out hbn)
   have c0 : wr.cell? ⟨w.heap.size, 0, none⟩ = some (.int .i64 0) := by rw [HBW.out.cell]; rfl
   have c1 : wr.cell? ⟨w.heap.size, 1, none⟩ = some (.int .i64 0) := by rw [HBW.out.cell]; rfl
   have c2 : wr.cell? ⟨w.heap.size, 2, none⟩ = some (.slice none 0 0) := by rw [HBW.out.cell]; rfl
   have g0 := HBW.out.frozen 0
   have g1 := HBW.out.frozen 1
   have g2 := HBW.out.frozen 2
   clear ho htk hfl hbn
   go_wp2_with fail
   refine HFL.out.mono ?_
   rintro en w3 ⟨rfl, he⟩
   replace he := he.symm
   subst he
   rcases HK.out with h0 | h1
   ·subst h0
    go_wp2_with fail
    rw [Exit.noGoto_ret]
    have hbf := Lib.hid (((HBW.out.set 0 (.int .i64 i)).set 1 (.int .i64 0)).set 2 (.slice ao n cap))
    have hms := Lib.hid ((((Moved.refl (· = w.heap.size) wr).setCell ⟨w.heap.size, 0, none⟩ (.int .i64 i) (.inl rfl)).setCell ⟨w.heap.size, 1, none⟩ (.int .i64 0) (.inl rfl)).setCell ⟨w.heap.size, 2, none⟩ (.slice ao n cap) (.inl rfl))
    refine bodyPost_ret (results_cell_tmp_row rfl _ _ w.heap.size 140 _ (0, 0) _ rfl hbf.out Tryz.underlying140 rfl (by kernel_rfl)) rfl ?_
    have hs2 := HB2.out.size
    refine ⟨.slice ao n cap, rfl, (HO2.out.moved hms.out (fun q hq e => by have := (HO2.out.lt q hq).1; have := HSZ.out; omega)).mono (by have := HSZ.out; omega), ?_⟩
    have hrd : w1.heap.size ≤ rd := (HE.out rd HR.out.2.1).1
    exact (((HAL.out.trans (HB2.out.mono HAL.out.size))).trans (HM.out.below (B := w.heap.size) (fun j hj => by have := HSZ.out; omega) (by have := HSZ.out; omega))).trans (hms.out.below (fun j hj => by omega) (by have := HM.out.size; have := HSZ.out; omega))
   ·by_cases h0 : lvl = 0
    ·subst h0
     go_wp2_with fail
     rw [Exit.noGoto_ret]
     have hbf := Lib.hid (((HBW.out.set 0 (.int .i64 i)).set 1 (.int .i64 0)).set 2 (.slice ao n cap))
     have hms := Lib.hid ((((Moved.refl (· = w.heap.size) wr).setCell ⟨w.heap.size, 0, none⟩ (.int .i64 i) (.inl rfl)).setCell ⟨w.heap.size, 1, none⟩ (.int .i64 0) (.inl rfl)).setCell ⟨w.heap.size, 2, none⟩ (.slice ao n cap) (.inl rfl))
     refine bodyPost_ret (results_cell_tmp_row rfl _ _ w.heap.size 140 _ (0, 0) _ rfl hbf.out Tryz.underlying140 rfl (by kernel_rfl)) rfl ?_
     have hs2 := HB2.out.size
     refine ⟨.slice ao n cap, rfl, (HO2.out.moved hms.out (fun q hq e => by have := (HO2.out.lt q hq).1; have := HSZ.out; omega)).mono (by have := HSZ.out; omega), ?_⟩
     have hrd : w1.heap.size ≤ rd := (HE.out rd HR.out.2.1).1
     exact (((HAL.out.trans (HB2.out.mono HAL.out.size))).trans (HM.out.below (B := w.heap.size) (fun j hj => by have := HSZ.out; omega) (by have := HSZ.out; omega))).trans (hms.out.below (fun j hj => by omega) (by have := HM.out.size; have := HSZ.out; omega))
    ·have h1' : (1 : Int) < n := by omega
     go_wp2_with fail
     rw [Exit.noGoto_ret]
     have hbf := Lib.hid (((HBW.out.set 0 (.int .i64 i)).set 1 (.int .i64 lvl)).set 2 (.slice ao n cap))
     have hms := Lib.hid ((((Moved.refl (· = w.heap.size) wr).setCell ⟨w.heap.size, 0, none⟩ (.int .i64 i) (.inl rfl)).setCell ⟨w.heap.size, 1, none⟩ (.int .i64 lvl) (.inl rfl)).setCell ⟨w.heap.size, 2, none⟩ (.slice ao n cap) (.inl rfl))
     refine bodyPost_ret (results_cell_tmp_row rfl _ _ w.heap.size 140 _ (0, 0) _ rfl hbf.out Tryz.underlying140 rfl (by kernel_rfl)) rfl ?_
     have hs2 := HB2.out.size
     refine ⟨.slice ao n cap, rfl, (HO2.out.moved hms.out (fun q hq e => by have := (HO2.out.lt q hq).1; have := HSZ.out; omega)).mono (by have := HSZ.out; omega), ?_⟩
     have hrd : w1.heap.size ≤ rd := (HE.out rd HR.out.2.1).1
     exact (((HAL.out.trans (HB2.out.mono HAL.out.size))).trans (HM.out.below (B := w.heap.size) (fun j hj => by have := HSZ.out; omega) (by have := HSZ.out; omega))).trans (hms.out.below (fun j hj => by omega) (by have := HM.out.size; have := HSZ.out; omega))
end Go.Proofs.YtbpdapcmaioeiaaGreat
