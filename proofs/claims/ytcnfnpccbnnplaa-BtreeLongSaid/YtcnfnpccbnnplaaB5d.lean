/- Reading a page: next, failed, open, read. -/
import Derived.Test.YtcnfnpccbnnplaaB5c
namespace Go.Proofs.Ytcnfnpccbnnplaa
open Go.RowKit Go.Maps
set_option maxRecDepth 100000
set_option linter.unusedVariables false

/-- An entry as a page of a level has it. -/
def EWf (lvl : Int) (e : Ent) : Prop := if 0 < lvl then e.key = ⟨#[]⟩ ∧ e.val = ⟨#[]⟩ ∧ 0 ≤ e.kid ∧ e.kid < 65536 else e.kid = 0 ∧ e.key.size ≤ 255 ∧ e.val.size ≤ 60000

theorem grown_moved {w w' : World} {r : Nat} (h : w.grownBy w' (some r)) : Moved (· = r) w w' := ⟨h.os, h.tape, h.output, h.size, fun k hk hn => h.block k hk (fun e => hn (Option.some.inj e))⟩
theorem Rds.moved {E P : Nat → Prop} {w w' : World} {r : Nat} {l : List UInt8} {e : Int} (h : Rds E w r l e) (hm : Moved P w w') (hP : ∀ k, E k → ¬ P k) : Rds E w' r l e := by
  obtain ⟨⟨sv, h0, h1, h2, h3, h4, h5⟩, hE, sv', h6, h7⟩ := h
  obtain rfl : sv' = sv := by rw [h0] at h6; exact (Option.some.inj h6).symm
  have hr : r < w.heap.size := World.block_lt_of_cell? w _ h0
  have hb := hm.block r hr (hP r hE)
  refine ⟨⟨sv', by rw [World.cell?_of_block (w := w) hb]; exact h0, by rw [World.cell?_of_block (w := w) hb]; exact h1, by rw [World.frozen?_of_block (w := w) hb]; exact h2, by rw [World.frozen?_of_block (w := w) hb]; exact h3, ?_, h5⟩, hE, sv', by rw [World.cell?_of_block (w := w) hb]; exact h6, h7⟩
  exact h4.moved hm (fun k hk => hP k (h7 k hk))

theorem wraps_i64 (n : Int) (h₀ : 0 ≤ n) (h₁ : n < 2 ^ 63) : IntKind.i64.wrap n = n := by rw [IntKind.wrap_i64]; omega
theorem or_two (a b : Nat) (ha : a < 256) (hb : b < 256) : bits .or .i64 (a : Int) ((b : Int) * 256) = (a : Int) + (b : Int) * 256 := by
  have h2 : b * 256 < 2 ^ 63 := by omega
  have := (bits_nat .i64 63 (by decide) wraps_i64 a (b * 256) (by omega) h2).2
  rw [show ((b : Int) * 256) = ((b * 256 : Nat) : Int) by omega, this]
  have e := Nat.two_pow_add_eq_or_of_lt (i := 8) (b := a) (by omega) b
  rw [Nat.or_comm, Nat.mul_comm b, show (256 : Nat) = 2 ^ 8 by decide, ← e]
  omega

set_option maxHeartbeats 1000000 in
theorem next_kid {E : Nat → Prop} {r : Nat} {t : List UInt8} {w : World} (e : Ent) (lvl : Int) (hl : 0 < lvl) (he : EWf lvl e) (h : Rds E w r (encE lvl e ++ t) 0) (hE : ∀ k, E k → k < w.heap.size) :
    Calls Try.prog 101 #[.pointer (some ⟨r, 0, none⟩), .int .i64 lvl] w fun en w' => en = .returned e.agg ∧ Rds E w' r t 0 ∧ Moved (· = r) w w' := by
  unfold EWf at he
  rw [if_pos hl] at he
  obtain ⟨he1, he2, he3, he4⟩ := he
  have hcut : encE lvl e ++ t = le e.kid 1 ++ (le (e.kid / 256) 1 ++ t) := by unfold encE; rw [if_pos hl, List.append_assoc]
  rw [hcut] at h
  have hal : Below w.heap.size w (w.alloc (.cells #[.string ⟨#[]⟩, .string ⟨#[]⟩, .int .i64 0] 117)) := (Below.refl _ w).alloc (Nat.le_refl _) _
  have hb := Blk.new w #[.string ⟨#[]⟩, .string ⟨#[]⟩, .int .i64 0] 117
  have h1 := h.below hal
  obtain ⟨w1, hw1⟩ : ∃ w1, w1 = w.alloc (.cells #[.string ⟨#[]⟩, .string ⟨#[]⟩, .int .i64 0] 117) := ⟨_, rfl⟩
  rw [← hw1] at hal hb h1
  have hne : w.heap.size ≠ r := fun e => by have := hE r h.2.1; omega
  have HAL := Lib.hid hal
  have HB := Lib.hid hb
  have H1 := Lib.hid h1
  have HW1 := Lib.hid hw1
  have HNE := Lib.hid hne
  clear h hal hb h1 hw1 hcut
  go_enter Try.func101, Try.ntmps101
  go_wp2_with fail
  rw [← HW1.out]
  refine (rbyteS_any E r _ 0 _ H1.out).mono ?_
  rintro en w2 ⟨rfl, h2, hg2⟩
  obtain ⟨q1, q2, q3⟩ := took_front (le e.kid 1) (le (e.kid / 256) 1 ++ t) 1 (le_length _ _)
  rw [q1, num_one]
  rw [q2, q3] at h2
  have HB2 := Lib.hid (HB.out.moved (grown_moved hg2) HNE.out)
  have H2 := Lib.hid h2
  have HG2 := Lib.hid (grown_moved hg2)
  clear h2 hg2 q1 q2 q3
  go_wp2_with fail
  refine (rbyteS_any E r _ 0 _ H2.out).mono ?_
  rintro en w3 ⟨rfl, h3, hg3⟩
  obtain ⟨q1, q2, q3⟩ := took_front (le (e.kid / 256) 1) t 1 (le_length _ _)
  rw [q1, num_one]
  rw [q2, q3] at h3
  have HB3 := Lib.hid (HB2.out.moved (grown_moved hg3) HNE.out)
  have H3 := Lib.hid h3
  have HG3 := Lib.hid (HG2.out.trans (grown_moved hg3) (fun j hj => .inl hj))
  clear h3 hg3 q1 q2 q3
  have c0 : w3.cell? ⟨w.heap.size, 0, none⟩ = some (.string ⟨#[]⟩) := by rw [HB3.out.cell]; rfl
  have c1 : w3.cell? ⟨w.heap.size, 1, none⟩ = some (.string ⟨#[]⟩) := by rw [HB3.out.cell]; rfl
  have c2 : w3.cell? ⟨w.heap.size, 2, none⟩ = some (.int .i64 0) := by rw [HB3.out.cell]; rfl
  have g0 := HB3.out.frozen 0
  have g1 := HB3.out.frozen 1
  have g2 := HB3.out.frozen 2
  have hor := or_two (e.kid % 256).toNat (e.kid / 256 % 256).toNat (by omega) (by omega)
  rw [show (((e.kid % 256).toNat : Nat) : Int) = e.kid % 256 by omega, show (((e.kid / 256 % 256).toNat : Nat) : Int) = e.kid / 256 % 256 by omega, show e.kid % 256 + e.kid / 256 % 256 * 256 = e.kid by omega] at hor
  have HOR := Lib.hid hor
  clear hor
  go_wp2_with fail
  rw [HOR.out]
  have hbf : Blk (((w3.setCell ⟨w.heap.size, 0, none⟩ (.string ⟨#[]⟩)).setCell ⟨w.heap.size, 1, none⟩ (.string ⟨#[]⟩)).setCell ⟨w.heap.size, 2, none⟩ (.int .i64 e.kid)) w.heap.size #[.string ⟨#[]⟩, .string ⟨#[]⟩, .int .i64 e.kid] 117 := ((HB3.out.set 0 (.string ⟨#[]⟩)).set 1 (.string ⟨#[]⟩)).set 2 (.int .i64 e.kid)
  have hms : Moved (· = w.heap.size) w3 (((w3.setCell ⟨w.heap.size, 0, none⟩ (.string ⟨#[]⟩)).setCell ⟨w.heap.size, 1, none⟩ (.string ⟨#[]⟩)).setCell ⟨w.heap.size, 2, none⟩ (.int .i64 e.kid)) := (((Moved.refl (· = w.heap.size) w3).setCell _ _ (.inl rfl)).setCell _ _ (.inl rfl)).setCell _ _ (.inl rfl)
  refine bodyPost_ret (results_cell_row rfl _ _ w.heap.size 117 _ (0, 0) _ rfl hbf Try.underlying117 rfl (by kernel_rfl)) rfl ?_
  refine ⟨?_, H3.out.moved hms (fun k hk e => by have := hE k hk; omega), ((Moved.of_below HAL.out _).trans HG3.out (fun j hj => .inl hj)).trans hms (fun j hj => .inr (by omega))⟩
  unfold Ent.agg
  rw [he1, he2]

theorem tx_back (s : ByteArray) (t : List UInt8) (h : s.size ≤ 65535) : textOf (tx s ++ t) 0 = s.data.toList ∧ textLeft (tx s ++ t) 0 = t ∧ textErr (tx s ++ t) 0 = 0 := by
  have hs : s.data.toList.length = s.size := Array.length_toList
  have e : tx s = le s.size 2 ++ s.data.toList := by
    unfold tx
    rw [show min (s.size : Int) 65535 = s.size by omega, List.take_of_length_le (by omega)]
  have h2 : num (le (s.size : Int) 2) = s.size := by
    have := num_le (s.size : Int) 2
    omega
  obtain ⟨q1, q2, q3⟩ := took_front (le (s.size : Int) 2) (s.data.toList ++ t) 2 (le_length _ _)
  obtain ⟨p1, p2, p3⟩ := took_front s.data.toList t s.size hs
  unfold textOf textLeft textErr
  rw [e, List.append_assoc, q1, q2, q3, h2]
  exact ⟨p1, p2, p3⟩
theorem cut_cat (k v : ByteArray) : (k ++ v).extract 0 k.size = k ∧ (k ++ v).extract k.size (k ++ v).size = v := by
  refine ⟨?_, ?_⟩ <;> ext <;> simp

set_option maxHeartbeats 2000000 in
theorem next_leaf {E : Nat → Prop} {r : Nat} {t : List UInt8} {w : World} (e : Ent) (lvl : Int) (hl : ¬ 0 < lvl) (he : EWf lvl e) (h : Rds E w r (encE lvl e ++ t) 0) (hE : ∀ k, E k → k < w.heap.size) :
    Calls Try.prog 101 #[.pointer (some ⟨r, 0, none⟩), .int .i64 lvl] w fun en w' => en = .returned e.agg ∧ Rds E w' r t 0 ∧ Moved (· = r) w w' := by
  unfold EWf at he
  rw [if_neg hl] at he
  obtain ⟨he1, he2, he3⟩ := he
  have hsum : (e.key ++ e.val).size = e.key.size + e.val.size := ByteArray.size_append
  have hcut : encE lvl e ++ t = le e.key.size 1 ++ (tx (e.key ++ e.val) ++ t) := by unfold encE; rw [if_neg hl, List.append_assoc]
  rw [hcut] at h
  have hal : Below w.heap.size w (w.alloc (.cells #[.string ⟨#[]⟩, .string ⟨#[]⟩, .int .i64 0] 117)) := (Below.refl _ w).alloc (Nat.le_refl _) _
  have hb := Blk.new w #[.string ⟨#[]⟩, .string ⟨#[]⟩, .int .i64 0] 117
  have h1 := h.below hal
  obtain ⟨w1, hw1⟩ : ∃ w1, w1 = w.alloc (.cells #[.string ⟨#[]⟩, .string ⟨#[]⟩, .int .i64 0] 117) := ⟨_, rfl⟩
  rw [← hw1] at hal hb h1
  have hne : w.heap.size ≠ r := fun e => by have := hE r h.2.1; omega
  obtain ⟨tb1, tb2, tb3⟩ := tx_back (e.key ++ e.val) t (by omega)
  obtain ⟨q1, q2, q3⟩ := took_front (le (e.key.size : Int) 1) (tx (e.key ++ e.val) ++ t) 1 (le_length _ _)
  obtain ⟨x1, x2⟩ := cut_cat e.key e.val
  have hk256 : ((e.key.size : Nat) : Int) % 256 = e.key.size := by omega
  have HAL := Lib.hid hal
  have HB := Lib.hid hb
  have H1 := Lib.hid h1
  have HW1 := Lib.hid hw1
  have HNE := Lib.hid hne
  have HSUM := Lib.hid hsum
  have X1 := Lib.hid x1
  have X2 := Lib.hid x2
  clear h hal hb h1 hw1 hcut
  go_enter Try.func101, Try.ntmps101
  go_wp2_with fail
  rw [← HW1.out]
  refine (rbyteS_any E r _ 0 _ H1.out).mono ?_
  rintro en w2 ⟨rfl, h2, hg2⟩
  rw [q1, num_one, hk256]
  rw [q2, q3] at h2
  have HB2 := Lib.hid (HB.out.moved (grown_moved hg2) HNE.out)
  have H2 := Lib.hid h2
  have HG2 := Lib.hid (grown_moved hg2)
  clear h2 hg2 q1 q2 q3 hk256 x1 x2 hsum
  have HT1 := Lib.hid tb1
  have HT2 := Lib.hid tb2
  have HT3 := Lib.hid tb3
  clear tb1 tb2 tb3
  go_wp2_with fail
  refine (rtextS_any E r _ 0 _ H2.out).mono ?_
  rintro en w3 ⟨rfl, h3, hg3⟩
  rw [HT1.out]
  rw [HT2.out, HT3.out] at h3
  rw [show (⟨(e.key ++ e.val).data.toList.toArray⟩ : ByteArray) = e.key ++ e.val from rfl]
  obtain ⟨s, hs⟩ : ∃ s, s = e.key ++ e.val := ⟨_, rfl⟩
  rw [← hs]
  have hss : s.size = e.key.size + e.val.size := by rw [hs]; exact HSUM.out
  have hx1 : s.extract 0 e.key.size = e.key := by rw [hs]; exact X1.out
  have hx2 : s.extract e.key.size (e.key.size + e.val.size) = e.val := by rw [← hss, hs]; exact X2.out
  have HX2 := Lib.hid hx2
  have hle : e.key.size ≤ s.size := by omega
  have HB3 := Lib.hid (HB2.out.moved (grown_moved hg3) HNE.out)
  have H3 := Lib.hid h3
  have HG3 := Lib.hid (HG2.out.trans (grown_moved hg3) (fun j hj => .inl hj))
  have c0 : w3.cell? ⟨w.heap.size, 0, none⟩ = some (.string ⟨#[]⟩) := by rw [HB3.out.cell]; rfl
  have c1 : w3.cell? ⟨w.heap.size, 1, none⟩ = some (.string ⟨#[]⟩) := by rw [HB3.out.cell]; rfl
  have c2 : w3.cell? ⟨w.heap.size, 2, none⟩ = some (.int .i64 0) := by rw [HB3.out.cell]; rfl
  have g0 := HB3.out.frozen 0
  have g1 := HB3.out.frozen 1
  have g2 := HB3.out.frozen 2
  clear h3 hg3 hs hx2
  go_wp2_with fail
  refine wp_region_any (by kernel_rfl) ?_
  change wpAny _ _ _ _ _ _ _ (World.drew _)
  refine wpAny_of_held (S := fun (w' : World) => w'.heap.size = w3.heap.size) _ _ _ _ ?_
  have hS : (fun (w' : World) => w'.heap.size = w3.heap.size) _ := (show w3.drew.heap.size = w3.heap.size from rfl)
  try simp only [Act.put, List.setIfInBounds_toArray, List.set_cons_zero, List.set_cons_succ]
  refine wpAnyH_take (i := 0) (oi := ⟨some 26, _, _, _, _, _⟩) (v := ?_) rfl (by kernel_rfl) (by kernel_rfl) (by kernel_rfl) (fun _ _ _ h => h) (Or.inl ⟨by simp only [Region.wanted], ?_⟩) hS ?_
  rotate_left
  · intro wz hSw
    clear hSw
    go_simp
    first | done | with_reducible rfl
  try simp only [Act.put, List.setIfInBounds_toArray, List.set_cons_zero, List.set_cons_succ]
  refine wpAnyH_take (i := 1) (oi := ⟨some 27, _, _, _, _, _⟩) (v := ?_) rfl (by kernel_rfl) (by kernel_rfl) (by kernel_rfl) (fun _ _ _ h => h) (Or.inl ⟨by simp only [Region.wanted], ?_⟩) hS ?_
  rotate_left
  · intro wz hSw
    clear hSw
    go_simp
    first | done | with_reducible rfl
  try simp only [Act.put, List.setIfInBounds_toArray, List.set_cons_zero, List.set_cons_succ]
  refine wpAnyH_take (i := 2) (oi := ⟨some 28, _, _, _, _, _⟩) (v := ?_) rfl (by kernel_rfl) (by kernel_rfl) (by kernel_rfl) (fun _ _ _ h => h) (Or.inl ⟨by simp only [Region.wanted], ?_⟩) hS ?_
  rotate_left
  · intro wz hSw
    clear hSw
    go_simp
    first | done | with_reducible rfl
  try simp only [Act.put, List.setIfInBounds_toArray, List.set_cons_zero, List.set_cons_succ]
  refine wpAnyH_take (i := 3) (oi := ⟨some 29, _, _, _, _, _⟩) (v := ?_) rfl (by kernel_rfl) (by kernel_rfl) (by kernel_rfl) (fun _ _ _ h => h) (Or.inl ⟨by simp only [Region.wanted], ?_⟩) hS ?_
  rotate_left
  · intro wz hSw
    clear hSw
    go_simp
    first | done | with_reducible rfl
  try simp only [Act.put, List.setIfInBounds_toArray, List.set_cons_zero, List.set_cons_succ]
  refine wpAnyH_take (i := 4) (oi := ⟨some 30, _, _, _, _, _⟩) (v := ?_) rfl (by kernel_rfl) (by kernel_rfl) (by kernel_rfl) (fun _ _ _ h => h) (Or.inl ⟨by simp only [Region.wanted], ?_⟩) hS ?_
  rotate_left
  · intro wz hSw
    clear hSw
    go_simp
    first | done | with_reducible rfl
  try simp only [Act.put, List.setIfInBounds_toArray, List.set_cons_zero, List.set_cons_succ]
  refine wpAnyH_take (i := 5) (oi := ⟨some 31, _, _, _, _, _⟩) (v := ?_) rfl (by kernel_rfl) (by kernel_rfl) (by kernel_rfl) (fun _ _ _ h => h) (Or.inl ⟨by simp only [Region.wanted], ?_⟩) hS ?_
  rotate_left
  · intro wz hSw
    clear hSw
    go_simp
    first | done | with_reducible rfl
  try simp only [Act.put, List.setIfInBounds_toArray, List.set_cons_zero, List.set_cons_succ]
  refine wpAnyH_take (i := 6) (oi := ⟨some 32, _, _, _, _, _⟩) (v := ?_) rfl (by kernel_rfl) (by kernel_rfl) (by kernel_rfl) (fun _ _ _ h => h) (Or.inl ⟨by simp only [Region.wanted], ?_⟩) hS ?_
  rotate_left
  · intro wz hSw
    clear hSw
    go_simp
    first | done | with_reducible rfl
  try simp only [Act.put, List.setIfInBounds_toArray, List.set_cons_zero, List.set_cons_succ]
  refine wpAnyH_ready (rs := [7]) (by kernel_rfl) (by simp) ?_
  refine AllReadyH.cons (o := ⟨none, _, _, _, _, _⟩) rfl (fun K hK => ?_) AllReadyH.nil
  go_simp
  refine hK.out _ _ (by simp) (fun hS => ?_)
  clear hK K
  try simp only [Act.put, List.setIfInBounds_toArray, List.set_cons_zero, List.set_cons_succ]
  refine wpAnyH_done (by kernel_rfl) ?_ _
  clear hS
  rw [HX2.out]
  have hbf : Blk (((w3.setCell ⟨w.heap.size, 0, none⟩ (.string e.key)).setCell ⟨w.heap.size, 1, none⟩ (.string e.val)).setCell ⟨w.heap.size, 2, none⟩ (.int .i64 0)).drew w.heap.size #[.string e.key, .string e.val, .int .i64 0] 117 := (((HB3.out.set 0 (.string e.key)).set 1 (.string e.val)).set 2 (.int .i64 0)).drew
  have hms : Moved (· = w.heap.size) w3 (((w3.setCell ⟨w.heap.size, 0, none⟩ (.string e.key)).setCell ⟨w.heap.size, 1, none⟩ (.string e.val)).setCell ⟨w.heap.size, 2, none⟩ (.int .i64 0)).drew := ((((Moved.refl (· = w.heap.size) w3).setCell _ _ (.inl rfl)).setCell _ _ (.inl rfl)).setCell _ _ (.inl rfl)).drew
  have HBF := Lib.hid hbf
  have HMS := Lib.hid hms
  clear hbf hms
  go_wp2_with fail
  refine bodyPost_ret (results_cell_row rfl _ _ w.heap.size 117 _ (0, 0) _ rfl HBF.out Try.underlying117 rfl (by kernel_rfl)) rfl ?_
  refine ⟨?_, H3.out.moved HMS.out (fun k hk e => by have := hE k hk; omega), ((Moved.of_below HAL.out _).trans HG3.out (fun j hj => .inl hj)).trans HMS.out (fun j hj => .inr (by omega))⟩
  unfold Ent.agg
  rw [he1]

theorem next_any {E : Nat → Prop} {r : Nat} {t : List UInt8} {w : World} (e : Ent) (lvl : Int) (he : EWf lvl e) (h : Rds E w r (encE lvl e ++ t) 0) (hE : ∀ k, E k → k < w.heap.size) :
    Calls Try.prog 101 #[.pointer (some ⟨r, 0, none⟩), .int .i64 lvl] w fun en w' => en = .returned e.agg ∧ Rds E w' r t 0 ∧ Moved (· = r) w w' := by
  by_cases hl : 0 < lvl
  · exact next_kid e lvl hl he h hE
  · exact next_leaf e lvl hl he h hE

/-- failed: nothing has gone wrong. -/
theorem failed_no {E : Nat → Prop} {r : Nat} {t : List UInt8} {w : World} (h : Rds E w r t 0) :
    Calls Try.prog 102 #[.pointer (some ⟨r, 0, none⟩)] w fun en w' => en = .returned (.bool false) ∧ w' = w := by
  have H := Lib.hid h
  by_cases ht : t = []
  · subst ht
    clear h
    go_enter Try.func102, Try.ntmps102
    go_wp2_with fail
    refine (end_any r [] 0 _ H.out.1).mono ?_
    rintro en w1 ⟨rfl, he⟩
    replace he := he.symm
    subst he
    rw [show endOf [] 0 = 0 by decide]
    go_wp2_with fail
    go_ret
    exact ⟨rfl, rfl⟩
  · have he8 : endOf t 0 = 8 := by unfold endOf; rw [if_pos ⟨rfl, ht⟩]
    have HE8 := Lib.hid he8
    clear h he8
    go_enter Try.func102, Try.ntmps102
    go_wp2_with fail
    refine (end_any r t 0 _ H.out.1).mono ?_
    rintro en w1 ⟨rfl, he⟩
    subst he
    rw [HE8.out]
    go_wp2_with fail
    refine (end_any r t 0 _ H.out.1).mono ?_
    rintro en w1 ⟨rfl, he⟩
    subst he
    rw [HE8.out]
    go_wp2_with fail
    go_ret
    exact ⟨rfl, rfl⟩
end Go.Proofs.Ytcnfnpccbnnplaa
