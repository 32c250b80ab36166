/- triadref1's Reader: New, Int (of stage 1's XRefs). -/
import Derived.Test.YtkhdahipnfloeaaCut
import Derived.Deep.QuietTactic
import Derived.BigQuiet
import Derived.Deep.RegionHeld3
namespace Go.Proofs.Ytkhdahipnfloeaa
open Go.RowKit
set_option maxRecDepth 100000

/-- The reader of triadref1 in block x: what is left to read, and its error. -/
def RdR (mB : Nat) (w : World) (x : Nat) (l : List UInt8) (e : Int) : Prop :=
  ∃ (B : List UInt8) (P : Nat) (sv : Value), w.cell? ⟨x, 0, none⟩ = some sv ∧ w.cell? ⟨x, 1, none⟩ = some (.int .i64 P) ∧ w.cell? ⟨x, 2, none⟩ = some (.int .i64 e) ∧
    w.frozen? ⟨x, 1, none⟩ = false ∧ w.frozen? ⟨x, 2, none⟩ = false ∧ Bs w sv B ∧ P ≤ B.length ∧ l = B.drop P ∧ (B = [] ∨ sv.ownBlock ≠ some x ∧ ∀ b, sv.ownBlock = some b → b < mB) ∧ ∀ o, 3 ≤ o → w.cell? ⟨x, o, none⟩ = none
variable {mB : Nat}
theorem or_row {B : List UInt8} {sv : Value} {x : Nat} {Q : Prop} (h : B = [] ∨ sv.ownBlock ≠ some x ∧ Q) : B = [] ∨ some x = none ∨ sv.ownBlock ≠ some x := by
  rcases h with h | h
  · exact .inl h
  · exact .inr (.inr h.1)
theorem RdR.lt {w : World} {r : Nat} {l : List UInt8} {e : Int} (h : RdR mB w r l e) : r < w.heap.size := by
  obtain ⟨B, P, sv, h0, -⟩ := h
  exact World.block_lt_of_cell? w _ h0
theorem RdR.below {w w' : World} {r : Nat} {l : List UInt8} {e : Int} (h : RdR mB w r l e) (hb : Below w.heap.size w w') : RdR mB w' r l e := by
  have hlt := h.lt
  obtain ⟨B, P, sv, h0, h1, h2, h3, h4, h5, h6, h7, h8⟩ := h
  exact ⟨B, P, sv, (hb.cell hlt).trans h0, (hb.cell hlt).trans h1, (hb.cell hlt).trans h2, (hb.frozen hlt).trans h3, (hb.frozen hlt).trans h4, h5.below hb, h6, h7, h8.1, fun o ho => (hb.cell hlt).trans (h8.2 o ho)⟩
theorem RdR.drewN {w : World} {r : Nat} {l : List UInt8} {e : Int} (n : Nat) (h : RdR mB w r l e) : RdR mB (w.drewN n) r l e := h
/-- And the other way about. -/
theorem RdR.keep {w w' : World} {r x : Nat} {l : List UInt8} {e : Int} (h : RdR mB w x l e) (hne : r ≠ x) (hr : mB ≤ r) (hg : w.grownBy w' (some r)) : RdR mB w' x l e := by
  have hlt := h.lt
  obtain ⟨B, P, sv, h0, h1, h2, h3, h4, h5, h6, h7, h8⟩ := h
  have hb := hg.block x hlt (by simpa using Ne.symm hne)
  have hs : B = [] ∨ some r = none ∨ sv.ownBlock ≠ some r := by
    rcases h8.1 with h | h
    · exact .inl h
    · exact .inr (.inr fun e => by have := h.2 r e; omega)
  refine ⟨B, P, sv, ?_, ?_, ?_, ?_, ?_, h5.grown hg hs, h6, h7, h8.1, fun o ho => ?_⟩
  · rw [World.cell?_of_block (w := w) hb]; exact h0
  · rw [World.cell?_of_block (w := w) hb]; exact h1
  · rw [World.cell?_of_block (w := w) hb]; exact h2
  · rw [World.frozen?_of_block (w := w) hb]; exact h3
  · rw [World.frozen?_of_block (w := w) hb]; exact h4
  · rw [World.cell?_of_block (w := w) hb]; exact h8.2 o ho
theorem newR_any (v : Value) (l : List UInt8) (w : World) (hbs : Bs w v l) (hm : mB ≤ w.heap.size) (hv : l = [] ∨ ∀ b, v.ownBlock = some b → b < mB) :
    Calls Try.prog 54 #[v] w fun e w' => e = .returned (.pointer (some ⟨w.heap.size, 0, none⟩)) ∧ RdR mB w' w.heap.size l 0 ∧ Below w.heap.size w w' := by
  have hb := hbs
  obtain ⟨ao, cap, rfl, -⟩ := hbs
  go_enter Try.func54, Try.ntmps54
  go_wp2
  go_ret
  have hb2 : Below w.heap.size w (w.alloc (.cells #[.slice ao l.length cap, .int .i64 0, .int .i64 0] 96)) := (Below.refl _ _).alloc (Nat.le_refl _) _
  refine ⟨rfl, ⟨l, 0, _, ?_, ?_, ?_, ?_, ?_, hb.below hb2, Nat.zero_le _, rfl, ?_, ?_⟩, hb2⟩
  · simp
  · simp
  · simp
  · simp
  · simp
  · rcases hv with hv | hv
    · exact .inl hv
    · exact .inr ⟨fun h => by have := hv _ h; omega, hv⟩
  · intro o ho
    simp
    omega
theorem RdR.fails {w : World} {r : Nat} {l : List UInt8} {e : Int} (h : RdR mB w r l e) (x : Int) : RdR mB (w.setCell ⟨r, 2, none⟩ (.int .i64 x)) r l x ∧ w.grownBy (w.setCell ⟨r, 2, none⟩ (.int .i64 x)) (some r) := by
  obtain ⟨B, P, sv, h0, h1, h2, h3, h4, h5, h6, h7, h8⟩ := h
  have hg : w.grownBy (w.setCell ⟨r, 2, none⟩ (.int .i64 x)) (some r) :=
    ⟨rfl, rfl, rfl, by simp [World.setCell], fun k _ hk => Below.heap_setCell _ _ _ _ (by simpa using hk)⟩
  refine ⟨⟨B, P, sv, ?_, ?_, ?_, ?_, ?_, h5.grown hg (or_row h8.1), h6, h7, h8.1, fun o ho => (World.cell?_setCell_other w _ _ _ (by intro e; cases e; omega)).trans (h8.2 o ho)⟩, hg⟩
  · exact (World.cell?_setCell_other w _ _ _ (by simp)).trans h0
  · exact (World.cell?_setCell_other w _ _ _ (by simp)).trans h1
  · exact World.cell?_setCell_same w _ _ h2
  · rw [World.frozen?_setCell]; exact h3
  · rw [World.frozen?_setCell]; exact h4
theorem grownBy_drewN (w : World) (n : Nat) (row : Option Nat) : w.grownBy (w.drewN n) row := ⟨rfl, rfl, rfl, Nat.le_refl _, fun _ _ _ => rfl⟩
theorem takeR_any (r : Nat) (l : List UInt8) (e : Int) (n : Nat) (hn : n ≤ 4294967296) (w : World) (h : RdR mB w r l e) :
    Calls Try.prog 65 #[.pointer (some ⟨r, 0, none⟩), .int .i64 n] w fun en w' => ∃ v, en = .returned v ∧ Bs w' v (tookOf l e n) ∧ RdR mB w' r (leftOf l e n) (errOf l e n) ∧ w.grownBy w' (some r) := by
  have hr := h
  obtain ⟨B, P, sv, h0, h1, h2, h3, h4, h5, h6, h7, h8⟩ := h
  have hbs := h5
  obtain ⟨ao, cap, rfl, g1, g2, g3, g4⟩ := h5
  have hll : l.length = B.length - P := by rw [h7, List.length_drop]
  clear g3 g4
  unfold maxLen at g2
  by_cases he : e = 0
  · subst he
    by_cases hlt : l.length < n
    · have hlt' : (B.length : Int) - P < n := by omega
      rw [took_cut hlt, left_cut hlt, err_cut hlt]
      clear h7 hll
      go_enter Try.func65, Try.ntmps65
      go_wp2_with fail
      go_quiet (fail)
      go_wp2
      go_ret
      exact ⟨_, rfl, Bs.nil _, ((hr.drewN _).fails 7).1, grownBy_trans (grownBy_drewN _ _ _) ((hr.drewN _).fails 7).2⟩
    · have hle : n ≤ l.length := by omega
      have hlt' : ¬ (B.length : Int) - P < n := by omega
      have hPn : (P : Int) + n ≤ B.length := by omega
      rw [took_ok hle, left_ok hle, err_ok hle]
      have hPn' : P + n - n = P := by omega
      go_enter Try.func65, Try.ntmps65
      go_wp2_with fail
      go_quiet (fail)
      go_wp2_with fail
      have hg3 : w.grownBy ((w.drewN nq).setCell ⟨r, 1, none⟩ (.int .i64 ((P : Int) + n))) (some r) :=
        ⟨rfl, rfl, rfl, by simp [World.setCell, World.drewN], fun k _ hk => Below.heap_setCell _ _ _ _ (by simpa using hk)⟩
      have c0 : ((w.drewN nq).setCell ⟨r, 1, none⟩ (.int .i64 ((P : Int) + n))).cell? ⟨r, 0, none⟩ = some (.slice ao B.length cap) :=
        (World.cell?_setCell_other _ _ _ _ (by simp)).trans h0
      have c1 : ((w.drewN nq).setCell ⟨r, 1, none⟩ (.int .i64 ((P : Int) + n))).cell? ⟨r, 1, none⟩ = some (.int .i64 ((P : Int) + n)) :=
        World.cell?_setCell_same _ _ _ h1
      have c2 : ((w.drewN nq).setCell ⟨r, 1, none⟩ (.int .i64 ((P : Int) + n))).cell? ⟨r, 2, none⟩ = some (.int .i64 0) :=
        (World.cell?_setCell_other _ _ _ _ (by simp)).trans h2
      have f1 : ((w.drewN nq).setCell ⟨r, 1, none⟩ (.int .i64 ((P : Int) + n))).frozen? ⟨r, 1, none⟩ = false := by rw [World.frozen?_setCell]; exact h3
      have f2 : ((w.drewN nq).setCell ⟨r, 1, none⟩ (.int .i64 ((P : Int) + n))).frozen? ⟨r, 2, none⟩ = false := by rw [World.frozen?_setCell]; exact h4
      have hbs3 := hbs.grown hg3 (or_row h8.1)
      have h9 : ∀ o, 3 ≤ o → ((w.drewN nq).setCell ⟨r, 1, none⟩ (.int .i64 ((P : Int) + n))).cell? ⟨r, o, none⟩ = none := fun o ho => (World.cell?_setCell_other _ _ _ _ (by intro e; cases e; omega)).trans (h8.2 o ho)
      generalize (w.drewN nq).setCell ⟨r, 1, none⟩ (.int .i64 ((P : Int) + n)) = w3 at *
      have hr3 : RdR mB w3 r (l.drop n) 0 := ⟨B, P + n, _, c0, by simpa using c1, c2, f1, f2, hbs3, by omega, by rw [h7, List.drop_drop], h8.1, h9⟩
      have hd := hbs3.drops P h6
      rw [← h7, ← hll] at hd
      have ht := hd.takes n hle
      have HT := Lib.hid ht
      clear h8
      clear h0 h1 h2 h3 h4 hbs hr c2 f1 f2 hbs3 hd ht h7 hll h9
      go_quiet (fail)
      go_wp2_with fail
      · have h : cap = P := by assumption
        have ht := HT.out
        rw [if_pos h, show cap - P = 0 by omega] at ht
        go_ret
        exact ⟨_, rfl, ht, hr3, grownBy_trans hg3 (grownBy_drewN _ _ _)⟩
      · have h : ¬ cap = P := by assumption
        have ht := HT.out
        rw [if_neg h] at ht
        go_ret
        exact ⟨_, rfl, ht, hr3, grownBy_trans hg3 (grownBy_drewN _ _ _)⟩
  · have hb : (e == 0) = false := by simpa using he
    have hb2 : (e != 0) = true := by simpa using he
    rw [took_err n he, left_err n he, err_err n he]
    clear he h7 hll
    go_enter Try.func65, Try.ntmps65
    go_wp2_with fail
    go_quiet (fail)
    go_wp2
    go_ret
    exact ⟨_, rfl, Bs.nil _, hr, ⟨rfl, rfl, rfl, Nat.le_refl _, fun _ _ _ => rfl⟩⟩
theorem takeR_at (r : Nat) (l : List UInt8) (e m : Int) (n : Nat) (hm : m = n) (hn : n ≤ 4294967296) (w : World) (h : RdR mB w r l e) :
    Calls Try.prog 65 #[.pointer (some ⟨r, 0, none⟩), .int .i64 m] w fun en w' => ∃ v, en = .returned v ∧ Bs w' v (tookOf l e n) ∧ RdR mB w' r (leftOf l e n) (errOf l e n) ∧ w.grownBy w' (some r) := by
  subst hm; exact takeR_any r l e n hn w h
theorem or_low (N c : Nat) (hN : N < 256 ^ 7) (hc : c < 256) : bits .or .u64 ((N : Int) * 256) (c : Int) = ((c + 256 * N : Nat) : Int) := by
  have h1 : N * 256 < 2 ^ 64 := by omega
  have e : ((N : Int) * 256) = ((N * 256 : Nat) : Int) := by simp
  rw [e, (bits_nat .u64 64 (Nat.le_refl _) wraps_u64 (N * 256) c h1 (by omega)).2]
  have h2 := Nat.two_pow_add_eq_or_of_lt (i := 8) (b := c) (by omega) N
  rw [Nat.mul_comm N 256, ← show (2 : Nat) ^ 8 = 256 from rfl, ← h2, Nat.add_comm]
theorem intR_any (r : Nat) (l : List UInt8) (e : Int) (w : World) (h : RdR mB w r l e) :
    Calls Try.prog 55 #[.pointer (some ⟨r, 0, none⟩)] w fun en w' =>
      en = .returned (.int .i64 (wrap64 (num (tookOf l e 8)))) ∧ RdR mB w' r (leftOf l e 8) (errOf l e 8) ∧ w.grownBy w' (some r) := by
  have hlen := tookOf_le l e 8
  go_enter Try.func55, Try.ntmps55
  go_wp2_with fail
  refine (takeR_any r l e 8 (by omega) _ h).mono ?_
  rintro en w1 ⟨v, rfl, hbs, hrd, hg⟩
  generalize hq : tookOf l e 8 = p at *
  have HQ := Lib.hid hq
  clear hq
  by_cases hp : p.length = 0
  · obtain rfl : p = [] := List.eq_nil_of_length_eq_zero hp
    obtain ⟨ao, cap, rfl, -⟩ := hbs
    go_wp2
    refine wp_loop_rounds 1 ?_
    rw [rounds_succ]
    go_wp2
    go_ret
    exact ⟨by rw [HQ.out, num_nil]; rfl, hrd, hg⟩
  · obtain ⟨b, off, cap, rfl, h1, h2, hc⟩ := hbs.at (by omega)
    obtain ⟨m, hm⟩ : ∃ m, p.length = m := ⟨_, rfl⟩
    have HM := Lib.hid hm
    rw [hm] at h1 hlen hp ⊢
    clear hm
    go_wp2
    go_loop [3, 5] (fun u i => ∃ k : Int, -1 ≤ k ∧ k < m ∧ i = .int .i64 k ∧ u = .int .u64 (num (p.drop (k + 1).toNat))) (fun _ i => (intOf i + 1).toNat)
    case atStart => exact ⟨(m : Int) - 1, by omega, by omega, rfl, by rw [List.drop_of_length_le (by have := HM.out; omega)]; rfl⟩
    case round =>
      obtain ⟨k, hk0, hk, rfl, rfl⟩ := hrel
      by_cases hlt : 0 ≤ k
      · obtain ⟨j, rfl⟩ := Int.eq_ofNat_of_zero_le hlt
        have hjm : j < p.length := by have := HM.out; omega
        have hck := hc j hjm
        unfold vb at hck
        obtain ⟨c, hc'⟩ : ∃ c : Nat, (p[j]'hjm).toNat = c := ⟨_, rfl⟩
        rw [hc'] at hck
        have hc256 : c < 256 := by rw [← hc']; exact UInt8.toNat_lt _
        have e1 : ((j : Int) + 1).toNat = j + 1 := by omega
        rw [e1]
        obtain ⟨N, hN⟩ : ∃ N, num (p.drop (j + 1)) = N := ⟨_, rfl⟩
        have hNlt : N < 256 ^ 7 := by
          rw [← hN]
          refine Nat.lt_of_lt_of_le (num_lt _) ?_
          rw [List.length_drop]
          exact Nat.pow_le_pow_right (by decide) (by have := HM.out; omega)
        have hd : num (p.drop j) = c + 256 * N := by
          rw [List.drop_eq_getElem_cons hjm]
          simp only [num, hc', hN]
        rw [hN]
        have HD := Lib.hid hd
        have HO := Lib.hid (or_low N c hNlt hc256)
        clear hN hc' hc hd e1
        go_wp2
        go_round
        case rel => exact ⟨(j : Int) - 1, by omega, by omega, rfl, by rw [HO.out, show ((j : Int) - 1 + 1).toNat = j by omega, HD.out]⟩
        case measure => simp [intOf]
      · obtain rfl : k = -1 := by omega
        go_wp2
        go_ret
        exact ⟨by rw [HQ.out]; rfl, hrd, hg⟩
end Go.Proofs.Ytkhdahipnfloeaa
