/- Refs, Spare: packages code and triadref1. -/
import Derived.Test.YtpoacgnncinmiaaCd
import Derived.Deep.QuietTactic
import Derived.BigQuiet
import Derived.Deep.RegionHeld3
namespace Go.Proofs.Ytpoacgnncinmiaa
open Go.RowKit
set_option maxRecDepth 100000

section
/-- The reader of triadref1 in block x: what is left to read, and its error. -/
def RdR (mB : Nat) (w : World) (x : Nat) (l : List UInt8) (e : Int) : Prop :=
  ∃ (B : List UInt8) (P : Nat) (sv : Value), w.cell? ⟨x, 0, none⟩ = some sv ∧ w.cell? ⟨x, 1, none⟩ = some (.int .i64 P) ∧ w.cell? ⟨x, 2, none⟩ = some (.int .i64 e) ∧
    w.frozen? ⟨x, 1, none⟩ = false ∧ w.frozen? ⟨x, 2, none⟩ = false ∧ Bs w sv B ∧ P ≤ B.length ∧ l = B.drop P ∧ (B = [] ∨ sv.ownBlock ≠ some x ∧ ∀ b, sv.ownBlock = some b → b < mB) ∧ ∀ o, 3 ≤ o → w.cell? ⟨x, o, none⟩ = none

variable {mB : Nat}

theorem or_row {B : List UInt8} {sv : Value} {x : Nat} {Q : Prop} (h : B = [] ∨ sv.ownBlock ≠ some x ∧ Q) : B = [] ∨ some x = none ∨ sv.ownBlock ≠ some x := by
  rcases h with h | h
  · exact .inl h
  · exact .inr (.inr h.1)

theorem RdR.lt {w : World} {r : Nat} {l : List UInt8} {e : Int} (h : RdR mB w r l e) : r < w.heap.size := by
  obtain ⟨B, P, sv, h0, -⟩ := h
  exact World.block_lt_of_cell? w _ h0
theorem RdR.below {w w' : World} {r : Nat} {l : List UInt8} {e : Int} (h : RdR mB w r l e) (hb : Below w.heap.size w w') : RdR mB w' r l e := by
  have hlt := h.lt
  obtain ⟨B, P, sv, h0, h1, h2, h3, h4, h5, h6, h7, h8⟩ := h
  exact ⟨B, P, sv, (hb.cell hlt).trans h0, (hb.cell hlt).trans h1, (hb.cell hlt).trans h2, (hb.frozen hlt).trans h3, (hb.frozen hlt).trans h4, h5.below hb, h6, h7, h8.1, fun o ho => (hb.cell hlt).trans (h8.2 o ho)⟩
theorem RdR.drewN {w : World} {r : Nat} {l : List UInt8} {e : Int} (n : Nat) (h : RdR mB w r l e) : RdR mB (w.drewN n) r l e := h

/-- What the reader of package code has to read lies not in the other one's block. -/
theorem Rd.keepR {w w' : World} {r x : Nat} {L l : List UInt8} {E e : Int} (h : Rd w r L E) (k : RdR mB w x l e) (hne : r ≠ x) (hg : w.grownBy w' (some x)) : Rd w' r L E := by
  have hlt := h.lt
  obtain ⟨sv, h0, h1, h2, h3, h4, h5⟩ := h
  obtain ⟨B, P, sw, k0, k1, k2, -, -, ⟨ao, ca, rfl, -⟩, -, -, -, k9⟩ := k
  have hb := hg.block r hlt (by simpa using hne)
  have hs : L = [] ∨ some x = none ∨ sv.ownBlock ≠ some x := by
    by_cases hL : L = []
    · exact .inl hL
    · right; right
      obtain ⟨b, off, cap, rfl, -, -, hc⟩ := h4.at (List.length_pos_iff.2 hL)
      intro hx
      obtain rfl : b = x := by simpa [Value.ownBlock] using hx
      have c0 := hc 0 (List.length_pos_iff.2 hL)
      rw [Nat.add_zero] at c0
      unfold vb at c0
      match off, c0 with
      | 0, c0 => rw [k0] at c0; simp at c0
      | 1, c0 => rw [k1] at c0; simp at c0
      | 2, c0 => rw [k2] at c0; simp at c0
      | o + 3, c0 => rw [k9 (o + 3) (by omega)] at c0; simp at c0
  refine ⟨sv, ?_, ?_, ?_, ?_, h4.grown hg hs, h5⟩
  · rw [World.cell?_of_block (w := w) hb]; exact h0
  · rw [World.cell?_of_block (w := w) hb]; exact h1
  · rw [World.frozen?_of_block (w := w) hb]; exact h2
  · rw [World.frozen?_of_block (w := w) hb]; exact h3

/-- And the other way about. -/
theorem RdR.keep {w w' : World} {r x : Nat} {l : List UInt8} {e : Int} (h : RdR mB w x l e) (hne : r ≠ x) (hr : mB ≤ r) (hg : w.grownBy w' (some r)) : RdR mB w' x l e := by
  have hlt := h.lt
  obtain ⟨B, P, sv, h0, h1, h2, h3, h4, h5, h6, h7, h8⟩ := h
  have hb := hg.block x hlt (by simpa using Ne.symm hne)
  have hs : B = [] ∨ some r = none ∨ sv.ownBlock ≠ some r := by
    rcases h8.1 with h | h
    · exact .inl h
    · exact .inr (.inr fun e => by have := h.2 r e; omega)
  refine ⟨B, P, sv, ?_, ?_, ?_, ?_, ?_, h5.grown hg hs, h6, h7, h8.1, fun o ho => ?_⟩
  · rw [World.cell?_of_block (w := w) hb]; exact h0
  · rw [World.cell?_of_block (w := w) hb]; exact h1
  · rw [World.cell?_of_block (w := w) hb]; exact h2
  · rw [World.frozen?_of_block (w := w) hb]; exact h3
  · rw [World.frozen?_of_block (w := w) hb]; exact h4
  · rw [World.cell?_of_block (w := w) hb]; exact h8.2 o ho

theorem newR_any (v : Value) (l : List UInt8) (w : World) (hbs : Bs w v l) (hm : mB ≤ w.heap.size) (hv : l = [] ∨ ∀ b, v.ownBlock = some b → b < mB) :
    Calls Try.prog 47 #[v] w fun e w' => e = .returned (.pointer (some ⟨w.heap.size, 0, none⟩)) ∧ RdR mB w' w.heap.size l 0 ∧ Below w.heap.size w w' := by
  have hb := hbs
  obtain ⟨ao, cap, rfl, -⟩ := hbs
  go_enter Try.func47, Try.ntmps47
  go_wp2
  go_ret
  have hb2 : Below w.heap.size w (w.alloc (.cells #[.slice ao l.length cap, .int .i64 0, .int .i64 0] 79)) := (Below.refl _ _).alloc (Nat.le_refl _) _
  refine ⟨rfl, ⟨l, 0, _, ?_, ?_, ?_, ?_, ?_, hb.below hb2, Nat.zero_le _, rfl, ?_, ?_⟩, hb2⟩
  · simp
  · simp
  · simp
  · simp
  · simp
  · rcases hv with hv | hv
    · exact .inl hv
    · exact .inr ⟨fun h => by have := hv _ h; omega, hv⟩
  · intro o ho
    simp
    omega

theorem RdR.fails {w : World} {r : Nat} {l : List UInt8} {e : Int} (h : RdR mB w r l e) (x : Int) : RdR mB (w.setCell ⟨r, 2, none⟩ (.int .i64 x)) r l x ∧ w.grownBy (w.setCell ⟨r, 2, none⟩ (.int .i64 x)) (some r) := by
  obtain ⟨B, P, sv, h0, h1, h2, h3, h4, h5, h6, h7, h8⟩ := h
  have hg : w.grownBy (w.setCell ⟨r, 2, none⟩ (.int .i64 x)) (some r) :=
    ⟨rfl, rfl, rfl, by simp [World.setCell], fun k _ hk => Below.heap_setCell _ _ _ _ (by simpa using hk)⟩
  refine ⟨⟨B, P, sv, ?_, ?_, ?_, ?_, ?_, h5.grown hg (or_row h8.1), h6, h7, h8.1, fun o ho => (World.cell?_setCell_other w _ _ _ (by intro e; cases e; omega)).trans (h8.2 o ho)⟩, hg⟩
  · exact (World.cell?_setCell_other w _ _ _ (by simp)).trans h0
  · exact (World.cell?_setCell_other w _ _ _ (by simp)).trans h1
  · exact World.cell?_setCell_same w _ _ h2
  · rw [World.frozen?_setCell]; exact h3
  · rw [World.frozen?_setCell]; exact h4

theorem grownBy_drewN (w : World) (n : Nat) (row : Option Nat) : w.grownBy (w.drewN n) row := ⟨rfl, rfl, rfl, Nat.le_refl _, fun _ _ _ => rfl⟩

theorem endR_any (r : Nat) (l : List UInt8) (e : Int) (w : World) (h : RdR mB w r l e) :
    Calls Try.prog 50 #[.pointer (some ⟨r, 0, none⟩)] w fun en w' => en = .returned (.int .i64 (endOf l e)) ∧ ∃ n, w' = w.drewN n := by
  obtain ⟨B, P, sv, h0, h1, h2, h3, h4, ⟨ao, cap, rfl, g1, g2, g3, g4⟩, h6, rfl, h8⟩ := h
  clear g4 g3
  by_cases he : e = 0
  · subst he
    by_cases hl : B.drop P = []
    · have hP : ¬ (P : Int) < B.length := by
        have := List.drop_eq_nil_iff.1 hl
        omega
      go_enter Try.func50, Try.ntmps50
      go_wp2_with fail
      go_quiet (fail)
      go_wp2
      go_ret
      exact ⟨by simp [endOf, hl], _, rfl⟩
    · have hP : (P : Int) < B.length := by
        have : ¬ B.length ≤ P := fun h => hl (List.drop_eq_nil_iff.2 h)
        omega
      go_enter Try.func50, Try.ntmps50
      go_wp2_with fail
      go_quiet (fail)
      go_wp2
      go_ret
      exact ⟨by simp [endOf, hl], _, rfl⟩
  · have hb : (e == 0) = false := by simpa using he
    go_enter Try.func50, Try.ntmps50
    go_wp2_with fail
    go_quiet (fail)
    go_wp2
    go_ret
    exact ⟨by simp [endOf, he], _, rfl⟩

theorem takeR_any (r : Nat) (l : List UInt8) (e : Int) (n : Nat) (hn : n ≤ 4294967296) (w : World) (h : RdR mB w r l e) :
    Calls Try.prog 69 #[.pointer (some ⟨r, 0, none⟩), .int .i64 n] w fun en w' => ∃ v, en = .returned v ∧ Bs w' v (tookOf l e n) ∧ RdR mB w' r (leftOf l e n) (errOf l e n) ∧ w.grownBy w' (some r) := by
  have hr := h
  obtain ⟨B, P, sv, h0, h1, h2, h3, h4, h5, h6, h7, h8⟩ := h
  have hbs := h5
  obtain ⟨ao, cap, rfl, g1, g2, g3, g4⟩ := h5
  have hll : l.length = B.length - P := by rw [h7, List.length_drop]
  clear g3 g4
  unfold maxLen at g2
  by_cases he : e = 0
  · subst he
    by_cases hlt : l.length < n
    · have hlt' : (B.length : Int) - P < n := by omega
      rw [took_cut hlt, left_cut hlt, err_cut hlt]
      clear h7 hll
      go_enter Try.func69, Try.ntmps69
      go_wp2_with fail
      go_quiet (fail)
      go_wp2
      go_ret
      exact ⟨_, rfl, Bs.nil _, ((hr.drewN _).fails 7).1, grownBy_trans (grownBy_drewN _ _ _) ((hr.drewN _).fails 7).2⟩
    · have hle : n ≤ l.length := by omega
      have hlt' : ¬ (B.length : Int) - P < n := by omega
      have hPn : (P : Int) + n ≤ B.length := by omega
      rw [took_ok hle, left_ok hle, err_ok hle]
      have hPn' : P + n - n = P := by omega
      go_enter Try.func69, Try.ntmps69
      go_wp2_with fail
      go_quiet (fail)
      go_wp2_with fail
      have hg3 : w.grownBy ((w.drewN nq).setCell ⟨r, 1, none⟩ (.int .i64 ((P : Int) + n))) (some r) :=
        ⟨rfl, rfl, rfl, by simp [World.setCell, World.drewN], fun k _ hk => Below.heap_setCell _ _ _ _ (by simpa using hk)⟩
      have c0 : ((w.drewN nq).setCell ⟨r, 1, none⟩ (.int .i64 ((P : Int) + n))).cell? ⟨r, 0, none⟩ = some (.slice ao B.length cap) :=
        (World.cell?_setCell_other _ _ _ _ (by simp)).trans h0
      have c1 : ((w.drewN nq).setCell ⟨r, 1, none⟩ (.int .i64 ((P : Int) + n))).cell? ⟨r, 1, none⟩ = some (.int .i64 ((P : Int) + n)) :=
        World.cell?_setCell_same _ _ _ h1
      have c2 : ((w.drewN nq).setCell ⟨r, 1, none⟩ (.int .i64 ((P : Int) + n))).cell? ⟨r, 2, none⟩ = some (.int .i64 0) :=
        (World.cell?_setCell_other _ _ _ _ (by simp)).trans h2
      have f1 : ((w.drewN nq).setCell ⟨r, 1, none⟩ (.int .i64 ((P : Int) + n))).frozen? ⟨r, 1, none⟩ = false := by rw [World.frozen?_setCell]; exact h3
      have f2 : ((w.drewN nq).setCell ⟨r, 1, none⟩ (.int .i64 ((P : Int) + n))).frozen? ⟨r, 2, none⟩ = false := by rw [World.frozen?_setCell]; exact h4
      have hbs3 := hbs.grown hg3 (or_row h8.1)
      have h9 : ∀ o, 3 ≤ o → ((w.drewN nq).setCell ⟨r, 1, none⟩ (.int .i64 ((P : Int) + n))).cell? ⟨r, o, none⟩ = none := fun o ho => (World.cell?_setCell_other _ _ _ _ (by intro e; cases e; omega)).trans (h8.2 o ho)
      generalize (w.drewN nq).setCell ⟨r, 1, none⟩ (.int .i64 ((P : Int) + n)) = w3 at *
      have hr3 : RdR mB w3 r (l.drop n) 0 := ⟨B, P + n, _, c0, by simpa using c1, c2, f1, f2, hbs3, by omega, by rw [h7, List.drop_drop], h8.1, h9⟩
      have hd := hbs3.drops P h6
      rw [← h7, ← hll] at hd
      have ht := hd.takes n hle
      have HT := Lib.hid ht
      clear h8
      clear h0 h1 h2 h3 h4 hbs hr c2 f1 f2 hbs3 hd ht h7 hll h9
      go_quiet (fail)
      go_wp2_with fail
      · have h : cap = P := by assumption
        have ht := HT.out
        rw [if_pos h, show cap - P = 0 by omega] at ht
        go_ret
        exact ⟨_, rfl, ht, hr3, grownBy_trans hg3 (grownBy_drewN _ _ _)⟩
      · have h : ¬ cap = P := by assumption
        have ht := HT.out
        rw [if_neg h] at ht
        go_ret
        exact ⟨_, rfl, ht, hr3, grownBy_trans hg3 (grownBy_drewN _ _ _)⟩
  · have hb : (e == 0) = false := by simpa using he
    have hb2 : (e != 0) = true := by simpa using he
    rw [took_err n he, left_err n he, err_err n he]
    clear he h7 hll
    go_enter Try.func69, Try.ntmps69
    go_wp2_with fail
    go_quiet (fail)
    go_wp2
    go_ret
    exact ⟨_, rfl, Bs.nil _, hr, ⟨rfl, rfl, rfl, Nat.le_refl _, fun _ _ _ => rfl⟩⟩

theorem takeR_at (r : Nat) (l : List UInt8) (e m : Int) (n : Nat) (hm : m = n) (hn : n ≤ 4294967296) (w : World) (h : RdR mB w r l e) :
    Calls Try.prog 69 #[.pointer (some ⟨r, 0, none⟩), .int .i64 m] w fun en w' => ∃ v, en = .returned v ∧ Bs w' v (tookOf l e n) ∧ RdR mB w' r (leftOf l e n) (errOf l e n) ∧ w.grownBy w' (some r) := by
  subst hm; exact takeR_any r l e n hn w h

theorem byteR_any (r : Nat) (l : List UInt8) (e : Int) (w : World) (h : RdR mB w r l e) :
    Calls Try.prog 48 #[.pointer (some ⟨r, 0, none⟩)] w fun en w' =>
      en = .returned (.int .i64 (wrap64 (num (tookOf l e 1)))) ∧ RdR mB w' r (leftOf l e 1) (errOf l e 1) ∧ w.grownBy w' (some r) := by
  have hlen := tookOf_le l e 1
  go_enter Try.func48, Try.ntmps48
  go_wp2_with fail
  refine (takeR_any r l e 1 (by omega) _ h).mono ?_
  rintro en w1 ⟨v, rfl, hbs, hrd, hg⟩
  generalize hq : tookOf l e 1 = p at *
  have HQ := Lib.hid hq
  clear hq
  match p, hlen, hbs, HQ with
  | [], _, hbs, HQ =>
    obtain ⟨ao, cap, rfl, -⟩ := hbs
    go_wp2
    go_ret
    exact ⟨by rw [HQ.out, num_nil]; rfl, hrd, hg⟩
  | [c], _, hbs, HQ =>
    obtain ⟨b, off, cap, rfl, h1, h2, hc⟩ := hbs.at (by simp)
    have c0 := hc 0 (by simp)
    rw [Nat.add_zero] at c0
    unfold vb at c0
    have hc256 := c.toNat_lt
    have hn : wrap64 ((num [c] : Nat) : Int) = (c.toNat : Int) := by simp only [num, wrap64]; omega
    have HNN := Lib.hid hn
    simp only [List.getElem_cons_zero] at c0
    clear hc hn
    go_wp2
    go_ret
    exact ⟨by rw [HQ.out, HNN.out]; rfl, hrd, hg⟩

theorem or_low (N c : Nat) (hN : N < 256 ^ 7) (hc : c < 256) : bits .or .u64 ((N : Int) * 256) (c : Int) = ((c + 256 * N : Nat) : Int) := by
  have h1 : N * 256 < 2 ^ 64 := by omega
  have e : ((N : Int) * 256) = ((N * 256 : Nat) : Int) := by simp
  rw [e, (bits_nat .u64 64 (Nat.le_refl _) wraps_u64 (N * 256) c h1 (by omega)).2]
  have h2 := Nat.two_pow_add_eq_or_of_lt (i := 8) (b := c) (by omega) N
  rw [Nat.mul_comm N 256, ← show (2 : Nat) ^ 8 = 256 from rfl, ← h2, Nat.add_comm]

theorem textR_any (r : Nat) (l : List UInt8) (e : Int) (w : World) (h : RdR mB w r l e) :
    Calls Try.prog 49 #[.pointer (some ⟨r, 0, none⟩)] w fun en w' =>
      en = .returned (.string ⟨(textOf l e).toArray⟩) ∧ RdR mB w' r (textLeft l e) (textErr l e) ∧ w.grownBy w' (some r) := by
  have hlen := tookOf_le l e 2
  have hcases : (tookOf l e 2 = [] ∧ errOf l e 2 ≠ 0) ∨ ∃ c d, tookOf l e 2 = [c, d] := by
    by_cases he : e = 0
    · subst he
      by_cases hl : l.length < 2
      · left; rw [took_cut hl, err_cut hl]; exact ⟨rfl, by decide⟩
      · right
        rw [took_ok (by omega)]
        match l, hl with
        | c :: d :: t, _ => exact ⟨c, d, rfl⟩
        | [_], hl => simp at hl
        | [], hl => simp at hl
    · left; rw [took_err _ he, err_err _ he]; exact ⟨rfl, he⟩
  rcases hcases with ⟨h0, he⟩ | ⟨c, d, h0⟩
  · have e1 : textOf l e = [] := by unfold textOf; exact took_err _ he
    have e2 : textLeft l e = leftOf l e 2 := by unfold textLeft; exact left_err _ he
    have e3 : textErr l e = errOf l e 2 := by unfold textErr; exact err_err _ he
    rw [e1, e2, e3]
    clear e1 e2 e3 he
    go_enter Try.func49, Try.ntmps49
    go_wp2_with fail
    refine (takeR_any r l e 2 (by omega) _ h).mono ?_
    rintro en w1 ⟨v, rfl, hbs, hrd, hg⟩
    rw [h0] at hbs
    obtain ⟨ao, cap, rfl, -⟩ := hbs
    clear h0
    go_wp2
    go_ret
    exact ⟨rfl, hrd, hg⟩
  · have hn : num (tookOf l e 2) = c.toNat + 256 * d.toNat := by rw [h0]; simp [num]
    have HT : Hid (textOf l e = tookOf (leftOf l e 2) (errOf l e 2) (c.toNat + 256 * d.toNat) ∧ textLeft l e = leftOf (leftOf l e 2) (errOf l e 2) (c.toNat + 256 * d.toNat) ∧ textErr l e = errOf (leftOf l e 2) (errOf l e 2) (c.toNat + 256 * d.toNat)) := by
      refine Lib.hid ?_
      unfold textOf textLeft textErr
      rw [hn]
      exact ⟨rfl, rfl, rfl⟩
    rw [HT.out.1, HT.out.2.1, HT.out.2.2]
    have H0 := Lib.hid h0
    have c256 := c.toNat_lt
    have d256 := d.toNat_lt
    clear hn h0 hlen
    go_enter Try.func49, Try.ntmps49
    go_wp2_with fail
    refine (takeR_any r l e 2 (by omega) _ h).mono ?_
    rintro en w1 ⟨v, rfl, hbs, hrd, hg⟩
    rw [H0.out] at hbs
    obtain ⟨b, off, cap, rfl, h1, h2, hc⟩ := hbs.at (by simp)
    have c0 := hc 0 (by simp)
    have c1 := hc 1 (by simp)
    rw [Nat.add_zero] at c0
    unfold vb at c0 c1
    simp only [List.getElem_cons_zero, List.getElem_cons_succ] at c0 c1
    clear hc hbs
    go_wp2_with fail
    first
      | go_region_with ((go_at_call 69; refine (takeR_at (mB := mB) r (leftOf l e 2) (errOf l e 2) _ (c.toNat + 256 * d.toNat) ?_ ?_ _ ?_).mono ?_; (simp only [IntKind.wrap_i64]; omega); (omega); (exact hrd); rintro en2 w2 ⟨v2, rfl, hb2, hrd2, hgg2⟩; have hcv := run_conv_bytes hb2))
      | fail
    all_goals
      go_wp2
      go_ret
      exact ⟨rfl, hrd2, grownBy_trans (grownBy_drew hg) hgg2⟩
end

section
/-- What append leaves: it went into the slice's own spare room, or into a new row, or nothing was appended. -/
def Appended (w w' : World) (base : Nat) (v v' : Value) (l m : List UInt8) : Prop :=
  Own w' base v' (l ++ m) ∧
  ((∃ g cap, v = .slice (some ⟨g, 0, none⟩) l.length cap ∧ v' = .slice (some ⟨g, 0, none⟩) (l ++ m).length cap ∧ w.grownBy w' (some g)) ∨
   (w.grownBy w' none ∧ ∀ q, v'.ownBlock = some q → w.heap.size ≤ q) ∨ (v' = v ∧ w' = w ∧ m = []))

theorem ok_inj {v v' : Value} {w w' : World} {x : Result Value} (h : x = .ok v w) (h' : x = .ok v' w') : v' = v ∧ w' = w := by
  rw [h] at h'
  simp only [Result.ok.injEq] at h'
  exact ⟨h'.1.symm, h'.2.symm⟩

theorem run_append_kept (w : World) (base : Nat) (ty : TypeId) (v : Value) (l : List UInt8) (hown : Own w base v l) (y : Value) (m : List UInt8) (hbs : Bs w y m)
    (hl : l.length + m.length ≤ 140737488355328) (hbase : base ≤ w.heap.size) :
    ∃ v' w', (Builtin.append_ #[31, 31] ty #[v, y]).run Try.prog w = .ok v' w' ∧ Appended w w' base v v' l m := by
  obtain ⟨i0, hi, hz0, hz1, hz2⟩ := info_parts Try.infoU8
  obtain ⟨ao, cap, rfl, h1, h2, h3, h4⟩ := hbs
  cases ao with
  | none =>
    have h0 := h3 rfl
    obtain rfl : m = [] := List.eq_nil_of_length_eq_zero (by omega)
    subst h0
    exact ⟨v, w, run_append_owned_none (P := Try.prog) (w := w) base 31 ty 5 i0 1 Try.underlying31 hi v _ _ hown, by simpa using hown, .inr (.inr ⟨rfl, rfl, rfl⟩)⟩
  | some ad =>
    have hm63 : l.length + m.length ≤ maxLen := by simp [maxLen]; omega
    obtain ⟨v', w', hr, ho, hg, -⟩ := run_append_own (P := Try.prog) w base 31 ty 5 i0 (.int .u8 0) 1 1 Try.underlying31 hi hz0 hz1 hz2 rfl (by decide) v _ _ hown ad m.length cap (vbs m) (by simp [vbs]) (h4 ad rfl) (vbs_oneCell m) hm63 (by omega) hbase
    refine ⟨v', w', hr, Own.of ho (by simp) (by rw [vbs_append]), ?_⟩
    rcases hown.2 with ⟨rfl, hn⟩ | ⟨g, c, cur, rfl, hb, hh, k1, k2, k3, k4⟩
    · obtain rfl : l = [] := List.eq_nil_of_length_eq_zero hn
      obtain ⟨v2, w2, hr2, ho2, -, -⟩ := run_append_own (P := Try.prog) w w.heap.size 31 ty 5 i0 (.int .u8 0) 1 1 Try.underlying31 hi hz0 hz1 hz2 rfl (by decide) (.slice none 0 0) 0 [] (World.ownsRow_nil _ _ _ _) ad m.length cap (vbs m) (by simp [vbs]) (h4 ad rfl) (vbs_oneCell m) (by omega) (by omega) (Nat.le_refl _)
      obtain ⟨rfl, rfl⟩ := ok_inj hr hr2
      exact .inr (.inl ⟨hg, fun q hq => (ho2.lt q hq).1⟩)
    · by_cases hroom : l.length + m.length ≤ c
      · have hr2 := run_append_room (P := Try.prog) w 31 ty 5 i0 Try.underlying31 hi g l.length c cur hh ad m.length cap (vbs m) (by rw [hz1]; simp [vbs]) (h4 ad rfl) (vbs_oneCell m) hroom (by rw [hz1, vbs_length]; omega)
        obtain ⟨e1, -⟩ := ok_inj hr2 hr
        exact .inl ⟨g, c, rfl, by rw [e1]; simp, hg⟩
      · have hr2 := run_append_grow (P := Try.prog) w 31 ty 5 i0 (.int .u8 0) Try.underlying31 hi hz0 ⟨g, 0, none⟩ l.length c (vbs l) (by rw [hz1]; simp [vbs]) (hown.out.cells rfl) ad m.length cap (vbs m) (by rw [hz1]; simp [vbs]) (h4 ad rfl) (by omega) (by simp only [maxLen] at hm63; omega) (by rw [hz2]; exact growslice_fits (by omega) (by omega))
        obtain ⟨e1, e2⟩ := ok_inj hr2 hr
        refine .inr (.inl ⟨?_, ?_⟩)
        · rw [e2]
          exact ⟨rfl, rfl, rfl, by simp, fun k hk _ => heap_alloc_old w.drew _ hk⟩
        · intro q hq
          rw [e1] at hq
          simp [Value.ownBlock] at hq
          omega

theorem run_append_kept_string (w : World) (base : Nat) (ty : TypeId) (v : Value) (l : List UInt8) (hown : Own w base v l) (s : ByteArray)
    (hl : l.length + s.size ≤ 140737488355328) (hbase : base ≤ w.heap.size) :
    ∃ v' w', (Builtin.append_ #[31, 9] ty #[v, .string s]).run Try.prog w = .ok v' w' ∧ Appended w w' base v v' l s.data.toList := by
  obtain ⟨i0, hi, hz0, hz1, hz2⟩ := info_parts Try.infoU8
  have hsz : s.data.toList.length = s.size := by rw [Array.length_toList]; rfl
  have hm63 : l.length + s.size ≤ maxLen := by simp [maxLen]; omega
  obtain ⟨v', w', hr, ho, hg, -⟩ := Lib.run_append_own_string (P := Try.prog) w base 31 9 ty 5 i0 Try.underlying31 Try.underlying9 hi hz0 hz1 hz2 v _ _ hown s hm63 hl hbase
  refine ⟨v', w', hr, Own.of ho (by rw [List.length_append, hsz]) (by rw [vbs_append, strCells_vbs]), ?_⟩
  rcases hown.2 with ⟨rfl, hn⟩ | ⟨g, c, cur, rfl, hb, hh, k1, k2, k3, k4⟩
  · obtain rfl : l = [] := List.eq_nil_of_length_eq_zero hn
    obtain ⟨v2, w2, hr2, ho2, -, -⟩ := Lib.run_append_own_string (P := Try.prog) w w.heap.size 31 9 ty 5 i0 Try.underlying31 Try.underlying9 hi hz0 hz1 hz2 (.slice none 0 0) 0 [] (World.ownsRow_nil _ _ _ _) s (by simpa using hm63) (by simpa using hl) (Nat.le_refl _)
    obtain ⟨rfl, rfl⟩ := ok_inj hr hr2
    exact .inr (.inl ⟨hg, fun q hq => (ho2.lt q hq).1⟩)
  · by_cases hroom : l.length + s.size ≤ c
    · have hr2 := Lib.run_append_room_string (P := Try.prog) w 31 9 ty 5 i0 Try.underlying31 Try.underlying9 hi hz1 g l.length c cur hh s hroom (by omega)
      obtain ⟨e1, -⟩ := ok_inj hr2 hr
      exact .inl ⟨g, c, rfl, by rw [e1, List.length_append, hsz], hg⟩
    · have hr2 := Lib.run_append_grow_string (P := Try.prog) w 31 9 ty 5 i0 (.int .u8 0) Try.underlying31 Try.underlying9 hi hz0 ⟨g, 0, none⟩ l.length c (vbs l) (by rw [hz1]; simp [vbs]) (hown.out.cells rfl) s (by omega) (by simp only [maxLen] at hm63; omega) (by rw [hz2]; exact growslice_fits (by omega) (by omega))
      obtain ⟨e1, e2⟩ := ok_inj hr2 hr
      refine .inr (.inl ⟨?_, ?_⟩)
      · rw [e2]
        exact ⟨rfl, rfl, rfl, by simp, fun k hk _ => heap_alloc_old w.drew _ hk⟩
      · intro q hq
        rw [e1] at hq
        simp [Value.ownBlock] at hq
        omega

theorem wpList_append_kept {w : World} {ops : Array Oper} {rest : List Oper} {o : Oper} {a : Act} {Q : Exit → Act → World → Prop} (hgd : o.guard = none) (s x : Operand)
    (ho : o.op = .call { callee := .builtin .append, args := #[s, x], argTypes := #[31, 31] })
    (base : Nat) (v : Value) (l : List UInt8) (hs : a.eval s = v) (hown : Own w base v l) (y : Value) (m : List UInt8) (hx : a.eval x = y) (hbs : Bs w y m)
    (hl : l.length + m.length ≤ 140737488355328) (hbase : base ≤ w.heap.size)
    (h : ∀ v' w', Appended w w' base v v' l m → wpList Try.prog ops Q rest (a.put o.dst v') w') : wpList Try.prog ops Q (o :: rest) a w := by
  refine wpList_plain hgd fun K hK => ?_
  obtain ⟨v', w', hr, h2⟩ := run_append_kept w base o.type v l hown y m hbs hl hbase
  unfold Oper.wp execOp
  simp only [ho, resolve, invoke, builtin, Sem.run_bind, Sem.run_pure, Result.andThen_ok, List.map_toArray, List.map_cons, List.map_nil, hs, hx, hr]
  exact hK _ _ (h v' w' h2)

theorem wpList_append_kept_string {w : World} {ops : Array Oper} {rest : List Oper} {o : Oper} {a : Act} {Q : Exit → Act → World → Prop} (hgd : o.guard = none) (s x : Operand)
    (ho : o.op = .call { callee := .builtin .append, args := #[s, x], argTypes := #[31, 9] })
    (base : Nat) (v : Value) (l : List UInt8) (hs : a.eval s = v) (hown : Own w base v l) (y : ByteArray) (hx : a.eval x = .string y)
    (hl : l.length + y.size ≤ 140737488355328) (hbase : base ≤ w.heap.size)
    (h : ∀ v' w', Appended w w' base v v' l y.data.toList → wpList Try.prog ops Q rest (a.put o.dst v') w') : wpList Try.prog ops Q (o :: rest) a w := by
  refine wpList_plain hgd fun K hK => ?_
  obtain ⟨v', w', hr, h2⟩ := run_append_kept_string w base o.type v l hown y hl hbase
  unfold Oper.wp execOp
  simp only [ho, resolve, invoke, builtin, Sem.run_bind, Sem.run_pure, Result.andThen_ok, List.map_toArray, List.map_cons, List.map_nil, hs, hx, hr]
  exact hK _ _ (h v' w' h2)

/-- v, that held l when it began (world w), holds it still in wr, and b holds L. -/
structure Spare (w wr : World) (base : Nat) (v : Value) (l : List UInt8) (b : Value) (L : List UInt8) : Prop where
  own : Own wr base b L
  old : Own wr base v l
  grown : w.grownBy wr v.ownBlock
  rel : (∃ g cap, v = .slice (some ⟨g, 0, none⟩) l.length cap ∧ b = .slice (some ⟨g, 0, none⟩) L.length cap) ∨ ∀ q, b.ownBlock = some q → w.heap.size ≤ q

theorem Own.front {w : World} {base g cap : Nat} {l T : List UInt8} (h : Own w base (.slice (some ⟨g, 0, none⟩) (l ++ T).length cap) (l ++ T)) : Own w base (.slice (some ⟨g, 0, none⟩) l.length cap) l := by
  refine ⟨by simp [vbs], .inr ?_⟩
  rcases h.2 with ⟨h', _⟩ | ⟨g', cap', cur, h', hb, hh, k1, k2, k3, k4⟩
  · simp at h'
  · simp only [Value.slice.injEq, Option.some.injEq, Addr.mk.injEq, and_true, true_and] at h'
    obtain ⟨rfl, rfl⟩ := h'
    rw [List.length_append] at k1
    refine ⟨g, cap, cur, rfl, hb, hh, by omega, k2, k3, ?_⟩
    rw [Nat.mul_one] at k4 ⊢
    have := congrArg (List.take l.length) k4
    rw [List.take_take, Nat.min_eq_left (by simp), vbs_append, ← vbs_length l, List.take_left] at this
    rw [← vbs_length l]
    exact this

theorem Spare.start {w : World} {base : Nat} {v : Value} {l : List UInt8} (h : Own w base v l) : Spare w w base v l v l := by
  refine ⟨h, h, World.grownBy.refl _ _, ?_⟩
  rcases h.2 with ⟨rfl, hn⟩ | ⟨g, c, cur, rfl, -⟩
  · exact .inr (by simp [Value.ownBlock])
  · exact .inl ⟨g, c, rfl, rfl⟩

theorem Spare.below {w wr w' : World} {base : Nat} {v b : Value} {l L : List UInt8} (h : Spare w wr base v l b L) (hb : Below wr.heap.size wr w') : Spare w w' base v l b L := by
  refine ⟨h.own.below hb, h.old.below hb, ?_, h.rel⟩
  exact ⟨hb.os.trans h.grown.os, hb.tape.trans h.grown.tape, hb.output.trans h.grown.output, Nat.le_trans h.grown.size hb.size,
    fun k hk hne => (hb.block k (Nat.lt_of_lt_of_le hk h.grown.size)).trans (h.grown.block k hk hne)⟩

theorem Spare.step {w wr w' : World} {base : Nat} {v b b' : Value} {l T m : List UInt8} (hv : Own w base v l) (h : Spare w wr base v l b (l ++ T)) (a : Appended wr w' base b b' (l ++ T) m) : Spare w w' base v l b' (l ++ (T ++ m)) := by
  have hlt := fun q (hq : v.ownBlock = some q) => (hv.out.lt q hq).2
  obtain ⟨hown, a⟩ := a
  rw [List.append_assoc] at hown
  have gtrans : ∀ row, wr.grownBy w' row → (row = v.ownBlock ∨ ∀ q, row = some q → w.heap.size ≤ q) → w.grownBy w' v.ownBlock := by
    intro row hg hrow
    refine ⟨hg.os.trans h.grown.os, hg.tape.trans h.grown.tape, hg.output.trans h.grown.output, Nat.le_trans h.grown.size hg.size, fun k hk hne => ?_⟩
    refine (hg.block k (Nat.lt_of_lt_of_le hk h.grown.size) ?_).trans (h.grown.block k hk hne)
    rcases hrow with rfl | hrow
    · exact hne
    · intro e
      have := hrow k e.symm
      omega
  rcases a with ⟨g, cap, rfl, rfl, hg⟩ | ⟨hg, hq⟩ | ⟨rfl, rfl, rfl⟩
  · rcases h.rel with ⟨g', cap', e1, e2⟩ | hrel
    · simp only [Value.slice.injEq, Option.some.injEq, Addr.mk.injEq, and_true, true_and] at e2
      obtain ⟨rfl, rfl⟩ := e2
      subst e1
      refine ⟨hown, ?_, gtrans _ hg (.inl rfl), .inl ⟨g, cap, rfl, by rw [List.append_assoc]⟩⟩
      rw [List.append_assoc] at hown
      exact hown.front
    · have hgw := hrel g rfl
      refine ⟨hown, World.ownsRow.kept h.old hg ?_, gtrans _ hg (.inr fun q e => by cases e; exact hgw), .inr fun q e => ?_⟩
      · right
        intro e
        have := hlt g e
        omega
      · simp [Value.ownBlock] at e
        omega
  · refine ⟨hown, h.old.below (grownBy_below hg), gtrans _ hg (.inr fun q e => by cases e), .inr fun q e => Nat.le_trans h.grown.size (hq q e)⟩
  · rw [List.append_nil]
    exact h

theorem refByte_any (base : Nat) (v : Value) (l : List UInt8) (x : Int) (hl : l.length ≤ 1099511627776) (w : World) (hb : base ≤ w.heap.size) (hown : Own w base v l) :
    Calls Try.prog 42 #[v, .int .i64 x] w fun e w' => ∃ v', e = .returned v' ∧ Spare w w' base v l v' (l ++ le x 1) := by
  have e1 : le x 1 = [byteOf x] := by simp [le, List.range_succ]
  have hal : Below w.heap.size w (w.alloc (.cells #[.int .u8 (x % 256)] 5)) := (Below.refl _ _).alloc (Nat.le_refl _) _
  have hst := (Spare.start hown).below hal
  rw [e1]
  go_enter Try.func42, Try.ntmps42
  go_wp2_with (at_builtin; refine wpList_append_kept rfl _ _ rfl base _ _ rfl (hown.alloc _) _ _ rfl (Bs.one _ (byteOf x) _ ?a1) ?a2 ?a3 ?_)
  case a1 => rw [vb_byteOf]
  case a2 => simp only [List.length_cons, List.length_nil]; omega
  case a3 => simp; omega
  intro v' w' ha
  have hs := Spare.step (T := []) hown (by simpa using hst) (by simpa using ha)
  clear ha hst hal e1
  go_wp2
  go_ret
  exact ⟨_, rfl, hs⟩

theorem shr_byte (x : Int) (k : Nat) (hk : k < 8) : IntKind.u64.wrap x / 2 ^ (8 * k) % 256 = x / 2 ^ (8 * k) % 256 := by
  rw [IntKind.wrap_u64]
  match k, hk with
  | 0, _ => simp only [Nat.reduceMul, Int.reducePow]; omega
  | 1, _ => simp only [Nat.reduceMul, Int.reducePow]; omega
  | 2, _ => simp only [Nat.reduceMul, Int.reducePow]; omega
  | 3, _ => simp only [Nat.reduceMul, Int.reducePow]; omega
  | 4, _ => simp only [Nat.reduceMul, Int.reducePow]; omega
  | 5, _ => simp only [Nat.reduceMul, Int.reducePow]; omega
  | 6, _ => simp only [Nat.reduceMul, Int.reducePow]; omega
  | 7, _ => simp only [Nat.reduceMul, Int.reducePow]; omega

theorem refText_any (base : Nat) (v : Value) (l : List UInt8) (s : ByteArray) (hs : s.size ≤ 65535) (hl : l.length ≤ 1099511627776) (w : World) (hb : base ≤ w.heap.size) (hown : Own w base v l) :
    Calls Try.prog 41 #[v, .string s] w fun e w' => ∃ v', e = .returned v' ∧ Spare w w' base v l v' (l ++ tx s) := by
  have hle : (s.size : Int) ≤ 65535 := by omega
  have hsz : s.data.toList.length = s.size := by rw [Array.length_toList]; rfl
  have e2 : le (s.size : Int) 2 = [byteOf s.size, byteOf ((s.size : Int) / 256)] := by simp [le, List.range_succ]
  have etx : tx s = [byteOf s.size, byteOf ((s.size : Int) / 256)] ++ s.data.toList := by
    unfold tx
    rw [← e2, List.take_of_length_le (by omega)]
    congr 2
    omega
  have hal : Below w.heap.size w (w.alloc (.cells #[.int .u8 ((s.size : Int) % 256), .int .u8 ((s.size : Int) / 256)] 5)) := (Below.refl _ _).alloc (Nat.le_refl _) _
  have hst := (Spare.start hown).below hal
  rw [etx]
  clear e2 etx
  go_enter Try.func41, Try.ntmps41
  go_wp2_with (at_builtin; refine wpList_append_kept rfl _ _ rfl base _ _ rfl (hown.alloc _) _ _ rfl (Bs.two _ (byteOf s.size) (byteOf ((s.size : Int) / 256)) _ _ ?a1 ?a2) ?a3 ?a4 ?_)
  case a1 => rw [vb_byteOf]
  case a2 => rw [vb_byteOf]; congr 1; omega
  case a3 => simp only [List.length_cons, List.length_nil]; omega
  case a4 => simp; omega
  intro v1 w1 ha
  have hs1 := Spare.step (T := []) hown (by simpa using hst) (by simpa using ha)
  have hz1 := hs1.grown.size
  have ho1 := hs1.own
  have HS := Lib.hid hs1
  clear ha hst hal hs1
  rw [List.nil_append] at ho1
  go_wp2_with (at_builtin; refine wpList_append_kept_string rfl _ _ rfl base _ _ rfl ho1 _ rfl ?b1 ?b2 ?_)
  case b1 => simp only [List.length_append, List.length_cons, List.length_nil]; omega
  case b2 => omega
  intro v2 w2 ha2
  have hs2 := Spare.step hown HS.out ha2
  rw [List.nil_append] at hs2
  clear ha2 HS ho1
  go_wp2
  go_ret
  exact ⟨_, rfl, hs2⟩
end
end Go.Proofs.Ytpoacgnncinmiaa
