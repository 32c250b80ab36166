/- A Reader of package code: New, Int (of stage 1's XReads). -/
import Derived.Test.YtkhdahipnfloeaaCut
import Derived.Test.YtkhdahipnfloeaaPut
import Derived.Test.YtkhdahipnfloeaaOps
import Derived.RegionTactic
import Derived.BigRegion
import Derived.ChangeAlike
namespace Go.Proofs.Ytkhdahipnfloeaa
open Go.RowKit
set_option maxRecDepth 100000

/-- A reader in block r: what is left to read, and its error. -/
def Rd (w : World) (r : Nat) (l : List UInt8) (e : Int) : Prop :=
  ∃ sv, w.cell? ⟨r, 0, none⟩ = some sv ∧ w.cell? ⟨r, 1, none⟩ = some (.int .i64 e) ∧ w.frozen? ⟨r, 0, none⟩ = false ∧ w.frozen? ⟨r, 1, none⟩ = false ∧ Bs w sv l ∧ sv.ownBlock ≠ some r
theorem Rd.lt {w : World} {r : Nat} {l : List UInt8} {e : Int} (h : Rd w r l e) : r < w.heap.size := by
  obtain ⟨sv, h0, -⟩ := h
  exact World.block_lt_of_cell? w _ h0
theorem Rd.grown {w w' : World} {r : Nat} {l : List UInt8} {e : Int} {row : Option Nat} (h : Rd w r l e) (hg : w.grownBy w' row) (hr : row ≠ some r) (hs : ∀ sv, w.cell? ⟨r, 0, none⟩ = some sv → row = none ∨ sv.ownBlock ≠ row) : Rd w' r l e := by
  have hlt := h.lt
  obtain ⟨sv, h0, h1, h2, h3, h4, h5⟩ := h
  have hb := hg.block r hlt (Ne.symm hr)
  refine ⟨sv, ?_, ?_, ?_, ?_, h4.grown hg (.inr (hs sv h0)), h5⟩
  · rw [World.cell?_of_block (w := w) hb]; exact h0
  · rw [World.cell?_of_block (w := w) hb]; exact h1
  · rw [World.frozen?_of_block (w := w) hb]; exact h2
  · rw [World.frozen?_of_block (w := w) hb]; exact h3
theorem Rd.below {w w' : World} {r : Nat} {l : List UInt8} {e : Int} (h : Rd w r l e) (hb : Below w.heap.size w w') : Rd w' r l e :=
  h.grown (Below.grownBy hb) (by simp) (fun _ _ => .inl rfl)
theorem Rd.drew {w : World} {r : Nat} {l : List UInt8} {e : Int} (h : Rd w r l e) : Rd w.drew r l e := h
theorem new_any (v : Value) (l : List UInt8) (hl : l.length ≤ 1099511627776) (w : World) (hbs : Bs w v l) :
    Calls Try.prog 67 #[v] w fun e w' => ∃ r, e = .returned (.pointer (some ⟨r, 0, none⟩)) ∧ Rd w' r l 0 ∧ w.heap.size ≤ r ∧ Below w.heap.size w w' := by
  go_enter Try.func67, Try.ntmps67
  go_wp2_with fail
  refine (behind_any v l 0 (by omega) (by omega) hl _ hbs).mono ?_
  rintro e w1 ⟨v1, rfl, ho1, hb1⟩
  have hs1 := hb1.size
  obtain ⟨ao1, cap1, hv1, -⟩ := ho1.bs
  subst hv1
  go_wp2
  go_ret
  have hne : (Value.slice ao1 l.length cap1).ownBlock ≠ some w1.heap.size := by
    intro h
    have := (ho1.out.lt _ h).2
    omega
  have hb2 : Below w1.heap.size w1 (w1.alloc (.cells #[.slice ao1 l.length cap1, .int .i64 0] 102)) := (Below.refl _ _).alloc (Nat.le_refl _) _
  refine ⟨w1.heap.size, rfl, ⟨_, ?_, ?_, ?_, ?_, ho1.bs.below hb2, hne⟩, hs1, hb1.alloc hs1 _⟩
  all_goals simp
theorem Rd.fails {w : World} {r : Nat} {l : List UInt8} {e : Int} (h : Rd w r l e) (x : Int) : Rd (w.setCell ⟨r, 1, none⟩ (.int .i64 x)) r l x ∧ w.grownBy (w.setCell ⟨r, 1, none⟩ (.int .i64 x)) (some r) := by
  obtain ⟨sv, h0, h1, h2, h3, hbs, h5⟩ := h
  have hg : w.grownBy (w.setCell ⟨r, 1, none⟩ (.int .i64 x)) (some r) :=
    ⟨rfl, rfl, rfl, by simp [World.setCell], fun k _ hk => Below.heap_setCell _ _ _ _ (by simpa using hk)⟩
  refine ⟨⟨sv, ?_, ?_, ?_, ?_, hbs.grown hg (.inr (.inr h5)), h5⟩, hg⟩
  · exact (World.cell?_setCell_other w _ _ _ (by simp)).trans h0
  · exact World.cell?_setCell_same w _ _ h1
  · rw [World.frozen?_setCell]; exact h2
  · rw [World.frozen?_setCell]; exact h3
theorem Rd.lefts {w : World} {r : Nat} {l m : List UInt8} {e : Int} (h : Rd w r l e) (v : Value) (hv : Bs w v m) (hne : v.ownBlock ≠ some r) : Rd (w.setCell ⟨r, 0, none⟩ v) r m e ∧ w.grownBy (w.setCell ⟨r, 0, none⟩ v) (some r) := by
  obtain ⟨sv, h0, h1, h2, h3, hbs, h5⟩ := h
  have hg : w.grownBy (w.setCell ⟨r, 0, none⟩ v) (some r) :=
    ⟨rfl, rfl, rfl, by simp [World.setCell], fun k _ hk => Below.heap_setCell _ _ _ _ (by simpa using hk)⟩
  refine ⟨⟨v, ?_, ?_, ?_, ?_, hv.grown hg (.inr (.inr hne)), hne⟩, hg⟩
  · exact World.cell?_setCell_same w _ _ h0
  · exact (World.cell?_setCell_other w _ _ _ (by simp)).trans h1
  · rw [World.frozen?_setCell]; exact h2
  · rw [World.frozen?_setCell]; exact h3
theorem fail_any (r : Nat) (l : List UInt8) (e x : Int) (w : World) (h : Rd w r l e) :
    Calls Try.prog 71 #[.pointer (some ⟨r, 0, none⟩), .int .i64 x] w fun en w' => en = .returned (.tuple #[]) ∧ Rd w' r l (failOf e x) ∧ w.grownBy w' (some r) := by
  have hr := h
  obtain ⟨sv, h0, h1, h2, h3, hbs, h5⟩ := h
  by_cases he : e = 0
  · subst he
    go_enter Try.func71, Try.ntmps71
    go_wp2
    go_end0
    exact ⟨rfl, (hr.fails x).1, (hr.fails x).2⟩
  · have hb : (e == 0) = false := by simpa using he
    have hfin : Rd w r l (failOf e x) := by simpa [failOf, he] using hr
    clear he
    go_enter Try.func71, Try.ntmps71
    go_wp2
    go_end0
    exact ⟨rfl, hfin, World.grownBy.refl _ _⟩
/-- The frame of take at its label, where it jumped there. -/
def AtOut (r n : Nat) (a' : Act) : Prop :=
  ∃ u6 u7 u8 u9 u10 u11 u12 u13 u14 u15 u16 u17 u18 u19 : Value, a' = { tmps := #[.pointer (some ⟨r, 0, none⟩), .int .i64 n, undef, undef, .slice none 0 0, .slice none 0 0, u6, u7, u8, u9, u10, u11, u12, u13, u14, u15, u16, u17, u18, u19, undef, undef, undef, undef, undef, undef, undef, undef, undef, undef, undef, undef, undef, undef, undef, undef], defers := [] }
theorem take_any (r : Nat) (l : List UInt8) (e : Int) (n : Nat) (hn : n ≤ 4294967296) (w : World) (h : Rd w r l e) :
    Calls Try.prog 70 #[.pointer (some ⟨r, 0, none⟩), .int .i64 n] w fun en w' => ∃ v, en = .returned v ∧ Bs w' v (tookOf l e n) ∧ Rd w' r (leftOf l e n) (errOf l e n) ∧ w.grownBy w' (some r) := by
  have hr := h
  obtain ⟨sv, h0, h1, h2, h3, hbs, h5⟩ := h
  by_cases he : e = 0
  · subst he
    obtain ⟨ao, cap, rfl, g1, g2, g3, g4⟩ := hbs
    have g2' : cap ≤ 9223372036854775807 := g2
    by_cases hlt : l.length < n
    · have e1 : tookOf l 0 n = [] := by simp [tookOf]; omega
      have e2 : leftOf l 0 n = l := by simp [leftOf]; omega
      have e3 : errOf l 0 n = 7 := by simp [errOf]; omega
      rw [e1, e2, e3]
      clear e1 e2 e3
      go_enter Try.func70, Try.ntmps70
      go_wp2
      refine wp_scope_jumps 0 (fun a' w' => AtOut r n a' ∧ Rd w' r l 7 ∧ w.grownBy w' (some r)) (fun _ _ => 0) rfl ?_ ?_
      · go_wp2_with (go_at_call 71; refine (fail_any r l 0 7 _ hr).mono ?_; rintro e w1 ⟨rfl, hr1, hg1⟩)
        go_step3
        exact ⟨rfl, ⟨_, _, _, _, _, _, _, _, _, _, _, _, _, _, rfl⟩, hr1, hg1⟩
      · rintro a' w' ⟨⟨u6, u7, u8, u9, u10, u11, u12, u13, u14, u15, u16, u17, u18, u19, rfl⟩, hr1, hg1⟩
        go_wp2
        simp only [Exit.jump]
        go_ret
        exact ⟨_, rfl, Bs.nil _, hr1, hg1⟩
    · have hle : n ≤ l.length := by omega
      have hle' : (n : Int) ≤ l.length := by omega
      go_enter Try.func70, Try.ntmps70
      go_wp2
      go_step3
      go_wp2
      go_region
      have hbs : Bs w (.slice ao l.length cap) l := ⟨ao, cap, rfl, g1, g2, g3, g4⟩
      have hL := hr.lefts _ (hbs.drops n hle) (by rw [ownBlock_drops (c := l.length) (d := cap)]; exact h5)
      generalize Value.slice (if cap = n then ao else Option.map (fun x => x.add n) ao) (l.length - n) (cap - n) = V at hL ⊢
      go_wp2
      go_step3
      go_wp2
      rw [Exit.noGoto_ret]
      go_ret
      have e1 : tookOf l 0 n = l.take n := by simp [tookOf, hle]
      have e2 : leftOf l 0 n = l.drop n := by simp [leftOf, hle]
      have e3 : errOf l 0 n = 0 := by simp [errOf]; omega
      have h5' : (Value.slice ao n cap).ownBlock ≠ some r := by cases ao with | none => simp [Value.ownBlock] | some a => exact h5
      rw [e1, e2, e3]
      exact ⟨_, rfl, ((hbs.takes n hle).grown hL.2 (.inr (.inr h5'))).drew, hL.1.drew, grownBy_drew hL.2⟩
  · have hb : (e != 0) = true := by simpa using he
    have e1 : tookOf l e n = [] := by simp [tookOf, he]
    have e2 : leftOf l e n = l := by simp [leftOf, he]
    have e3 : errOf l e n = e := by simp [errOf, he]
    rw [e1, e2, e3]
    clear e1 e2 e3 he
    go_enter Try.func70, Try.ntmps70
    go_wp2
    refine wp_scope_jumps 0 (fun a' w' => AtOut r n a' ∧ Rd w' r l e ∧ w.grownBy w' (some r)) (fun _ _ => 0) rfl ?_ ?_
    · go_wp2
      go_step3
      exact ⟨rfl, ⟨_, _, _, _, _, _, _, _, _, _, _, _, _, _, rfl⟩, hr, World.grownBy.refl _ _⟩
    · rintro a' w' ⟨⟨u6, u7, u8, u9, u10, u11, u12, u13, u14, u15, u16, u17, u18, u19, rfl⟩, hr1, hg1⟩
      go_wp2
      simp only [Exit.jump]
      go_ret
      exact ⟨_, rfl, Bs.nil _, hr1, hg1⟩
theorem number_any (r : Nat) (l : List UInt8) (e : Int) (n : Nat) (hn : n ≤ 8) (w : World) (h : Rd w r l e) :
    Calls Try.prog 69 #[.func (.func 70) #[.pointer (some ⟨r, 0, none⟩)] #[], .int .i64 n] w fun en w' =>
      en = .returned (.int .i64 (wrap64 (num (tookOf l e n)))) ∧ Rd w' r (leftOf l e n) (errOf l e n) ∧ w.grownBy w' (some r) := by
  have hlen : (tookOf l e n).length ≤ 8 := Nat.le_trans (tookOf_le l e n) hn
  go_enter Try.func69, Try.ntmps69
  go_wp2_with fail
  refine (take_any r l e n (by omega) _ h).mono ?_
  rintro en w1 ⟨v, rfl, hbs, hrd, hg⟩
  generalize hq : tookOf l e n = p at *
  have HQ := Lib.hid hq
  clear hq
  by_cases hp : p.length = 0
  · obtain rfl : p = [] := List.eq_nil_of_length_eq_zero hp
    obtain ⟨ao, cap, rfl, -⟩ := hbs
    go_wp2
    refine wp_loop_rounds 1 ?_
    rw [rounds_succ]
    go_wp2
    go_ret
    exact ⟨by rw [HQ.out, num_nil]; rfl, hrd, hg⟩
  · obtain ⟨b, off, cap, rfl, h1, h2, hc⟩ := hbs.at (by omega)
    obtain ⟨m, hm⟩ : ∃ m, m = p.length := ⟨_, rfl⟩
    have hm1 : m ≤ p.length := by omega
    have hm2 : p.length ≤ m := by omega
    rw [← hm]
    go_wp2
    go_loop [5, 6, 7, 12] (fun v _ _ i => ∃ k : Nat, k ≤ m ∧ i = .int .i64 k ∧ v = .int .u64 (num (p.take k))) (fun _ _ _ i => m - (intOf i).toNat)
    case atStart => exact ⟨0, Nat.zero_le _, rfl, by simp [num]⟩
    case round =>
      obtain ⟨k, hk, rfl, rfl⟩ := hrel
      by_cases hlt : k < m
      · have hck := hc k (by omega)
        unfold vb at hck
        obtain ⟨c, hc'⟩ : ∃ c : Nat, c = (p[k]'(by omega)).toNat := ⟨_, rfl⟩
        rw [← hc'] at hck
        have hc256 : c < 256 := by rw [hc']; exact UInt8.toNat_lt _
        obtain ⟨N, hN⟩ : ∃ N, N = num (p.take k) := ⟨_, rfl⟩
        have HN := Lib.hid hN
        have HC := Lib.hid hc'
        rw [← hN]
        clear hN hc' hc
        have hNlt : N < 256 ^ k := by
          rw [HN.out]
          refine Nat.lt_of_lt_of_le (num_lt _) ?_
          rw [List.length_take]
          exact Nat.pow_le_pow_right (by decide) (by omega)
        have ho := or_byte N c k (by omega) hNlt hc256
        have HO := Lib.hid ho
        have hs : p.take (k + 1) = p.take k ++ [p[k]'(by omega)] := by rw [List.take_succ_eq_append_getElem]
        have HS := Lib.hid hs
        clear ho hNlt hs
        go_wp2
        go_round
        case rel => exact ⟨k + 1, by omega, by go_num, by rw [HO.out, HS.out, num_snoc, ← HN.out, ← HC.out, List.length_take, Nat.min_eq_left (by omega)]⟩
        case measure => simp [intOf]; omega
      · obtain rfl : k = m := by omega
        go_wp2
        go_ret
        exact ⟨by rw [HQ.out]; rfl, hrd, hg⟩
theorem number_at (r : Nat) (l : List UInt8) (e m : Int) (n : Nat) (hm : m = n) (hn : n ≤ 8) (w : World) (h : Rd w r l e) :
    Calls Try.prog 69 #[.func (.func 70) #[.pointer (some ⟨r, 0, none⟩)] #[], .int .i64 m] w fun en w' =>
      en = .returned (.int .i64 (wrap64 (num (tookOf l e n)))) ∧ Rd w' r (leftOf l e n) (errOf l e n) ∧ w.grownBy w' (some r) := by
  subst hm; exact number_any r l e n hn w h
theorem rint_any (r : Nat) (l : List UInt8) (e : Int) (w : World) (h : Rd w r l e) :
    Calls Try.prog 68 #[.pointer (some ⟨r, 0, none⟩)] w fun en w' =>
      en = .returned (.int .i64 (wrap64 (num (tookOf l e 8)))) ∧ Rd w' r (leftOf l e 8) (errOf l e 8) ∧ w.grownBy w' (some r) := by
  go_enter Try.func68, Try.ntmps68
  go_wp2_with fail
  refine (number_at r l e 8 8 rfl (by omega) _ h).mono ?_
  rintro en w1 ⟨rfl, h1, hg⟩
  go_wp2
  go_ret
  exact ⟨rfl, h1, hg⟩
end Go.Proofs.Ytkhdahipnfloeaa
