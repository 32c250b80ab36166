/- A reader whose bytes lie in blocks from a number on. -/
import Derived.Test.YtcnfnpccbnnplaaPgChg
namespace Go.Proofs.Ytcnfnpccbnnplaa
open Go.RowKit Go.Maps
set_option maxRecDepth 100000

/-- A reader whose bytes lie in blocks from base on. -/
def Rdn (base : Nat) (w : World) (r : Nat) (l : List UInt8) (e : Int) : Prop := Rd w r l e ∧ ∃ sv, w.cell? ⟨r, 0, none⟩ = some sv ∧ ∀ q, sv.ownBlock = some q → base ≤ q
theorem Rdn.lt {base : Nat} {w : World} {r : Nat} {l : List UInt8} {e : Int} (h : Rdn base w r l e) : r < w.heap.size := h.1.lt
theorem Rdn.grown {base : Nat} {w w' : World} {r : Nat} {l : List UInt8} {e : Int} {row : Option Nat} (h : Rdn base w r l e) (hg : w.grownBy w' row) (hr : row ≠ some r) (hs : ∀ q, row = some q → q < base) : Rdn base w' r l e := by
  obtain ⟨h1, sv, h2, h3⟩ := h
  have hb := hg.block r h1.lt (Ne.symm hr)
  refine ⟨h1.grown hg hr (fun sv' h => ?_), sv, by rw [World.cell?_of_block (w := w) hb]; exact h2, h3⟩
  rw [h2] at h
  cases h
  cases row with
  | none => exact .inl rfl
  | some q =>
    refine .inr (fun e => ?_)
    have := h3 q e
    have := hs q rfl
    omega
theorem Rdn.below {base : Nat} {w w' : World} {r : Nat} {l : List UInt8} {e : Int} (h : Rdn base w r l e) (hb : Below w.heap.size w w') : Rdn base w' r l e :=
  h.grown (Below.grownBy hb) (by simp) (fun q h => by cases h)
theorem Rdn.drew {base : Nat} {w : World} {r : Nat} {l : List UInt8} {e : Int} (h : Rdn base w r l e) : Rdn base w.drew r l e := h
theorem Rdn.fails {base : Nat} {w : World} {r : Nat} {l : List UInt8} {e : Int} (h : Rdn base w r l e) (x : Int) : Rdn base (w.setCell ⟨r, 1, none⟩ (.int .i64 x)) r l x ∧ w.grownBy (w.setCell ⟨r, 1, none⟩ (.int .i64 x)) (some r) := by
  obtain ⟨h1, sv, h2, h3⟩ := h
  exact ⟨⟨(h1.fails x).1, sv, (World.cell?_setCell_other w _ _ _ (by simp)).trans h2, h3⟩, (h1.fails x).2⟩
theorem Rdn.lefts {base : Nat} {w : World} {r : Nat} {l m : List UInt8} {e : Int} (h : Rdn base w r l e) (v : Value) (hv : Bs w v m) (hne : v.ownBlock ≠ some r) (hq : ∀ q, v.ownBlock = some q → base ≤ q) : Rdn base (w.setCell ⟨r, 0, none⟩ v) r m e ∧ w.grownBy (w.setCell ⟨r, 0, none⟩ v) (some r) := by
  obtain ⟨h1, sv, h2, h3⟩ := h
  exact ⟨⟨(h1.lefts v hv hne).1, v, World.cell?_setCell_same w _ _ h2, hq⟩, (h1.lefts v hv hne).2⟩

theorem newN_any (v : Value) (l : List UInt8) (hl : l.length ≤ 1099511627776) (w : World) (hbs : Bs w v l) :
    Calls Try.prog 77 #[v] w fun e w' => ∃ r, e = .returned (.pointer (some ⟨r, 0, none⟩)) ∧ Rdn w.heap.size w' r l 0 ∧ w.heap.size ≤ r ∧ Below w.heap.size w w' := by
  go_enter Try.func77, Try.ntmps77
  go_wp2_with fail
  refine (behind_any v l 0 (by omega) (by omega) hl _ hbs).mono ?_
  rintro e w1 ⟨v1, rfl, ho1, hb1⟩
  have hs1 := hb1.size
  obtain ⟨ao1, cap1, hv1, -⟩ := ho1.bs
  subst hv1
  go_wp2
  go_ret
  have hne : (Value.slice ao1 l.length cap1).ownBlock ≠ some w1.heap.size := by
    intro h
    have := (ho1.out.lt _ h).2
    omega
  have hb2 : Below w1.heap.size w1 (w1.alloc (.cells #[.slice ao1 l.length cap1, .int .i64 0] 163)) := (Below.refl _ _).alloc (Nat.le_refl _) _
  refine ⟨w1.heap.size, rfl, ⟨⟨_, ?_, ?_, ?_, ?_, ho1.bs.below hb2, hne⟩, .slice ao1 l.length cap1, ?_, fun q hq => (ho1.out.lt q hq).1⟩, hs1, hb1.alloc hs1 _⟩
  all_goals simp
theorem failN_any (base r : Nat) (l : List UInt8) (e x : Int) (w : World) (h : Rdn base w r l e) :
    Calls Try.prog 126 #[.pointer (some ⟨r, 0, none⟩), .int .i64 x] w fun en w' => en = .returned (.tuple #[]) ∧ Rdn base w' r l (failOf e x) ∧ w.grownBy w' (some r) := by
  have hr := h
  obtain ⟨⟨sv, h0, h1, h2, h3, hbs, h5⟩, -⟩ := h
  by_cases he : e = 0
  · subst he
    go_enter Try.func126, Try.ntmps126
    go_wp2
    go_end0
    exact ⟨rfl, (hr.fails x).1, (hr.fails x).2⟩
  · have hb : (e == 0) = false := by simpa using he
    have hfin : Rdn base w r l (failOf e x) := by simpa [failOf, he] using hr
    clear he
    go_enter Try.func126, Try.ntmps126
    go_wp2
    go_end0
    exact ⟨rfl, hfin, World.grownBy.refl _ _⟩
theorem takeN_any (base r : Nat) (l : List UInt8) (e : Int) (n : Nat) (hn : n ≤ 4294967296) (w : World) (h : Rdn base w r l e) :
    Calls Try.prog 110 #[.pointer (some ⟨r, 0, none⟩), .int .i64 n] w fun en w' => ∃ v, en = .returned v ∧ Bs w' v (tookOf l e n) ∧ Rdn base w' r (leftOf l e n) (errOf l e n) ∧ w.grownBy w' (some r) := by
  have hr := h
  obtain ⟨⟨sv, h0, h1, h2, h3, hbs, h5⟩, sv', h6, h7⟩ := h
  obtain rfl : sv' = sv := by rw [h0] at h6; exact (Option.some.inj h6).symm
  clear h6
  by_cases he : e = 0
  · subst he
    obtain ⟨ao, cap, rfl, g1, g2, g3, g4⟩ := hbs
    have g2' : cap ≤ 9223372036854775807 := g2
    by_cases hlt : l.length < n
    · have e1 : tookOf l 0 n = [] := by simp [tookOf]; omega
      have e2 : leftOf l 0 n = l := by simp [leftOf]; omega
      have e3 : errOf l 0 n = 7 := by simp [errOf]; omega
      rw [e1, e2, e3]
      clear e1 e2 e3
      go_enter Try.func110, Try.ntmps110
      go_wp2
      refine wp_scope_jumps 0 (fun a' w' => AtOut r n a' ∧ Rdn base w' r l 7 ∧ w.grownBy w' (some r)) (fun _ _ => 0) rfl ?_ ?_
      · go_wp2_with (go_at_call 126; refine (failN_any base r l 0 7 _ hr).mono ?_; rintro e w1 ⟨rfl, hr1, hg1⟩)
        go_step3
        exact ⟨rfl, ⟨_, _, _, _, _, _, _, _, _, _, _, _, _, _, rfl⟩, hr1, hg1⟩
      · rintro a' w' ⟨⟨u6, u7, u8, u9, u10, u11, u12, u13, u14, u15, u16, u17, u18, u19, rfl⟩, hr1, hg1⟩
        go_wp2
        simp only [Exit.jump]
        go_ret
        exact ⟨_, rfl, Bs.nil _, hr1, hg1⟩
    · have hle : n ≤ l.length := by omega
      have hle' : (n : Int) ≤ l.length := by omega
      go_enter Try.func110, Try.ntmps110
      go_wp2
      go_step3
      go_wp2
      go_region
      have hbs : Bs w (.slice ao l.length cap) l := ⟨ao, cap, rfl, g1, g2, g3, g4⟩
      have hL := hr.lefts _ (hbs.drops n hle) (by rw [ownBlock_drops (c := l.length) (d := cap)]; exact h5) (fun q hq => h7 q (by rw [ownBlock_drops (c := l.length) (d := cap)] at hq; exact hq))
      generalize Value.slice (if cap = n then ao else Option.map (fun x => x.add n) ao) (l.length - n) (cap - n) = V at hL ⊢
      go_wp2
      go_step3
      go_wp2
      rw [Exit.noGoto_ret]
      go_ret
      have e1 : tookOf l 0 n = l.take n := by simp [tookOf, hle]
      have e2 : leftOf l 0 n = l.drop n := by simp [leftOf, hle]
      have e3 : errOf l 0 n = 0 := by simp [errOf]; omega
      have h5' : (Value.slice ao n cap).ownBlock ≠ some r := by cases ao with | none => simp [Value.ownBlock] | some a => exact h5
      rw [e1, e2, e3]
      exact ⟨_, rfl, ((hbs.takes n hle).grown hL.2 (.inr (.inr h5'))).drew, hL.1.drew, grownBy_drew hL.2⟩
  · have hb : (e != 0) = true := by simpa using he
    have e1 : tookOf l e n = [] := by simp [tookOf, he]
    have e2 : leftOf l e n = l := by simp [leftOf, he]
    have e3 : errOf l e n = e := by simp [errOf, he]
    rw [e1, e2, e3]
    clear e1 e2 e3 he
    go_enter Try.func110, Try.ntmps110
    go_wp2
    refine wp_scope_jumps 0 (fun a' w' => AtOut r n a' ∧ Rdn base w' r l e ∧ w.grownBy w' (some r)) (fun _ _ => 0) rfl ?_ ?_
    · go_wp2
      go_step3
      exact ⟨rfl, ⟨_, _, _, _, _, _, _, _, _, _, _, _, _, _, rfl⟩, hr, World.grownBy.refl _ _⟩
    · rintro a' w' ⟨⟨u6, u7, u8, u9, u10, u11, u12, u13, u14, u15, u16, u17, u18, u19, rfl⟩, hr1, hg1⟩
      go_wp2
      simp only [Exit.jump]
      go_ret
      exact ⟨_, rfl, Bs.nil _, hr1, hg1⟩
theorem numberN_any (base r : Nat) (l : List UInt8) (e : Int) (n : Nat) (hn : n ≤ 8) (w : World) (h : Rdn base w r l e) :
    Calls Try.prog 109 #[.func (.func 110) #[.pointer (some ⟨r, 0, none⟩)] #[], .int .i64 n] w fun en w' =>
      en = .returned (.int .i64 (wrap64 (num (tookOf l e n)))) ∧ Rdn base w' r (leftOf l e n) (errOf l e n) ∧ w.grownBy w' (some r) := by
  have hlen : (tookOf l e n).length ≤ 8 := Nat.le_trans (tookOf_le l e n) hn
  go_enter Try.func109, Try.ntmps109
  go_wp2_with fail
  refine (takeN_any base r l e n (by omega) _ h).mono ?_
  rintro en w1 ⟨v, rfl, hbs, hrd, hg⟩
  generalize hq : tookOf l e n = p at *
  have HQ := Lib.hid hq
  clear hq
  by_cases hp : p.length = 0
  · obtain rfl : p = [] := List.eq_nil_of_length_eq_zero hp
    obtain ⟨ao, cap, rfl, -⟩ := hbs
    go_wp2
    refine wp_loop_rounds 1 ?_
    rw [rounds_succ]
    go_wp2
    go_ret
    exact ⟨by rw [HQ.out, num_nil]; rfl, hrd, hg⟩
  · obtain ⟨b, off, cap, rfl, h1, h2, hc⟩ := hbs.at (by omega)
    obtain ⟨m, hm⟩ : ∃ m, m = p.length := ⟨_, rfl⟩
    have hm1 : m ≤ p.length := by omega
    have hm2 : p.length ≤ m := by omega
    rw [← hm]
    go_wp2
    go_loop [5, 6, 7, 12] (fun v _ _ i => ∃ k : Nat, k ≤ m ∧ i = .int .i64 k ∧ v = .int .u64 (num (p.take k))) (fun _ _ _ i => m - (intOf i).toNat)
    case atStart => exact ⟨0, Nat.zero_le _, rfl, by simp [num]⟩
    case round =>
      obtain ⟨k, hk, rfl, rfl⟩ := hrel
      by_cases hlt : k < m
      · have hck := hc k (by omega)
        unfold vb at hck
        obtain ⟨c, hc'⟩ : ∃ c : Nat, c = (p[k]'(by omega)).toNat := ⟨_, rfl⟩
        rw [← hc'] at hck
        have hc256 : c < 256 := by rw [hc']; exact UInt8.toNat_lt _
        obtain ⟨N, hN⟩ : ∃ N, N = num (p.take k) := ⟨_, rfl⟩
        have HN := Lib.hid hN
        have HC := Lib.hid hc'
        rw [← hN]
        clear hN hc' hc
        have hNlt : N < 256 ^ k := by
          rw [HN.out]
          refine Nat.lt_of_lt_of_le (num_lt _) ?_
          rw [List.length_take]
          exact Nat.pow_le_pow_right (by decide) (by omega)
        have ho := or_byte N c k (by omega) hNlt hc256
        have HO := Lib.hid ho
        have hs : p.take (k + 1) = p.take k ++ [p[k]'(by omega)] := by rw [List.take_succ_eq_append_getElem]
        have HS := Lib.hid hs
        clear ho hNlt hs
        go_wp2
        go_round
        case rel => exact ⟨k + 1, by omega, by go_num, by rw [HO.out, HS.out, num_snoc, ← HN.out, ← HC.out, List.length_take, Nat.min_eq_left (by omega)]⟩
        case measure => simp [intOf]; omega
      · obtain rfl : k = m := by omega
        go_wp2
        go_ret
        exact ⟨by rw [HQ.out]; rfl, hrd, hg⟩
theorem numberN_at (base r : Nat) (l : List UInt8) (e m : Int) (n : Nat) (hm : m = n) (hn : n ≤ 8) (w : World) (h : Rdn base w r l e) :
    Calls Try.prog 109 #[.func (.func 110) #[.pointer (some ⟨r, 0, none⟩)] #[], .int .i64 m] w fun en w' =>
      en = .returned (.int .i64 (wrap64 (num (tookOf l e n)))) ∧ Rdn base w' r (leftOf l e n) (errOf l e n) ∧ w.grownBy w' (some r) := by
  subst hm; exact numberN_any base r l e n hn w h
theorem rintN_any (base r : Nat) (l : List UInt8) (e : Int) (w : World) (h : Rdn base w r l e) :
    Calls Try.prog 78 #[.pointer (some ⟨r, 0, none⟩)] w fun en w' =>
      en = .returned (.int .i64 (wrap64 (num (tookOf l e 8)))) ∧ Rdn base w' r (leftOf l e 8) (errOf l e 8) ∧ w.grownBy w' (some r) := by
  go_enter Try.func78, Try.ntmps78
  go_wp2_with fail
  refine (numberN_at base r l e 8 8 rfl (by omega) _ h).mono ?_
  rintro en w1 ⟨rfl, h1, hg⟩
  go_wp2
  go_ret
  exact ⟨rfl, h1, hg⟩
end Go.Proofs.Ytcnfnpccbnnplaa
