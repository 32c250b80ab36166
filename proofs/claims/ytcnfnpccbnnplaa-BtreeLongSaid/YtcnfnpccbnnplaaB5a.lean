/- Bytes written and read: Byte, Text, and a reader whose blocks are of a set. -/
import Derived.Test.YtcnfnpccbnnplaaPb
namespace Go.Proofs.Ytcnfnpccbnnplaa
open Go.RowKit Go.Maps
set_option maxRecDepth 100000
set_option linter.unusedVariables false

theorem byte_any (v : Value) (l : List UInt8) (x : Int) (hl : l.length ≤ 1099511627776) (w : World) (hbs : Bs w v l) :
    Calls Try.prog 117 #[v, .int .i64 x] w fun e w' => ∃ v', e = .returned v' ∧ Own w' w.heap.size v' (l ++ le x 1) ∧ Below w.heap.size w w' := by
  go_enter Try.func117, Try.ntmps117
  go_wp2_with fail
  refine (behind_any v l 1 (by omega) (by omega) hl _ hbs).mono ?_
  rintro e w1 ⟨v1, rfl, ho1, hb1⟩
  have hs1 := hb1.size
  go_wp2_with fail
  refine (little_at w.heap.size v1 l x 1 1 rfl (by omega) hl w1 hs1 ho1).mono ?_
  rintro e w2 ⟨v2, rfl, ho2, hb2⟩
  go_wp2
  go_ret
  exact ⟨_, rfl, ho2, hb1.trans hb2⟩

theorem tx_length (s : ByteArray) : (tx s).length = 2 + min s.size 65535 := by
  have : s.data.toList.length = s.size := by rw [Array.length_toList]; rfl
  unfold tx
  rw [List.length_append, le_length, List.length_take, this]
  omega

theorem text_core (v : Value) (l : List UInt8) (s s' : ByteArray) (hs : s'.size ≤ 65535) (hl : l.length ≤ 1073741824) (w : World) (hbs : Bs w v l) (hcut : s'.size = min s.size 65535) (hext : s.extract 0 (min s.size 65535) = s') :
    Calls Try.prog 132 #[v, .string s] w fun e w' => ∃ v', e = .returned v' ∧ Own w' w.heap.size v' (l ++ (le s'.size 2 ++ s'.data.toList)) ∧ Below w.heap.size w w' := by
  obtain ⟨i0, hi, hz0, hz1, hz2⟩ := info_parts Try.infoU8
  by_cases hle : s.size ≤ 65535
  · have hm : min s.size 65535 = s.size := by omega
    rw [hm] at hcut hext
    have he : s.extract 0 s.size = s := by simp
    obtain rfl : s = s' := he.symm.trans hext
    clear he hext hcut hm
    go_enter Try.func132, Try.ntmps132
    go_wp2_with fail
    refine (behind_any v l _ (by omega) (by omega) (by omega) _ hbs).mono ?_
    rintro e w1 ⟨v1, rfl, ho1, hb1⟩
    have hs1 := hb1.size
    go_wp2_with fail
    refine (little_at w.heap.size v1 l _ 2 2 rfl (by omega) (by omega) w1 hs1 ho1).mono ?_
    rintro e w2 ⟨v2, rfl, ho2, hb2⟩
    have hs2 := hb2.size
    have hll := le_length s.size 2
    go_wp2_with (at_builtin; refine Lib.wpList_append_own_string _ rfl _ _ 37 9 rfl w.heap.size 5 i0 Try.underlying37 Try.underlying9 hi hz0 hz1 hz2 _ _ _ rfl ho2.out _ rfl ?c1 ?c2 ?c3 ?_)
    case c1 => simp [maxLen]; omega
    case c2 => simp; omega
    case c3 => omega
    intro v3 w3 ho3 hg3 _
    have hb3 : Below w.heap.size w w3 := (hb1.trans hb2).grown hg3 (by omega) (fun q hq => (ho2.out.lt q hq).1)
    have ho3' : Own w3 w.heap.size v3 (l ++ (le s.size 2 ++ s.data.toList)) := Own.of ho3 (by simp [le_length]; omega) (by rw [strCells_vbs, ← vbs_append, List.append_assoc])
    clear ho3 hg3 ho2 ho1 hb1 hb2
    go_wp2
    go_ret
    exact ⟨_, rfl, ho3', hb3⟩
  · have hm : min s.size 65535 = 65535 := by omega
    rw [hm] at hcut hext
    have hgt : (65535 : Int) < (s.size : Int) := by omega
    go_enter Try.func132, Try.ntmps132
    go_wp2_with fail
    refine (behind_any v l _ (by omega) (by omega) (by omega) _ hbs).mono ?_
    rintro e w1 ⟨v1, rfl, ho1, hb1⟩
    have hs1 := hb1.size
    go_wp2_with fail
    refine (little_at w.heap.size v1 l _ 2 2 rfl (by omega) (by omega) w1 hs1 ho1).mono ?_
    rintro e w2 ⟨v2, rfl, ho2, hb2⟩
    have hs2 := hb2.size
    have hll := le_length 65535 2
    go_wp2_with (at_builtin; refine Lib.wpList_append_own_string _ rfl _ _ 37 9 rfl w.heap.size 5 i0 Try.underlying37 Try.underlying9 hi hz0 hz1 hz2 _ _ _ rfl ho2.out _ rfl ?d1 ?d2 ?d3 ?_)
    case d1 => simp [maxLen]; omega
    case d2 => simp; omega
    case d3 => omega
    intro v3 w3 ho3 hg3 _
    have hb3 : Below w.heap.size w w3 := (hb1.trans hb2).grown hg3 (by omega) (fun q hq => (ho2.out.lt q hq).1)
    have ho3' : Own w3 w.heap.size v3 (l ++ (le s'.size 2 ++ s'.data.toList)) := Own.of ho3 (by simp [le_length]; omega) (by rw [strCells_vbs, ← vbs_append, List.append_assoc, hcut]; rfl)
    clear ho3 hg3 ho2 ho1 hb1 hb2
    go_wp2
    go_ret
    exact ⟨_, rfl, ho3', hb3⟩

theorem text_any (v : Value) (l : List UInt8) (s : ByteArray) (hl : l.length ≤ 1073741824) (w : World) (hbs : Bs w v l) :
    Calls Try.prog 132 #[v, .string s] w fun e w' => ∃ v', e = .returned v' ∧ Own w' w.heap.size v' (l ++ tx s) ∧ Below w.heap.size w w' := by
  have hsz : (s.extract 0 (min s.size 65535)).size = min s.size 65535 := by simp
  have h := text_core v l s _ (by omega) hl w hbs hsz rfl
  have e : le ((s.extract 0 (min s.size 65535)).size : Int) 2 ++ (s.extract 0 (min s.size 65535)).data.toList = tx s := by
    unfold tx
    rw [hsz]
    congr 1
    · congr 1; omega
    · rw [Lib.extract_data, List.drop_zero, List.take_eq_take_iff]
      have : s.data.toList.length = s.size := by rw [Array.length_toList]; rfl
      omega
  rw [e] at h
  exact h
theorem end_any (r : Nat) (l : List UInt8) (e : Int) (w : World) (h : Rd w r l e) :
    Calls Try.prog 127 #[.pointer (some ⟨r, 0, none⟩)] w fun en w' => en = .returned (.int .i64 (endOf l e)) ∧ w = w' := by
  obtain ⟨sv, h0, h1, h2, h3, ⟨ao, cap, rfl, g1, g2, g3, g4⟩, h5⟩ := h
  clear g4 g3
  by_cases he : e = 0
  · subst he
    by_cases hl : l = []
    · subst hl
      go_enter Try.func127, Try.ntmps127
      go_wp2
      go_ret
      exact ⟨by simp [endOf], rfl⟩
    · have hp : (0 : Int) < l.length := by have := List.length_pos_iff.2 hl; omega
      go_enter Try.func127, Try.ntmps127
      go_wp2
      go_ret
      exact ⟨by simp [endOf, hl], rfl⟩
  · have hb : (e == 0) = false := by simpa using he
    go_enter Try.func127, Try.ntmps127
    go_wp2
    go_ret
    exact ⟨by simp [endOf, he], rfl⟩



/-- A reader whose block, and its bytes' block, are of E. -/
def Rds (E : Nat → Prop) (w : World) (r : Nat) (l : List UInt8) (e : Int) : Prop := Rd w r l e ∧ E r ∧ ∃ sv, w.cell? ⟨r, 0, none⟩ = some sv ∧ ∀ q, sv.ownBlock = some q → E q
theorem Rds.lt {E : Nat → Prop} {w : World} {r : Nat} {l : List UInt8} {e : Int} (h : Rds E w r l e) : r < w.heap.size := h.1.lt
theorem Rds.grown {E : Nat → Prop} {w w' : World} {r : Nat} {l : List UInt8} {e : Int} {row : Option Nat} (h : Rds E w r l e) (hg : w.grownBy w' row) (hs : ∀ q, row = some q → ¬ E q) : Rds E w' r l e := by
  obtain ⟨h1, hE, sv, h2, h3⟩ := h
  have hr : row ≠ some r := fun e => hs r e hE
  have hb := hg.block r h1.lt (Ne.symm hr)
  refine ⟨h1.grown hg hr (fun sv' h => ?_), hE, sv, by rw [World.cell?_of_block (w := w) hb]; exact h2, h3⟩
  rw [h2] at h
  cases h
  cases row with
  | none => exact .inl rfl
  | some q => exact .inr (fun e => hs q rfl (h3 q e))
theorem Rds.below {E : Nat → Prop} {w w' : World} {r : Nat} {l : List UInt8} {e : Int} (h : Rds E w r l e) (hb : Below w.heap.size w w') : Rds E w' r l e :=
  h.grown (Below.grownBy hb) (fun q h => by cases h)
theorem Rds.drew {E : Nat → Prop} {w : World} {r : Nat} {l : List UInt8} {e : Int} (h : Rds E w r l e) : Rds E w.drew r l e := h
theorem Rds.fails {E : Nat → Prop} {w : World} {r : Nat} {l : List UInt8} {e : Int} (h : Rds E w r l e) (x : Int) : Rds E (w.setCell ⟨r, 1, none⟩ (.int .i64 x)) r l x ∧ w.grownBy (w.setCell ⟨r, 1, none⟩ (.int .i64 x)) (some r) := by
  obtain ⟨h1, hE, sv, h2, h3⟩ := h
  exact ⟨⟨(h1.fails x).1, hE, sv, (World.cell?_setCell_other w _ _ _ (by simp)).trans h2, h3⟩, (h1.fails x).2⟩
theorem Rds.lefts {E : Nat → Prop} {w : World} {r : Nat} {l m : List UInt8} {e : Int} (h : Rds E w r l e) (v : Value) (hv : Bs w v m) (hne : v.ownBlock ≠ some r) (hq : ∀ q, v.ownBlock = some q → E q) : Rds E (w.setCell ⟨r, 0, none⟩ v) r m e ∧ w.grownBy (w.setCell ⟨r, 0, none⟩ v) (some r) := by
  obtain ⟨h1, hE, sv, h2, h3⟩ := h
  exact ⟨⟨(h1.lefts v hv hne).1, hE, v, World.cell?_setCell_same w _ _ h2, hq⟩, (h1.lefts v hv hne).2⟩

theorem newS_any (v : Value) (l : List UInt8) (hl : l.length ≤ 1099511627776) (w : World) (hbs : Bs w v l) :
    Calls Try.prog 77 #[v] w fun e w' => ∃ r, e = .returned (.pointer (some ⟨r, 0, none⟩)) ∧ Rds (fun k => w.heap.size ≤ k ∧ k < w'.heap.size) w' r l 0 ∧ w.heap.size ≤ r ∧ Below w.heap.size w w' := by
  go_enter Try.func77, Try.ntmps77
  go_wp2_with fail
  refine (behind_any v l 0 (by omega) (by omega) hl _ hbs).mono ?_
  rintro e w1 ⟨v1, rfl, ho1, hb1⟩
  have hs1 := hb1.size
  obtain ⟨ao1, cap1, hv1, -⟩ := ho1.bs
  subst hv1
  go_wp2
  go_ret
  have hne : (Value.slice ao1 l.length cap1).ownBlock ≠ some w1.heap.size := by
    intro h
    have := (ho1.out.lt _ h).2
    omega
  have hb2 : Below w1.heap.size w1 (w1.alloc (.cells #[.slice ao1 l.length cap1, .int .i64 0] 163)) := (Below.refl _ _).alloc (Nat.le_refl _) _
  have hs2 : (w1.alloc (.cells #[.slice ao1 l.length cap1, .int .i64 0] 163)).heap.size = w1.heap.size + 1 := by simp
  refine ⟨w1.heap.size, rfl, ⟨⟨_, ?_, ?_, ?_, ?_, ho1.bs.below hb2, hne⟩, ⟨hs1, by omega⟩, .slice ao1 l.length cap1, ?_, fun q hq => ⟨(ho1.out.lt q hq).1, by have := (ho1.out.lt q hq).2; omega⟩⟩, hs1, hb1.alloc hs1 _⟩
  all_goals simp
theorem failS_any (E : Nat → Prop) (r : Nat) (l : List UInt8) (e x : Int) (w : World) (h : Rds E w r l e) :
    Calls Try.prog 126 #[.pointer (some ⟨r, 0, none⟩), .int .i64 x] w fun en w' => en = .returned (.tuple #[]) ∧ Rds E w' r l (failOf e x) ∧ w.grownBy w' (some r) := by
  have hr := h
  obtain ⟨⟨sv, h0, h1, h2, h3, hbs, h5⟩, -⟩ := h
  by_cases he : e = 0
  · subst he
    go_enter Try.func126, Try.ntmps126
    go_wp2
    go_end0
    exact ⟨rfl, (hr.fails x).1, (hr.fails x).2⟩
  · have hb : (e == 0) = false := by simpa using he
    have hfin : Rds E w r l (failOf e x) := by simpa [failOf, he] using hr
    clear he
    go_enter Try.func126, Try.ntmps126
    go_wp2
    go_end0
    exact ⟨rfl, hfin, World.grownBy.refl _ _⟩
theorem takeS_any (E : Nat → Prop) (r : Nat) (l : List UInt8) (e : Int) (n : Nat) (hn : n ≤ 4294967296) (w : World) (h : Rds E w r l e) :
    Calls Try.prog 110 #[.pointer (some ⟨r, 0, none⟩), .int .i64 n] w fun en w' => ∃ v, en = .returned v ∧ Bs w' v (tookOf l e n) ∧ Rds E w' r (leftOf l e n) (errOf l e n) ∧ w.grownBy w' (some r) := by
  have hr := h
  obtain ⟨⟨sv, h0, h1, h2, h3, hbs, h5⟩, hE, sv', h6, h7⟩ := h
  obtain rfl : sv' = sv := by rw [h0] at h6; exact (Option.some.inj h6).symm
  clear h6
  by_cases he : e = 0
  · subst he
    obtain ⟨ao, cap, rfl, g1, g2, g3, g4⟩ := hbs
    have g2' : cap ≤ 9223372036854775807 := g2
    by_cases hlt : l.length < n
    · have e1 : tookOf l 0 n = [] := by simp [tookOf]; omega
      have e2 : leftOf l 0 n = l := by simp [leftOf]; omega
      have e3 : errOf l 0 n = 7 := by simp [errOf]; omega
      rw [e1, e2, e3]
      clear e1 e2 e3
      go_enter Try.func110, Try.ntmps110
      go_wp2
      refine wp_scope_jumps 0 (fun a' w' => AtOut r n a' ∧ Rds E w' r l 7 ∧ w.grownBy w' (some r)) (fun _ _ => 0) rfl ?_ ?_
      · go_wp2_with (go_at_call 126; refine (failS_any E r l 0 7 _ hr).mono ?_; rintro e w1 ⟨rfl, hr1, hg1⟩)
        go_step3
        exact ⟨rfl, ⟨_, _, _, _, _, _, _, _, _, _, _, _, _, _, rfl⟩, hr1, hg1⟩
      · rintro a' w' ⟨⟨u6, u7, u8, u9, u10, u11, u12, u13, u14, u15, u16, u17, u18, u19, rfl⟩, hr1, hg1⟩
        go_wp2
        simp only [Exit.jump]
        go_ret
        exact ⟨_, rfl, Bs.nil _, hr1, hg1⟩
    · have hle : n ≤ l.length := by omega
      have hle' : (n : Int) ≤ l.length := by omega
      go_enter Try.func110, Try.ntmps110
      go_wp2
      go_step3
      go_wp2
      go_region
      have hbs : Bs w (.slice ao l.length cap) l := ⟨ao, cap, rfl, g1, g2, g3, g4⟩
      have hL := hr.lefts _ (hbs.drops n hle) (by rw [ownBlock_drops (c := l.length) (d := cap)]; exact h5) (fun q hq => h7 q (by rw [ownBlock_drops (c := l.length) (d := cap)] at hq; exact hq))
      generalize Value.slice (if cap = n then ao else Option.map (fun x => x.add n) ao) (l.length - n) (cap - n) = V at hL ⊢
      go_wp2
      go_step3
      go_wp2
      rw [Exit.noGoto_ret]
      go_ret
      have e1 : tookOf l 0 n = l.take n := by simp [tookOf, hle]
      have e2 : leftOf l 0 n = l.drop n := by simp [leftOf, hle]
      have e3 : errOf l 0 n = 0 := by simp [errOf]; omega
      have h5' : (Value.slice ao n cap).ownBlock ≠ some r := by cases ao with | none => simp [Value.ownBlock] | some a => exact h5
      rw [e1, e2, e3]
      exact ⟨_, rfl, ((hbs.takes n hle).grown hL.2 (.inr (.inr h5'))).drew, hL.1.drew, grownBy_drew hL.2⟩
  · have hb : (e != 0) = true := by simpa using he
    have e1 : tookOf l e n = [] := by simp [tookOf, he]
    have e2 : leftOf l e n = l := by simp [leftOf, he]
    have e3 : errOf l e n = e := by simp [errOf, he]
    rw [e1, e2, e3]
    clear e1 e2 e3 he
    go_enter Try.func110, Try.ntmps110
    go_wp2
    refine wp_scope_jumps 0 (fun a' w' => AtOut r n a' ∧ Rds E w' r l e ∧ w.grownBy w' (some r)) (fun _ _ => 0) rfl ?_ ?_
    · go_wp2
      go_step3
      exact ⟨rfl, ⟨_, _, _, _, _, _, _, _, _, _, _, _, _, _, rfl⟩, hr, World.grownBy.refl _ _⟩
    · rintro a' w' ⟨⟨u6, u7, u8, u9, u10, u11, u12, u13, u14, u15, u16, u17, u18, u19, rfl⟩, hr1, hg1⟩
      go_wp2
      simp only [Exit.jump]
      go_ret
      exact ⟨_, rfl, Bs.nil _, hr1, hg1⟩
theorem numberS_any (E : Nat → Prop) (r : Nat) (l : List UInt8) (e : Int) (n : Nat) (hn : n ≤ 8) (w : World) (h : Rds E w r l e) :
    Calls Try.prog 109 #[.func (.func 110) #[.pointer (some ⟨r, 0, none⟩)] #[], .int .i64 n] w fun en w' =>
      en = .returned (.int .i64 (wrap64 (num (tookOf l e n)))) ∧ Rds E w' r (leftOf l e n) (errOf l e n) ∧ w.grownBy w' (some r) := by
  have hlen : (tookOf l e n).length ≤ 8 := Nat.le_trans (tookOf_le l e n) hn
  go_enter Try.func109, Try.ntmps109
  go_wp2_with fail
  refine (takeS_any E r l e n (by omega) _ h).mono ?_
  rintro en w1 ⟨v, rfl, hbs, hrd, hg⟩
  generalize hq : tookOf l e n = p at *
  have HQ := Lib.hid hq
  clear hq
  by_cases hp : p.length = 0
  · obtain rfl : p = [] := List.eq_nil_of_length_eq_zero hp
    obtain ⟨ao, cap, rfl, -⟩ := hbs
    go_wp2
    refine wp_loop_rounds 1 ?_
    rw [rounds_succ]
    go_wp2
    go_ret
    exact ⟨by rw [HQ.out, num_nil]; rfl, hrd, hg⟩
  · obtain ⟨b, off, cap, rfl, h1, h2, hc⟩ := hbs.at (by omega)
    obtain ⟨m, hm⟩ : ∃ m, m = p.length := ⟨_, rfl⟩
    have hm1 : m ≤ p.length := by omega
    have hm2 : p.length ≤ m := by omega
    rw [← hm]
    go_wp2
    go_loop [5, 6, 7, 12] (fun v _ _ i => ∃ k : Nat, k ≤ m ∧ i = .int .i64 k ∧ v = .int .u64 (num (p.take k))) (fun _ _ _ i => m - (intOf i).toNat)
    case atStart => exact ⟨0, Nat.zero_le _, rfl, by simp [num]⟩
    case round =>
      obtain ⟨k, hk, rfl, rfl⟩ := hrel
      by_cases hlt : k < m
      · have hck := hc k (by omega)
        unfold vb at hck
        obtain ⟨c, hc'⟩ : ∃ c : Nat, c = (p[k]'(by omega)).toNat := ⟨_, rfl⟩
        rw [← hc'] at hck
        have hc256 : c < 256 := by rw [hc']; exact UInt8.toNat_lt _
        obtain ⟨N, hN⟩ : ∃ N, N = num (p.take k) := ⟨_, rfl⟩
        have HN := Lib.hid hN
        have HC := Lib.hid hc'
        rw [← hN]
        clear hN hc' hc
        have hNlt : N < 256 ^ k := by
          rw [HN.out]
          refine Nat.lt_of_lt_of_le (num_lt _) ?_
          rw [List.length_take]
          exact Nat.pow_le_pow_right (by decide) (by omega)
        have ho := or_byte N c k (by omega) hNlt hc256
        have HO := Lib.hid ho
        have hs : p.take (k + 1) = p.take k ++ [p[k]'(by omega)] := by rw [List.take_succ_eq_append_getElem]
        have HS := Lib.hid hs
        clear ho hNlt hs
        go_wp2
        go_round
        case rel => exact ⟨k + 1, by omega, by go_num, by rw [HO.out, HS.out, num_snoc, ← HN.out, ← HC.out, List.length_take, Nat.min_eq_left (by omega)]⟩
        case measure => simp [intOf]; omega
      · obtain rfl : k = m := by omega
        go_wp2
        go_ret
        exact ⟨by rw [HQ.out]; rfl, hrd, hg⟩
theorem numberS_at (E : Nat → Prop) (r : Nat) (l : List UInt8) (e m : Int) (n : Nat) (hm : m = n) (hn : n ≤ 8) (w : World) (h : Rds E w r l e) :
    Calls Try.prog 109 #[.func (.func 110) #[.pointer (some ⟨r, 0, none⟩)] #[], .int .i64 m] w fun en w' =>
      en = .returned (.int .i64 (wrap64 (num (tookOf l e n)))) ∧ Rds E w' r (leftOf l e n) (errOf l e n) ∧ w.grownBy w' (some r) := by
  subst hm; exact numberS_any E r l e n hn w h
theorem rbyteS_any (E : Nat → Prop) (r : Nat) (l : List UInt8) (e : Int) (w : World) (h : Rds E w r l e) :
    Calls Try.prog 124 #[.pointer (some ⟨r, 0, none⟩)] w fun en w' =>
      en = .returned (.int .i64 (wrap64 (num (tookOf l e 1)))) ∧ Rds E w' r (leftOf l e 1) (errOf l e 1) ∧ w.grownBy w' (some r) := by
  go_enter Try.func124, Try.ntmps124
  go_wp2_with fail
  refine (numberS_at E r l e 1 1 rfl (by omega) _ h).mono ?_
  rintro en w1 ⟨rfl, h1, hg⟩
  go_wp2
  go_ret
  exact ⟨rfl, h1, hg⟩

theorem rtextS_any (E : Nat → Prop) (r : Nat) (l : List UInt8) (e : Int) (w : World) (h : Rds E w r l e) :
    Calls Try.prog 125 #[.pointer (some ⟨r, 0, none⟩)] w fun en w' =>
      en = .returned (.string ⟨(textOf l e).toArray⟩) ∧ Rds E w' r (textLeft l e) (textErr l e) ∧ w.grownBy w' (some r) := by
  have hn := num_two _ (tookOf_le l e 2)
  have hw : wrap64 ((num (tookOf l e 2) : Nat) : Int) = (num (tookOf l e 2) : Nat) := by simp only [wrap64]; omega
  have HW := Lib.hid hw
  clear hw
  go_enter Try.func125, Try.ntmps125
  go_wp2_with fail
  refine (numberS_at E r l e 2 2 rfl (by omega) _ h).mono ?_
  rintro en w1 ⟨rfl, h1, hg⟩
  rw [HW.out]
  go_wp2_with fail
  refine (takeS_any E r _ _ _ (by omega) _ h1).mono ?_
  rintro en w2 ⟨v2, rfl, hb2, h2, hg2⟩
  have hc := run_conv_bytes hb2
  go_wp2
  go_ret
  exact ⟨rfl, h2, grownBy_trans hg hg2⟩
end Go.Proofs.Ytcnfnpccbnnplaa
