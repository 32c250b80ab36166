/- Package code's Int (of stage 1's XPuts). -/
import Derived.Test.YtkhdahipnfloeaaBytes
namespace Go.Proofs.Ytkhdahipnfloeaa
open Go.RowKit
set_option maxRecDepth 100000

set_option maxHeartbeats 400000 in
theorem little_any (base : Nat) (v : Value) (l : List UInt8) (x : Int) (n : Nat) (hn : n ≤ 8) (hl : l.length ≤ 1099511627776) (w : World) (hb : base ≤ w.heap.size) (hown : Own w base v l) :
    Calls Try.prog 59 #[v, .int .i64 x, .int .i64 n] w fun e w' => ∃ v', e = .returned v' ∧ Own w' base v' (l ++ le x n) ∧ Below base w w' := by
  obtain ⟨i0, hi, hz0, hz1, hz2⟩ := info_parts Try.infoU8
  go_enter Try.func59, Try.ntmps59
  go_wp2
  go_loopw [0, 7, 9] (fun b _ i wr => ∃ k : Nat, k ≤ n ∧ i = .int .i64 k ∧ Own wr base b (l ++ le x k) ∧ Below base w wr) (fun _ _ i _ => n - (intOf i).toNat)
  case atStart => exact ⟨0, Nat.zero_le _, rfl, by simpa [le] using hown, Below.refl _ _⟩
  case round =>
    obtain ⟨k, hk, rfl, hown1, hbel⟩ := hrel
    have hsz := hbel.size
    by_cases hlt : k < n
    · go_wp2_with (at_builtin; refine wpList_append_own _ rfl _ _ 41 rfl base 5 i0 (.int .u8 0) 1 1 Try.underlying41 hi hz0 hz1 hz2 rfl (by decide) _ _ _ rfl (hown1.out.alloc _) ⟨wr.heap.size, 0, none⟩ 1 1 [.int .u8 (x / 2 ^ (8 * k) % 256)] rfl rfl ?c1 ?c2 ?c3 ?c4 ?c5 ?_)
      case c1 => intro j u hj; match j, hj with | 0, hj => simp at hj; subst hj; simp [Addr.add]
      case c2 => intro u hu; simp at hu; subst hu; rfl
      case c3 => have := le_length x k; simp [maxLen]; omega
      case c4 => have := le_length x k; simp; omega
      case c5 => simp; omega
      intro v' w1 hown' hgrow _
      have hb1 : Below base w w1 := (hbel.alloc (by omega) _).grown hgrow (by simp; omega) (fun q hq => (hown1.out.lt q hq).1)
      have ho1 : Own w1 base v' (l ++ le x (k + 1)) := by
        rw [le_succ, ← List.append_assoc]
        unfold Own
        rw [vbs_append, List.length_append]
        simpa [vbs, vb_byteOf] using hown'
      clear hown' hgrow hown1 hbel hown
      go_wp2
      go_roundw
      case rel => exact ⟨k + 1, by omega, by go_num, ho1, hb1⟩
      case measure => simp [intOf]; omega
    · obtain rfl : k = n := by omega
      go_wp2
      go_ret
      exact ⟨_, rfl, hown1, hbel⟩
set_option maxHeartbeats 400000 in
theorem behind_any (v : Value) (l : List UInt8) (x : Int) (hx : 0 ≤ x) (hx' : x ≤ 1099511627776) (hl : l.length ≤ 1099511627776) (w : World) (hbs : Bs w v l) :
    Calls Try.prog 60 #[v, .int .i64 x] w fun e w' => ∃ v', e = .returned v' ∧ Own w' w.heap.size v' l ∧ Below w.heap.size w w' := by
  obtain ⟨i0, hi, hz0, hz1, hz2⟩ := info_parts Try.infoU8
  obtain ⟨n, rfl⟩ := Int.eq_ofNat_of_zero_le hx
  obtain ⟨ao, cap, rfl, h1, h2, h3, h4⟩ := hbs
  go_enter Try.func60, Try.ntmps60
  go_wp2_with (at_make; refine wpList_make_own _ rfl _ _ 41 rfl w.heap.size 5 i0 (.int .u8 0) 1 Try.underlying41 hi hz0 hz1 _ _ _ (l.length + n) rfl rfl (by omega) ?b1 ?b2 ?b3 ?_)
  case b1 => rw [hz2]; omega
  case b2 => simp [maxLen]; omega
  case b3 => omega
  intro w1 hown hgrow
  have hc : ∀ ad, ao = some ad → ∀ j u, (vbs l)[j]? = some u → w1.cell? (ad.add j) = some u := fun ad had j u hu => hgrow.cell (h4 ad had j u hu) (by simp)
  go_wp2_with (at_builtin; refine wpList_append_fits_any _ rfl _ _ 41 rfl w.heap.size 5 i0 1 Try.underlying41 hi hz1 w.heap.size 0 (l.length + n) [] rfl hown ao l.length cap (vbs l) rfl (by simp [vbs]) ?d1 hc (vbs_oneCell l) (by omega) ?_)
  case d1 => intro h; have := h3 h; omega
  intro w2 hown2 hgrow2
  have hb : Below w.heap.size w w2 := (grownBy_below hgrow).grown hgrow2 hgrow.size (by simp)
  have ho : Own w2 w.heap.size (.slice (some ⟨w.heap.size, 0, none⟩) l.length (l.length + n)) l := by unfold Own; simpa using hown2
  clear hown hgrow hown2 hgrow2 hc h4
  go_wp2
  go_ret
  exact ⟨_, rfl, by simpa using ho, hb⟩
theorem little_at (base : Nat) (v : Value) (l : List UInt8) (x m : Int) (n : Nat) (hm : m = n) (hn : n ≤ 8) (hl : l.length ≤ 1099511627776) (w : World) (hb : base ≤ w.heap.size) (hown : Own w base v l) :
    Calls Try.prog 59 #[v, .int .i64 x, .int .i64 m] w fun e w' => ∃ v', e = .returned v' ∧ Own w' base v' (l ++ le x n) ∧ Below base w w' := by
  subst hm; exact little_any base v l x n hn hl w hb hown
theorem int_any (v : Value) (l : List UInt8) (x : Int) (hl : l.length ≤ 1099511627776) (w : World) (hbs : Bs w v l) :
    Calls Try.prog 38 #[v, .int .i64 x] w fun e w' => ∃ v', e = .returned v' ∧ Own w' w.heap.size v' (l ++ le x 8) ∧ Below w.heap.size w w' := by
  go_enter Try.func38, Try.ntmps38
  go_wp2_with fail
  refine (behind_any v l 8 (by omega) (by omega) hl _ hbs).mono ?_
  rintro e w1 ⟨v1, rfl, ho1, hb1⟩
  have hs1 := hb1.size
  go_wp2_with fail
  refine (little_at w.heap.size v1 l x 8 8 rfl (by omega) hl w1 hs1 ho1).mono ?_
  rintro e w2 ⟨v2, rfl, ho2, hb2⟩
  go_wp2
  go_ret
  exact ⟨_, rfl, ho2, hb1.trans hb2⟩
end Go.Proofs.Ytkhdahipnfloeaa
