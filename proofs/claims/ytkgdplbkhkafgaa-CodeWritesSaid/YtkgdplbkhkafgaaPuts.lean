/- What code.little, code.behind, code.Int, code.Byte, code.Text do: their contracts. -/
import Derived.Test.YtkgdplbkhkafgaaBytes
namespace Go.Proofs.Ytkgdplbkhkafgaa
open Go.RowKit

set_option maxHeartbeats 400000 in
theorem little_any (base : Nat) (v : Value) (l : List UInt8) (x : Int) (n : Nat) (hn : n ≤ 8) (hl : l.length ≤ 1099511627776) (w : World) (hb : base ≤ w.heap.size) (hown : Own w base v l) :
    Calls Try.prog 31 #[v, .int .i64 x, .int .i64 n] w fun e w' => ∃ v', e = .returned v' ∧ Own w' base v' (l ++ le x n) ∧ Below base w w' := by
  obtain ⟨i0, hi, hz0, hz1, hz2⟩ := info_parts Try.infoU8
  go_enter Try.func31, Try.ntmps31
  go_wp2
  go_loopw [0, 7, 9] (fun b _ i wr => ∃ k : Nat, k ≤ n ∧ i = .int .i64 k ∧ Own wr base b (l ++ le x k) ∧ Below base w wr) (fun _ _ i _ => n - (intOf i).toNat)
  case atStart => exact ⟨0, Nat.zero_le _, rfl, by simpa [le] using hown, Below.refl _ _⟩
  case round =>
    obtain ⟨k, hk, rfl, hown1, hbel⟩ := hrel
    have hsz := hbel.size
    by_cases hlt : k < n
    · go_wp2_with (at_builtin; refine wpList_append_own _ rfl _ _ 22 rfl base 5 i0 (.int .u8 0) 1 1 Try.underlying22 hi hz0 hz1 hz2 rfl (by decide) _ _ _ rfl (hown1.out.alloc _) ⟨wr.heap.size, 0, none⟩ 1 1 [.int .u8 (x / 2 ^ (8 * k) % 256)] rfl rfl ?c1 ?c2 ?c3 ?c4 ?c5 ?_)
      case c1 => intro j u hj; match j, hj with | 0, hj => simp at hj; subst hj; simp [Addr.add]
      case c2 => intro u hu; simp at hu; subst hu; rfl
      case c3 => have := le_length x k; simp [maxLen]; omega
      case c4 => have := le_length x k; simp; omega
      case c5 => simp; omega
      intro v' w1 hown' hgrow _
      have hb1 : Below base w w1 := (hbel.alloc (by omega) _).grown hgrow (by simp; omega) (fun q hq => (hown1.out.lt q hq).1)
      have ho1 : Own w1 base v' (l ++ le x (k + 1)) := by
        rw [le_succ, ← List.append_assoc]
        unfold Own
        rw [vbs_append, List.length_append]
        simpa [vbs, vb_byteOf] using hown'
      clear hown' hgrow hown1 hbel hown
      go_wp2
      go_roundw
      case rel => exact ⟨k + 1, by omega, by go_num, ho1, hb1⟩
      case measure => simp [intOf]; omega
    · obtain rfl : k = n := by omega
      go_wp2
      go_ret
      exact ⟨_, rfl, hown1, hbel⟩

set_option maxHeartbeats 400000 in
theorem behind_any (v : Value) (l : List UInt8) (x : Int) (hx : 0 ≤ x) (hx' : x ≤ 1099511627776) (hl : l.length ≤ 1099511627776) (w : World) (hbs : Bs w v l) :
    Calls Try.prog 32 #[v, .int .i64 x] w fun e w' => ∃ v', e = .returned v' ∧ Own w' w.heap.size v' l ∧ Below w.heap.size w w' := by
  obtain ⟨i0, hi, hz0, hz1, hz2⟩ := info_parts Try.infoU8
  obtain ⟨n, rfl⟩ := Int.eq_ofNat_of_zero_le hx
  obtain ⟨ao, cap, rfl, h1, h2, h3, h4⟩ := hbs
  go_enter Try.func32, Try.ntmps32
  go_wp2_with (at_make; refine wpList_make_own _ rfl _ _ 22 rfl w.heap.size 5 i0 (.int .u8 0) 1 Try.underlying22 hi hz0 hz1 _ _ _ (l.length + n) rfl rfl (by omega) ?b1 ?b2 ?b3 ?_)
  case b1 => rw [hz2]; omega
  case b2 => simp [maxLen]; omega
  case b3 => omega
  intro w1 hown hgrow
  have hc : ∀ ad, ao = some ad → ∀ j u, (vbs l)[j]? = some u → w1.cell? (ad.add j) = some u := fun ad had j u hu => hgrow.cell (h4 ad had j u hu) (by simp)
  go_wp2_with (at_builtin; refine wpList_append_fits_any _ rfl _ _ 22 rfl w.heap.size 5 i0 1 Try.underlying22 hi hz1 w.heap.size 0 (l.length + n) [] rfl hown ao l.length cap (vbs l) rfl (by simp [vbs]) ?d1 hc (vbs_oneCell l) (by omega) ?_)
  case d1 => intro h; have := h3 h; omega
  intro w2 hown2 hgrow2
  have hb : Below w.heap.size w w2 := (grownBy_below hgrow).grown hgrow2 hgrow.size (by simp)
  have ho : Own w2 w.heap.size (.slice (some ⟨w.heap.size, 0, none⟩) l.length (l.length + n)) l := by unfold Own; simpa using hown2
  clear hown hgrow hown2 hgrow2 hc h4
  go_wp2
  go_ret
  exact ⟨_, rfl, by simpa using ho, hb⟩

theorem little_at (base : Nat) (v : Value) (l : List UInt8) (x m : Int) (n : Nat) (hm : m = n) (hn : n ≤ 8) (hl : l.length ≤ 1099511627776) (w : World) (hb : base ≤ w.heap.size) (hown : Own w base v l) :
    Calls Try.prog 31 #[v, .int .i64 x, .int .i64 m] w fun e w' => ∃ v', e = .returned v' ∧ Own w' base v' (l ++ le x n) ∧ Below base w w' := by
  subst hm; exact little_any base v l x n hn hl w hb hown

theorem int_any (v : Value) (l : List UInt8) (x : Int) (hl : l.length ≤ 1099511627776) (w : World) (hbs : Bs w v l) :
    Calls Try.prog 12 #[v, .int .i64 x] w fun e w' => ∃ v', e = .returned v' ∧ Own w' w.heap.size v' (l ++ le x 8) ∧ Below w.heap.size w w' := by
  go_enter Try.func12, Try.ntmps12
  go_wp2_with fail
  refine (behind_any v l 8 (by omega) (by omega) hl _ hbs).mono ?_
  rintro e w1 ⟨v1, rfl, ho1, hb1⟩
  have hs1 := hb1.size
  go_wp2_with fail
  refine (little_at w.heap.size v1 l x 8 8 rfl (by omega) hl w1 hs1 ho1).mono ?_
  rintro e w2 ⟨v2, rfl, ho2, hb2⟩
  go_wp2
  go_ret
  exact ⟨_, rfl, ho2, hb1.trans hb2⟩

theorem byte_any (v : Value) (l : List UInt8) (x : Int) (hl : l.length ≤ 1099511627776) (w : World) (hbs : Bs w v l) :
    Calls Try.prog 14 #[v, .int .i64 x] w fun e w' => ∃ v', e = .returned v' ∧ Own w' w.heap.size v' (l ++ le x 1) ∧ Below w.heap.size w w' := by
  go_enter Try.func14, Try.ntmps14
  go_wp2_with fail
  refine (behind_any v l 1 (by omega) (by omega) hl _ hbs).mono ?_
  rintro e w1 ⟨v1, rfl, ho1, hb1⟩
  have hs1 := hb1.size
  go_wp2_with fail
  refine (little_at w.heap.size v1 l x 1 1 rfl (by omega) hl w1 hs1 ho1).mono ?_
  rintro e w2 ⟨v2, rfl, ho2, hb2⟩
  go_wp2
  go_ret
  exact ⟨_, rfl, ho2, hb1.trans hb2⟩

theorem tx_length (s : ByteArray) : (tx s).length = 2 + min s.size 65535 := by
  have : s.data.toList.length = s.size := by rw [Array.length_toList]; rfl
  unfold tx
  rw [List.length_append, le_length, List.length_take, this]
  omega

theorem text_core (v : Value) (l : List UInt8) (s s' : ByteArray) (hs : s'.size ≤ 65535) (hl : l.length ≤ 1073741824) (w : World) (hbs : Bs w v l) (hcut : s'.size = min s.size 65535) (hext : s.extract 0 (min s.size 65535) = s') :
    Calls Try.prog 16 #[v, .string s] w fun e w' => ∃ v', e = .returned v' ∧ Own w' w.heap.size v' (l ++ (le s'.size 2 ++ s'.data.toList)) ∧ Below w.heap.size w w' := by
  obtain ⟨i0, hi, hz0, hz1, hz2⟩ := info_parts Try.infoU8
  by_cases hle : s.size ≤ 65535
  · have hm : min s.size 65535 = s.size := by omega
    rw [hm] at hcut hext
    have he : s.extract 0 s.size = s := by simp
    obtain rfl : s = s' := he.symm.trans hext
    clear he hext hcut hm
    go_enter Try.func16, Try.ntmps16
    go_wp2_with fail
    refine (behind_any v l _ (by omega) (by omega) (by omega) _ hbs).mono ?_
    rintro e w1 ⟨v1, rfl, ho1, hb1⟩
    have hs1 := hb1.size
    go_wp2_with fail
    refine (little_at w.heap.size v1 l _ 2 2 rfl (by omega) (by omega) w1 hs1 ho1).mono ?_
    rintro e w2 ⟨v2, rfl, ho2, hb2⟩
    have hs2 := hb2.size
    have hll := le_length s.size 2
    go_wp2_with (at_builtin; refine Lib.wpList_append_own_string _ rfl _ _ 22 9 rfl w.heap.size 5 i0 Try.underlying22 Try.underlying9 hi hz0 hz1 hz2 _ _ _ rfl ho2.out _ rfl ?c1 ?c2 ?c3 ?_)
    case c1 => simp [maxLen]; omega
    case c2 => simp; omega
    case c3 => omega
    intro v3 w3 ho3 hg3 _
    have hb3 : Below w.heap.size w w3 := (hb1.trans hb2).grown hg3 (by omega) (fun q hq => (ho2.out.lt q hq).1)
    have ho3' : Own w3 w.heap.size v3 (l ++ (le s.size 2 ++ s.data.toList)) := Own.of ho3 (by simp [le_length]; omega) (by rw [strCells_vbs, ← vbs_append, List.append_assoc])
    clear ho3 hg3 ho2 ho1 hb1 hb2
    go_wp2
    go_ret
    exact ⟨_, rfl, ho3', hb3⟩
  · have hm : min s.size 65535 = 65535 := by omega
    rw [hm] at hcut hext
    have hgt : (65535 : Int) < (s.size : Int) := by omega
    go_enter Try.func16, Try.ntmps16
    go_wp2_with fail
    refine (behind_any v l _ (by omega) (by omega) (by omega) _ hbs).mono ?_
    rintro e w1 ⟨v1, rfl, ho1, hb1⟩
    have hs1 := hb1.size
    go_wp2_with fail
    refine (little_at w.heap.size v1 l _ 2 2 rfl (by omega) (by omega) w1 hs1 ho1).mono ?_
    rintro e w2 ⟨v2, rfl, ho2, hb2⟩
    have hs2 := hb2.size
    have hll := le_length 65535 2
    go_wp2_with (at_builtin; refine Lib.wpList_append_own_string _ rfl _ _ 22 9 rfl w.heap.size 5 i0 Try.underlying22 Try.underlying9 hi hz0 hz1 hz2 _ _ _ rfl ho2.out _ rfl ?d1 ?d2 ?d3 ?_)
    case d1 => simp [maxLen]; omega
    case d2 => simp; omega
    case d3 => omega
    intro v3 w3 ho3 hg3 _
    have hb3 : Below w.heap.size w w3 := (hb1.trans hb2).grown hg3 (by omega) (fun q hq => (ho2.out.lt q hq).1)
    have ho3' : Own w3 w.heap.size v3 (l ++ (le s'.size 2 ++ s'.data.toList)) := Own.of ho3 (by simp [le_length]; omega) (by rw [strCells_vbs, ← vbs_append, List.append_assoc, hcut]; rfl)
    clear ho3 hg3 ho2 ho1 hb1 hb2
    go_wp2
    go_ret
    exact ⟨_, rfl, ho3', hb3⟩

theorem text_any (v : Value) (l : List UInt8) (s : ByteArray) (hl : l.length ≤ 1073741824) (w : World) (hbs : Bs w v l) :
    Calls Try.prog 16 #[v, .string s] w fun e w' => ∃ v', e = .returned v' ∧ Own w' w.heap.size v' (l ++ tx s) ∧ Below w.heap.size w w' := by
  have hsz : (s.extract 0 (min s.size 65535)).size = min s.size 65535 := by simp
  have h := text_core v l s _ (by omega) hl w hbs hsz rfl
  have e : le ((s.extract 0 (min s.size 65535)).size : Int) 2 ++ (s.extract 0 (min s.size 65535)).data.toList = tx s := by
    unfold tx
    rw [hsz]
    congr 1
    · congr 1; omega
    · rw [Lib.extract_data, List.drop_zero, List.take_eq_take_iff]
      have : s.data.toList.length = s.size := by rw [Array.length_toList]; rfl
      omega
  rw [e] at h
  exact h
end Go.Proofs.Ytkgdplbkhkafgaa
