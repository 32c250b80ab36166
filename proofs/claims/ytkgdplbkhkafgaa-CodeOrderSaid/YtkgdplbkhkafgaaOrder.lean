/- The walk of the law CodeOrder. -/
import Derived.Test.YtkgdplbkhkafgaaKnown
import Derived.Test.YtkgdplbkhkafgaaOps
namespace Go.Proofs.Ytkgdplbkhkafgaa
open Go.RowKit

theorem order_walk (v : Value) (l : List UInt8) (n m : Int) (s : ByteArray) (w : World) (hbs : Bs w v l) (hs : s.size ≤ maxLen) :
    Calls Try.prog 10 #[v, .int .i64 n, .int .i64 m, .string s] w fun e w' => e = .returned (.bool true) ∧ Below w.heap.size w w' := by
  have hv := hbs
  obtain ⟨ao, cap, rfl, h1, h2, h3, h4⟩ := hv
  clear h3 h4
  unfold maxLen at hs h2
  by_cases hl : (50 : Int) < l.length
  · go_enter Try.func10, Try.ntmps10
    go_wp2_with (go_at_call 11; refine (known_any _).mono ?_; rintro e w1 ⟨rfl, hb1⟩)
    go_ret
    exact ⟨rfl, hb1⟩
  by_cases hl2 : (200 : Int) < s.size
  · go_enter Try.func10, Try.ntmps10
    go_wp2_with (go_at_call 11; refine (known_any _).mono ?_; rintro e w1 ⟨rfl, hb1⟩)
    go_ret
    exact ⟨rfl, hb1⟩
  go_enter Try.func10, Try.ntmps10
  go_wp2_with fail
  refine (known_any _).mono ?_
  rintro e w1 ⟨rfl, hb1⟩
  have hs1 := hb1.size
  have hbs1 := hbs.below hb1
  go_wp2_with (at_builtin; refine wpList_append_bytes rfl _ _ rfl w.heap.size _ _ rfl (Own.empty _ _ ?a1) _ _ rfl (hbs1.below ?a2) ?a3 ?a4 ?_)
  case a1 => omega
  case a2 => exact (Below.refl _ _).alloc (Nat.le_refl _) _
  case a3 => simp; omega
  case a4 => simp; omega
  intro v2 w2 ho2 hg2
  have hb2 : Below w.heap.size w w2 := (Own.empty _ _ (by omega)).step (hb1.alloc hs1 _) hg2 (Nat.le_refl _) (by simp; omega)
  have hs2 := hb2.size
  clear hg2 hbs1 hb1 hs1
  go_wp2_with fail
  refine (int_any _ l _ (by omega) _ ho2.bs).mono ?_
  rintro e w3 ⟨v3, rfl, ho3, hb3⟩
  have hs3 := hb3.size
  have e8 := le_length n 8
  go_wp2_with fail
  refine (byte_any _ (l ++ le n 8) _ (by simp; omega) _ ho3.bs).mono ?_
  rintro e w4 ⟨v4, rfl, ho4, hb4⟩
  have hs4 := hb4.size
  have e1 := le_length m 1
  go_wp2_with fail
  refine (text_any _ (l ++ le n 8 ++ le m 1) _ (by simp; omega) _ ho4.bs).mono ?_
  rintro e w5 ⟨v5, rfl, ho5, hb5⟩
  have hs5 := hb5.size
  have hb : Below w.heap.size w w5 := ((hb2.trans (hb3.mono hs2)).trans (hb4.mono (by omega))).trans (hb5.mono (by omega))
  replace ho5 := ho5.mono (show w.heap.size ≤ w4.heap.size by omega)
  replace hs5 := hb.size
  clear hb2 hb3 hb4 hb5 ho2 ho3 ho4 hs2 hs3 hs4
  have hbs5 := hbs.below hb
  go_wp2_with (at_builtin; refine wpList_append_bytes rfl _ _ rfl w5.heap.size _ _ rfl (Own.empty _ _ ?b1) _ _ rfl (hbs5.below ?b2) ?b3 ?b4 ?_)
  case b1 => omega
  case b2 => exact (Below.refl _ _).alloc (Nat.le_refl _) _
  case b3 => simp; omega
  case b4 => simp
  intro v6 w6 ho6 hg6
  have hb6 : Below w5.heap.size w5 w6 := (Own.empty _ _ (Nat.le_refl _)).step ((Below.refl _ _).alloc (Nat.le_refl _) _) hg6 (Nat.le_refl _) (by simp)
  have hs6 := hb6.size
  clear hbs5 hg6
  go_wp2_with fail
  refine (int_any _ [] _ (by simp) _ (Bs.nil _)).mono ?_
  rintro e w7 ⟨v7, rfl, ho7, hb7⟩
  have hs7 := hb7.size
  have ho6' := ho6.below hb7
  clear ho6
  go_wp2_with (at_builtin; refine wpList_append_bytes rfl _ _ rfl w5.heap.size _ _ rfl ho6' _ _ rfl ho7.bs ?c1 ?c2 ?_)
  case c1 => simp; omega
  case c2 => omega
  intro v8 w8 ho8 hg8
  have hb8 : Below w5.heap.size w5 w8 := ho6'.step (hb6.trans (hb7.mono hs6)) hg8 (Nat.le_refl _) (by omega)
  have hs8 := hb8.size
  clear ho6' ho7 hg8 hb6 hb7 hs6 hs7
  go_wp2_with fail
  refine (byte_any _ [] _ (by simp) _ (Bs.nil _)).mono ?_
  rintro e w9 ⟨v9, rfl, ho9, hb9⟩
  have hs9 := hb9.size
  have ho8' := ho8.below hb9
  clear ho8
  go_wp2_with (at_builtin; refine wpList_append_bytes rfl _ _ rfl w5.heap.size _ _ rfl ho8' _ _ rfl ho9.bs ?d1 ?d2 ?_)
  case d1 => simp; omega
  case d2 => omega
  intro v10 w10 ho10 hg10
  have hb10 : Below w5.heap.size w5 w10 := ho8'.step (hb8.trans (hb9.mono hs8)) hg10 (Nat.le_refl _) (by omega)
  have hs10 := hb10.size
  clear ho8' ho9 hg10 hb8 hb9 hs8 hs9
  go_wp2_with fail
  refine (text_any _ [] _ (by simp) _ (Bs.nil _)).mono ?_
  rintro e w11 ⟨v11, rfl, ho11, hb11⟩
  have hs11 := hb11.size
  have ho10' := ho10.below hb11
  have etx := tx_length s
  clear ho10
  go_wp2_with (at_builtin; refine wpList_append_bytes rfl _ _ rfl w5.heap.size _ _ rfl ho10' _ _ rfl ho11.bs ?e1 ?e2 ?_)
  case e1 => simp; omega
  case e2 => omega
  intro v12 w12 ho12 hg12
  have hb12 : Below w5.heap.size w5 w12 := ho10'.step (hb10.trans (hb11.mono hs10)) hg12 (Nat.le_refl _) (by omega)
  have hs12 := hb12.size
  have ho5' := ho5.below hb12
  clear ho10' ho11 hg12 hb10 hb11 hs10 hs11 ho5
  have hbe := hb.trans (hb12.mono hs5)
  have ex : l ++ (le n 8 ++ (le m 1 ++ tx s)) = l ++ le n 8 ++ le m 1 ++ tx s := by simp
  have hx : Own w12 w5.heap.size v12 (l ++ le n 8 ++ le m 1 ++ tx s) := by simpa using ho12
  clear ho12 ex
  have hlen : (l ++ le n 8 ++ le m 1 ++ tx s).length = l.length + 8 + 1 + (2 + s.size) := by simp only [List.length_append]; omega
  generalize l ++ le n 8 ++ le m 1 ++ tx s = L at *
  obtain ⟨g5, cap5, rfl, -⟩ := ho5'.at (by omega)
  obtain ⟨g12, cap12, rfl, -⟩ := hx.at (by omega)
  have c5 := run_conv_bytes ho5'.bs
  have c12 := run_conv_bytes hx.bs
  obtain ⟨N, hN⟩ : ∃ N, N = L.length := ⟨_, rfl⟩
  rw [← hN] at c5 c12 hlen ⊢
  have hN1 : (N : Int) ≤ l.length + 8 + 1 + 2 + s.size := by omega
  have hN2 : l.length + 8 + 1 + 2 + s.size ≤ (N : Int) := by omega
  have hN3 : ((N : Int) == (l.length : Int) + 8 + 1 + 2 + (s.size : Int)) = true := beq_iff_eq.2 (by omega)
  clear hlen hN ho5' hx etx e8 e1 hb12 hs12 hs5 hb
  go_wp2
  go_ret
  exact ⟨rfl, hbe⟩
end Go.Proofs.Ytkgdplbkhkafgaa
