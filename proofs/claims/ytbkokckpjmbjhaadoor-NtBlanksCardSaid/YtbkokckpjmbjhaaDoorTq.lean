/- Tf; Tq; Tr; Tn; Tm; To -/
import Derived.Test.YtbkokckpjmbjhaaDoorGm
import Derived.Test.YtbkokckpjmbjhaaDoorTj
import Derived.ChangeMaps5
import Derived.Lib.SmallJoins
import Derived.OpenShut
namespace Go.Proofs.YtbkokckpjmbjhaaDoor
open Go.RowKit
set_option maxRecDepth 100000
def encT (x : Tm) : List UInt8 := le x.k 1 ++ tx x.s ++ tx x.l ++ tx x.t
end Go.Proofs.YtbkokckpjmbjhaaDoor
namespace Go.Proofs.YtbkokckpjmbjhaaDoor
open Go.RowKit
set_option maxRecDepth 100000
theorem emp_iff (s : ByteArray) : s.toList.isEmpty = true ↔ s = nob := by
  rw [Lib.toList_data, List.isEmpty_iff]
  constructor
  · intro h; exact ba_ext h
  · rintro rfl; rfl
theorem nob_emp : nob.toList.isEmpty = true := (emp_iff nob).2 rfl
theorem emp_false {s : ByteArray} (h : 0 < s.size) : s.toList.isEmpty = false := by
  cases he : s.toList.isEmpty with
  | false => rfl
  | true => rw [(emp_iff s).1 he] at h; exact absurd h (by decide)
theorem let_all (p : UInt8 → Bool) (hp : ∀ n : Fin 5, p (UInt8.ofNat (97 + n.val)) = true) (s : ByteArray) (n : Nat) : (letL s n).all p = true := by
  unfold letL
  rw [List.all_map, List.all_eq_true]
  intro c _
  exact hp ⟨c.toNat % 5, by omega⟩
/-- A term that may be. -/
structure Tm.Good (g : Tm) : Prop where
  k : (g.k = 1 ∧ g.l = nob ∧ g.t = nob) ∨ (g.k = 2 ∧ g.l = nob ∧ g.t = nob) ∨ (g.k = 3 ∧ (g.l = nob ∨ g.t = nob))
  s : g.s.size ≤ 60
  l : g.l.size ≤ 8
  t : g.t.size ≤ 60
  c : checkOf g = 0
theorem app_size (a b : ByteArray) : (a ++ b).size = a.size + b.size := by rw [Lib.size_eq, ba_app, List.length_append, ← Lib.size_eq, ← Lib.size_eq]
theorem bar_nob (k : Int) (s : ByteArray) : barB ⟨k, s, nob, nob⟩ = true := by unfold barB; rw [nob_emp]; rfl
theorem tag_nob (k : Int) (s : ByteArray) : tagB ⟨k, s, nob, nob⟩ = true := by unfold tagB; dsimp only; rw [nob_emp]; rfl
theorem check_lit3 {s l t : ByteArray} (hs : s.size ≤ 60) (hl : l.size ≤ 8) (ht : t.size ≤ 60) (h : tagB ⟨3, s, l, t⟩ = true) : checkOf ⟨3, s, l, t⟩ = 0 := by
  unfold checkOf
  rw [if_neg (by dsimp only; omega), if_neg (by dsimp only; omega), if_neg (by dsimp only; omega), if_neg (by dsimp only; omega), h]
  rfl
theorem num1_size (n : Int) : (num1 n).size ≤ 60 := by unfold num1; repeat' split
                                                       all_goals decide
theorem num2_size (n : Int) : (num2 n).size ≤ 60 := by unfold num2; repeat' split
                                                       all_goals decide
theorem sub_size (s : ByteArray) : (s.extract 0 (min s.size 60)).size ≤ 60 := by
  rw [Lib.size_eq, Lib.extract_data, List.length_take]; omega
theorem ref_xdec : refB xdec = true := by
  unfold refB; rw [emp_false (by decide)]; decide
theorem ref_xint : refB xint = true := by
  unfold refB; rw [emp_false (by decide)]; decide
theorem good_good (x : Tm) : (goodT x).Good := by
  unfold goodT
  have z8 := letL_size x.s 8
  have z5 := letL_size x.s 5
  have z4 := letL_size x.l 4
  have z6 := letL_size x.t 6
  have n0 : nob.size = 0 := rfl
  split
  · have hsz : (⟨#[104, 116, 116, 112, 58, 47, 47, 120, 47]⟩ ++ bl (letL x.s 8) : ByteArray).size = 9 + (bl (letL x.s 8)).size := app_size _ _
    refine ⟨.inl ⟨rfl, rfl, rfl⟩, by dsimp only; omega, by dsimp only; omega, by dsimp only; omega, ?_⟩
    unfold checkOf
    rw [if_neg (by dsimp only; omega), if_neg (by dsimp only; omega), if_pos rfl, bar_nob]
    have : refB (⟨#[104, 116, 116, 112, 58, 47, 47, 120, 47]⟩ ++ bl (letL x.s 8)) = true := by
      unfold refB
      rw [emp_false (by omega), ba_app, List.all_append, bl_toList, let_all sgn (by decide)]
      decide
    dsimp only
    rw [this]
    rfl
  split
  · have hsz : (⟨#[98]⟩ ++ bl (letL x.s 5) : ByteArray).size = 1 + (bl (letL x.s 5)).size := app_size _ _
    refine ⟨.inr (.inl ⟨rfl, rfl, rfl⟩), by dsimp only; omega, by dsimp only; omega, by dsimp only; omega, ?_⟩
    unfold checkOf
    rw [if_neg (by dsimp only; omega), if_neg (by dsimp only; omega), if_neg (by dsimp only; omega), if_pos rfl, bar_nob]
    have : labB (⟨#[98]⟩ ++ bl (letL x.s 5)) = true := by
      unfold labB
      rw [emp_false (by omega), ba_app, List.all_append, bl_toList, let_all wrd (by decide), decide_eq_true (by omega)]
      decide
    dsimp only
    rw [this]
    rfl
  split
  · have hsz : (⟨#[108]⟩ ++ bl (letL x.l 4) : ByteArray).size = 1 + (bl (letL x.l 4)).size := app_size _ _
    refine ⟨.inr (.inr ⟨rfl, .inr rfl⟩), sub_size _, by dsimp only; omega, by dsimp only; omega, check_lit3 (sub_size _) (by omega) (by omega) ?_⟩
    unfold tagB
    dsimp only
    rw [emp_false (by omega), nob_emp]
    have : lanB (⟨#[108]⟩ ++ bl (letL x.l 4)) = true := by
      unfold lanB
      rw [ba_app, List.all_append, bl_toList, let_all lng (by decide)]
      simp [Lib.hasPrefix, List.isPrefixOf, lng, sml]
    rw [this]
    rfl
  split
  · have hsz : (⟨#[116, 58]⟩ ++ bl (letL x.t 6) : ByteArray).size = 2 + (bl (letL x.t 6)).size := app_size _ _
    refine ⟨.inr (.inr ⟨rfl, .inl rfl⟩), sub_size _, by dsimp only; omega, by dsimp only; omega, check_lit3 (sub_size _) (by omega) (by omega) ?_⟩
    unfold tagB
    dsimp only
    rw [emp_false (s := ⟨#[116, 58]⟩ ++ bl (letL x.t 6)) (by omega), nob_emp]
    have : refB (⟨#[116, 58]⟩ ++ bl (letL x.t 6)) = true := by
      unfold refB
      rw [emp_false (by omega), ba_app, List.all_append, bl_toList, let_all sgn (by decide)]
      decide
    rw [this]
    rfl
  split
  · refine ⟨.inr (.inr ⟨rfl, .inl rfl⟩), num1_size _, by dsimp only; decide, by dsimp only; decide, check_lit3 (num1_size _) (by decide) (by decide) ?_⟩
    unfold tagB
    dsimp only
    rw [nob_emp, ref_xdec]
    simp
  split
  · refine ⟨.inr (.inr ⟨rfl, .inl rfl⟩), num2_size _, by dsimp only; decide, by dsimp only; decide, check_lit3 (num2_size _) (by decide) (by decide) ?_⟩
    unfold tagB
    dsimp only
    rw [nob_emp, ref_xint]
    simp
  · exact ⟨.inr (.inr ⟨rfl, .inl rfl⟩), sub_size _, by dsimp only; decide, by dsimp only; decide, check_lit3 (sub_size _) (by decide) (by decide) (tag_nob _ _)⟩
end Go.Proofs.YtbkokckpjmbjhaaDoor
namespace Go.Proofs.YtbkokckpjmbjhaaDoor
open Go.RowKit
set_option maxRecDepth 100000
theorem quo_cases (c : UInt8) : (∃ a, quo c = [92, a] ∧ (a = 116 ∧ c = 9 ∨ a = 110 ∧ c = 10 ∨ a = 114 ∧ c = 13 ∨ a = 34 ∧ c = 34 ∨ a = 92 ∧ c = 92)) ∨ (quo c = [c] ∧ c ≠ 34 ∧ c ≠ 92) := by
  have hc : ∀ n : UInt8, c.toNat = n.toNat → c = n := fun n h => UInt8.toNat_inj.1 h
  unfold quo
  split
  · exact .inl ⟨116, rfl, .inl ⟨rfl, hc 9 (by assumption)⟩⟩
  split
  · exact .inl ⟨110, rfl, .inr (.inl ⟨rfl, hc 10 (by assumption)⟩)⟩
  split
  · exact .inl ⟨114, rfl, .inr (.inr (.inl ⟨rfl, hc 13 (by assumption)⟩))⟩
  split
  · exact .inl ⟨34, rfl, .inr (.inr (.inr (.inl ⟨rfl, hc 34 (by assumption)⟩)))⟩
  split
  · exact .inl ⟨92, rfl, .inr (.inr (.inr (.inr ⟨rfl, hc 92 (by assumption)⟩)))⟩
  · exact .inr ⟨rfl, by rintro rfl; contradiction, by rintro rfl; contradiction⟩
theorem quo_two {c d : UInt8} {r r' : List UInt8} (h : quo c ++ r = quo d ++ r') : c = d ∧ r = r' := by
  rcases quo_cases c with ⟨a, ha, ha'⟩ | ⟨ha, ha1, ha2⟩ <;> rcases quo_cases d with ⟨b, hb, hb'⟩ | ⟨hb, hb1, hb2⟩
  · rw [ha, hb] at h
    simp at h
    obtain ⟨rfl, rfl⟩ := h
    refine ⟨?_, rfl⟩
    rcases ha' with ⟨h1, rfl⟩ | ⟨h1, rfl⟩ | ⟨h1, rfl⟩ | ⟨h1, rfl⟩ | ⟨h1, rfl⟩ <;> rcases hb' with ⟨h2, rfl⟩ | ⟨h2, rfl⟩ | ⟨h2, rfl⟩ | ⟨h2, rfl⟩ | ⟨h2, rfl⟩ <;> first | rfl | (rw [h1] at h2; exact absurd h2 (by decide))
  · rw [ha, hb] at h
    simp at h
    exact absurd h.1.symm hb2
  · rw [ha, hb] at h
    simp at h
    exact absurd h.1 ha2
  · rw [ha, hb] at h
    simpa using h
theorem quo_end {c : UInt8} {r r' : List UInt8} (h : 34 :: r = quo c ++ r') : False := by
  rcases quo_cases c with ⟨a, ha, -⟩ | ⟨ha, ha1, -⟩
  · rw [ha] at h; simp at h
  · rw [ha] at h; simp at h; exact ha1 h.1.symm
theorem quos_two : ∀ {l l' r r' : List UInt8}, l.flatMap quo ++ 34 :: r = l'.flatMap quo ++ 34 :: r' → l = l' ∧ r = r'
  | [], [], r, r', h => by simpa using h
  | [], d :: t', r, r', h => by
    rw [List.flatMap_cons, List.append_assoc] at h
    exact (quo_end (by simpa using h)).elim
  | c :: t, [], r, r', h => by
    rw [List.flatMap_cons, List.append_assoc] at h
    exact (quo_end (by simpa using h.symm)).elim
  | c :: t, d :: t', r, r', h => by
    rw [List.flatMap_cons, List.flatMap_cons, List.append_assoc, List.append_assoc] at h
    obtain ⟨rfl, h2⟩ := quo_two h
    obtain ⟨rfl, rfl⟩ := quos_two h2
    exact ⟨rfl, rfl⟩
theorem tag_two {s l t s' l' t' : ByteArray} (h1 : l = nob ∨ t = nob) (h2 : l' = nob ∨ t' = nob) (h : tagL ⟨3, s, l, t⟩ = tagL ⟨3, s', l', t'⟩) : l = l' ∧ t = t' := by
  unfold tagL at h
  dsimp only at h
  cases e1 : l.toList.isEmpty <;> cases e2 : l'.toList.isEmpty <;> rw [e1, e2] at h
  · have ht : t = nob := h1.resolve_left (fun h => by rw [h, nob_emp] at e1; cases e1)
    have ht' : t' = nob := h2.resolve_left (fun h => by rw [h, nob_emp] at e2; cases e2)
    simp at h
    exact ⟨ba_ext (by simpa using h), by rw [ht, ht']⟩
  · exfalso
    cases e3 : t'.toList.isEmpty <;> rw [e3] at h <;> simp at h
  · exfalso
    cases e3 : t.toList.isEmpty <;> rw [e3] at h <;> simp at h
  · have hl := (emp_iff l).1 e1
    have hl' := (emp_iff l').1 e2
    refine ⟨by rw [hl, hl'], ?_⟩
    cases e3 : t.toList.isEmpty <;> cases e4 : t'.toList.isEmpty <;> rw [e3, e4] at h <;> simp at h
    · exact ba_ext (by simpa using h)
    · rw [(emp_iff t).1 e3, (emp_iff t').1 e4]
theorem text_two {x y : Tm} (hx : x.Good) (hy : y.Good) (h : textL x = textL y) : x = y := by
  have kx := hx.k
  have ky := hy.k
  obtain ⟨k, s, l, t⟩ := x
  obtain ⟨k', s', l', t'⟩ := y
  dsimp only at kx ky
  unfold textL at h
  dsimp only at h
  rcases kx with ⟨rfl, rfl, rfl⟩ | ⟨rfl, rfl, rfl⟩ | ⟨rfl, hlt⟩ <;> rcases ky with ⟨rfl, rfl, rfl⟩ | ⟨rfl, rfl, rfl⟩ | ⟨rfl, hlt'⟩
  all_goals simp [quoL] at h
  · have : s = s' := ba_ext (by simpa using h)
    rw [this]
  · have : s = s' := ba_ext (by simpa using h)
    rw [this]
  · have h' : s.data.toList.flatMap quo ++ 34 :: tagL ⟨3, s, l, t⟩ = s'.data.toList.flatMap quo ++ 34 :: tagL ⟨3, s', l', t'⟩ := by simpa using h
    obtain ⟨h1, h2⟩ := quos_two h'
    obtain ⟨rfl, rfl⟩ := tag_two hlt hlt' h2
    rw [ba_ext h1]
theorem tnum_le (x : Int) : ∀ n : Nat, (num (le x n) : Int) = x % 256 ^ n
  | 0 => by simp [num, le, Int.emod_one]
  | n + 1 => by
    have ih := tnum_le x n
    have hp : (0 : Int) < 256 ^ n := Int.pow_pos (by decide)
    have e : (2 : Int) ^ (8 * n) = 256 ^ n := by rw [Int.pow_mul]; rfl
    rw [le_succ, num_snoc, le_length]
    rw [Int.natCast_add, Int.natCast_mul, Int.natCast_pow, ih, byteOf_toNat, e, Int.pow_succ]
    rw [show (((256 : Nat) : Int)) = 256 from rfl]
    generalize (256 : Int) ^ n = M at *
    have h1 := Int.mul_ediv_add_emod x M
    have h2 := Int.mul_ediv_add_emod (x / M) 256
    have h3 := Int.emod_nonneg x (show M ≠ 0 by omega)
    have h4 := Int.emod_lt_of_pos x hp
    have h5 := Int.emod_nonneg (x / M) (show (256 : Int) ≠ 0 by decide)
    have h6 := Int.emod_lt_of_pos (x / M) (show (0 : Int) < 256 by decide)
    generalize hq : x / M = q at *
    generalize hr : x % M = r at *
    generalize hs : q % 256 = s at *
    generalize ht : q / 256 = t at *
    have hb : M * s ≤ M * 255 := Int.mul_le_mul_of_nonneg_left (by omega) (by omega)
    have hb0 : 0 ≤ M * s := Int.mul_nonneg (by omega) h5
    have hx : x = (r + s * M) + M * 256 * t := by
      rw [← h1, ← h2, Int.mul_add, Int.mul_comm s M, Int.mul_assoc]
      omega
    rw [hx, Int.add_mul_emod_self_left, Int.emod_eq_of_lt]
    · rw [Int.mul_comm s M]; omega
    · rw [Int.mul_comm s M]; omega
theorem tnum_one (x : Int) : wrap64 (num (le x 1)) = x % 256 := by
  rw [tnum_le]
  simp only [wrap64]
  omega
theorem ttook_front (a t : List UInt8) (n : Nat) (h : a.length = n) : tookOf (a ++ t) 0 n = a ∧ leftOf (a ++ t) 0 n = t ∧ errOf (a ++ t) 0 n = 0 := by
  have hn : n ≤ (a ++ t).length := by simp; omega
  rw [took_ok hn, left_ok hn, err_ok hn]
  subst h
  exact ⟨List.take_left, List.drop_left, rfl⟩
/-- what was written is read -/
theorem tx_read (s : ByteArray) (hs : s.size ≤ 65535) (r : List UInt8) : textOf (tx s ++ r) 0 = s.data.toList ∧ textLeft (tx s ++ r) 0 = r ∧ textErr (tx s ++ r) 0 = 0 := by
  have hm : min (s.size : Int) 65535 = s.size := by omega
  have hl : s.data.toList.length = s.size := by simp
  have htx : tx s = le (s.size : Nat) 2 ++ s.data.toList := by
    unfold tx; rw [hm, List.take_of_length_le (by omega)]
  obtain ⟨a1, a2, a3⟩ := ttook_front (le (s.size : Nat) 2) (s.data.toList ++ r) 2 (le_length _ _)
  have hn : num (le (s.size : Nat) 2) = s.size := by
    have := tnum_le (s.size : Nat) 2
    have h2 : ((s.size : Nat) : Int) % 256 ^ 2 = s.size := by
      have : (256 : Int) ^ 2 = 65536 := by decide
      rw [this]; omega
    rw [h2] at this
    exact_mod_cast this
  obtain ⟨b1, b2, b3⟩ := ttook_front s.data.toList r s.size hl
  unfold textOf textLeft textErr
  rw [htx, List.append_assoc, a1, a2, a3, hn]
  exact ⟨b1, b2, b3⟩
theorem byte_read (k : Int) (h0 : 0 ≤ k) (h1 : k < 256) (r : List UInt8) : wrap64 (num (tookOf (le k 1 ++ r) 0 1)) = k ∧ leftOf (le k 1 ++ r) 0 1 = r ∧ errOf (le k 1 ++ r) 0 1 = 0 := by
  obtain ⟨a1, a2, a3⟩ := ttook_front (le k 1) r 1 (le_length _ _)
  rw [a1, a2, a3, tnum_one]
  exact ⟨by omega, rfl, rfl⟩
/-- What Parse reads, as raw as it is. -/
def rawT (b : List UInt8) : Tm × Int :=
  let l1 := leftOf b 0 1
  let e1 := errOf b 0 1
  let l2 := textLeft l1 e1
  let e2 := textErr l1 e1
  let l3 := textLeft l2 e2
  let e3 := textErr l2 e2
  (⟨wrap64 (num (tookOf b 0 1)), ⟨(textOf l1 e1).toArray⟩, ⟨(textOf l2 e2).toArray⟩, ⟨(textOf l3 e3).toArray⟩⟩, endOf (textLeft l3 e3) (textErr l3 e3))
theorem raw_enc (x : Tm) (h0 : 0 ≤ x.k) (h1 : x.k < 256) (hs : x.s.size ≤ 65535) (hl : x.l.size ≤ 65535) (ht : x.t.size ≤ 65535) : rawT (encT x) = (x, 0) := by
  obtain ⟨k, s, l, t⟩ := x
  dsimp only at h0 h1 hs hl ht
  unfold rawT encT
  dsimp only
  rw [List.append_assoc, List.append_assoc]
  obtain ⟨a1, a2, a3⟩ := byte_read k h0 h1 (tx s ++ (tx l ++ tx t))
  rw [a1, a2, a3]
  obtain ⟨b1, b2, b3⟩ := tx_read s hs (tx l ++ tx t)
  rw [b1, b2, b3]
  obtain ⟨c1, c2, c3⟩ := tx_read l hl (tx t)
  rw [c1, c2, c3]
  obtain ⟨d1, d2, d3⟩ := tx_read t ht []
  rw [List.append_nil] at d1 d2 d3
  rw [d1, d2, d3]
  rfl
theorem Tm.Good.range {g : Tm} (h : g.Good) : 0 ≤ g.k ∧ g.k < 256 := by
  rcases h.k with ⟨h, -⟩ | ⟨h, -⟩ | ⟨h, -⟩ <;> rw [h] <;> decide
theorem enc_two {x y : Tm} (hx : x.Good) (hy : y.Good) (h : encT x = encT y) : x = y := by
  have h1 := raw_enc x hx.range.1 hx.range.2 (by have := hx.s; omega) (by have := hx.l; omega) (by have := hx.t; omega)
  have h2 := raw_enc y hy.range.1 hy.range.2 (by have := hy.s; omega) (by have := hy.l; omega) (by have := hy.t; omega)
  rw [h, h2] at h1
  exact (congrArg Prod.fst h1).symm
end Go.Proofs.YtbkokckpjmbjhaaDoor
namespace Go.Proofs.YtbkokckpjmbjhaaDoor
open Go.RowKit
set_option maxRecDepth 100000
/-- A term in a block; one that may be written. -/
def Box (W : World) (b : Nat) (x : Tm) : Prop := W.cell? ⟨b, 0, none⟩ = some (.int .i64 x.k) ∧ W.cell? ⟨b, 1, none⟩ = some (.string x.s) ∧ W.cell? ⟨b, 2, none⟩ = some (.string x.l) ∧ W.cell? ⟨b, 3, none⟩ = some (.string x.t)
theorem Box.lt {W : World} {b : Nat} {x : Tm} (h : Box W b x) : b < W.heap.size := World.block_lt_of_cell? W _ h.1
theorem Box.below {W W' : World} {b : Nat} {x : Tm} (h : Box W b x) (hb : Below W.heap.size W W') : Box W' b x :=
  ⟨(hb.cell (p := ⟨b, 0, none⟩) h.lt).trans h.1, (hb.cell (p := ⟨b, 1, none⟩) h.lt).trans h.2.1, (hb.cell (p := ⟨b, 2, none⟩) h.lt).trans h.2.2.1, (hb.cell (p := ⟨b, 3, none⟩) h.lt).trans h.2.2.2⟩
def Mine (W : World) (b : Nat) (x : Tm) : Prop := Box W b x ∧ W.frozen? ⟨b, 0, none⟩ = false ∧ W.frozen? ⟨b, 1, none⟩ = false ∧ W.frozen? ⟨b, 2, none⟩ = false ∧ W.frozen? ⟨b, 3, none⟩ = false
theorem Mine.below {W W' : World} {b : Nat} {x : Tm} (h : Mine W b x) (hb : Below W.heap.size W W') : Mine W' b x :=
  ⟨h.1.below hb, (hb.frozen (p := ⟨b, 0, none⟩) h.1.lt).trans h.2.1, (hb.frozen (p := ⟨b, 1, none⟩) h.1.lt).trans h.2.2.1, (hb.frozen (p := ⟨b, 2, none⟩) h.1.lt).trans h.2.2.2.1, (hb.frozen (p := ⟨b, 3, none⟩) h.1.lt).trans h.2.2.2.2⟩
theorem Mine.new (W : World) : Mine (W.alloc (.cells #[.int .i64 0, .string ⟨#[]⟩, .string ⟨#[]⟩, .string ⟨#[]⟩] 31)) W.heap.size ⟨0, ⟨#[]⟩, ⟨#[]⟩, ⟨#[]⟩⟩ := by
  refine ⟨⟨?_, ?_, ?_, ?_⟩, ?_, ?_, ?_, ?_⟩ <;> simp
/-- x stored in block p. -/
def stored (W : World) (p : Nat) (x : Tm) : World := (((W.setCell ⟨p, 0, none⟩ (.int .i64 x.k)).setCell ⟨p, 1, none⟩ (.string x.s)).setCell ⟨p, 2, none⟩ (.string x.l)).setCell ⟨p, 3, none⟩ (.string x.t)
theorem cell_of_set {W : World} {a b : Addr} {v u : Value} (h : W.cell? b = some u) : (W.setCell a v).cell? b = some (if a = b then v else u) := by
  by_cases e : a = b
  · subst e; rw [if_pos rfl]; exact World.cell?_setCell_same W _ _ h
  · rw [if_neg e]; exact (World.cell?_setCell_other W _ _ _ e).trans h
theorem Mine.set {W : World} {p : Nat} {z : Tm} (h : Mine W p z) (x : Tm) : Mine ((((W.setCell ⟨p, 0, none⟩ (.int .i64 x.k)).setCell ⟨p, 1, none⟩ (.string x.s)).setCell ⟨p, 2, none⟩ (.string x.l)).setCell ⟨p, 3, none⟩ (.string x.t)) p x := by
  obtain ⟨⟨c0, c1, c2, c3⟩, f0, f1, f2, f3⟩ := h
  refine ⟨⟨?_, ?_, ?_, ?_⟩, ?_, ?_, ?_, ?_⟩
  · rw [cell_of_set (cell_of_set (cell_of_set (cell_of_set c0)))]; simp
  · rw [cell_of_set (cell_of_set (cell_of_set (cell_of_set c1)))]; simp
  · rw [cell_of_set (cell_of_set (cell_of_set (cell_of_set c2)))]; simp
  · rw [cell_of_set (cell_of_set (cell_of_set (cell_of_set c3)))]; simp
  all_goals (rw [World.frozen?_setCell, World.frozen?_setCell, World.frozen?_setCell, World.frozen?_setCell]; assumption)
theorem Box.other {W : World} {p q : Nat} {x y : Tm} (h : Box W q y) (hne : p ≠ q) : Box ((((W.setCell ⟨p, 0, none⟩ (.int .i64 x.k)).setCell ⟨p, 1, none⟩ (.string x.s)).setCell ⟨p, 2, none⟩ (.string x.l)).setCell ⟨p, 3, none⟩ (.string x.t)) q y := by
  obtain ⟨c0, c1, c2, c3⟩ := h
  refine ⟨?_, ?_, ?_, ?_⟩
  · rw [cell_of_set (cell_of_set (cell_of_set (cell_of_set c0)))]; simp
  · rw [cell_of_set (cell_of_set (cell_of_set (cell_of_set c1)))]; simp
  · rw [cell_of_set (cell_of_set (cell_of_set (cell_of_set c2)))]; simp
  · rw [cell_of_set (cell_of_set (cell_of_set (cell_of_set c3)))]; simp
theorem Mine.other {W : World} {p q : Nat} {x y : Tm} (h : Mine W q y) (hne : p ≠ q) : Mine ((((W.setCell ⟨p, 0, none⟩ (.int .i64 x.k)).setCell ⟨p, 1, none⟩ (.string x.s)).setCell ⟨p, 2, none⟩ (.string x.l)).setCell ⟨p, 3, none⟩ (.string x.t)) q y := by
  refine ⟨h.1.other hne, ?_, ?_, ?_, ?_⟩
  all_goals rw [World.frozen?_setCell, World.frozen?_setCell, World.frozen?_setCell, World.frozen?_setCell]
  · exact h.2.1
  · exact h.2.2.1
  · exact h.2.2.2.1
  · exact h.2.2.2.2
theorem Mine.belowSet {W : World} {p B : Nat} {z : Tm} (_ : Mine W p z) (x : Tm) (hB : B + 2 ≤ p) : Below B W ((((W.setCell ⟨p, 0, none⟩ (.int .i64 x.k)).setCell ⟨p, 1, none⟩ (.string x.s)).setCell ⟨p, 2, none⟩ (.string x.l)).setCell ⟨p, 3, none⟩ (.string x.t)) :=
  ((((Below.refl _ _).setCell (by show B ≤ p; omega) _).setCell (by show B ≤ p; omega) _).setCell (by show B ≤ p; omega) _).setCell (by show B ≤ p; omega) _
end Go.Proofs.YtbkokckpjmbjhaaDoor
namespace Go.Proofs.YtbkokckpjmbjhaaDoor
open Go.RowKit
set_option maxRecDepth 100000
theorem known_text : bl (textL ⟨3, ⟨#[97]⟩, ⟨#[101, 110]⟩, ⟨#[]⟩⟩) = ⟨#[34, 97, 34, 64, 101, 110]⟩ := by
  unfold textL tagL
  simp only [Lib.toList_data]
  rfl
end Go.Proofs.YtbkokckpjmbjhaaDoor
namespace Go.Proofs.YtbkokckpjmbjhaaDoor
open Go.RowKit Go.ChangeShapes Go.WideShapes
set_option maxRecDepth 100000
theorem open_term {H : Type} {enc : TypeId × Value → H} {w : World} {base : Nat} {sp : Nat → Bool} {held : Bool} {r : Reach} {b0 : Nat} {v : Value} {d : DataW H} {ps : List MemPlace}
    (hv : Value.okWide Tryd.prog w r b0 31 v) (h : DataW.Trod enc Tryd.prog w base sp held 31 v d ps) : ∃ x : Tm, v = x.val ∧ ps = [] ∧ x.Ok := by
  obtain ⟨u0, u1, u2, u3, y0, y1, y2, y3, n, rfl, -, rfl, g0, g1, g2, g3⟩ := Go.Joins.open_agg4 Tryd.underlying31 (by kernel_rfl) (by kernel_rfl) hv h
  obtain ⟨k, e0, rfl, hk⟩ := DataW.trod_int Tryd.underlying3 g0
  obtain ⟨s, e1, rfl, hs⟩ := DataW.trod_string Tryd.underlying9 g1
  obtain ⟨l, e2, rfl, hl⟩ := DataW.trod_string Tryd.underlying9 g2
  obtain ⟨t, e3, rfl, ht⟩ := DataW.trod_string Tryd.underlying9 g3
  simp only [List.cons.injEq, and_true] at e0 e1 e2 e3
  subst e0 e1 e2 e3
  exact ⟨⟨k, s, l, t⟩, rfl, rfl, ⟨hk, hs, hl, ht⟩⟩
end Go.Proofs.YtbkokckpjmbjhaaDoor
