/- Terms, plain: texts and bytes tell terms apart; what was written is read. -/
import Derived.Test.YtpoacgnncinmiaaTq
namespace Go.Proofs.Ytpoacgnncinmiaa
open Go.RowKit
set_option maxRecDepth 100000

theorem quo_cases (c : UInt8) : (∃ a, quo c = [92, a] ∧ (a = 116 ∧ c = 9 ∨ a = 110 ∧ c = 10 ∨ a = 114 ∧ c = 13 ∨ a = 34 ∧ c = 34 ∨ a = 92 ∧ c = 92)) ∨ (quo c = [c] ∧ c ≠ 34 ∧ c ≠ 92) := by
  have hc : ∀ n : UInt8, c.toNat = n.toNat → c = n := fun n h => UInt8.toNat_inj.1 h
  unfold quo
  split
  · exact .inl ⟨116, rfl, .inl ⟨rfl, hc 9 (by assumption)⟩⟩
  split
  · exact .inl ⟨110, rfl, .inr (.inl ⟨rfl, hc 10 (by assumption)⟩)⟩
  split
  · exact .inl ⟨114, rfl, .inr (.inr (.inl ⟨rfl, hc 13 (by assumption)⟩))⟩
  split
  · exact .inl ⟨34, rfl, .inr (.inr (.inr (.inl ⟨rfl, hc 34 (by assumption)⟩)))⟩
  split
  · exact .inl ⟨92, rfl, .inr (.inr (.inr (.inr ⟨rfl, hc 92 (by assumption)⟩)))⟩
  · exact .inr ⟨rfl, by rintro rfl; contradiction, by rintro rfl; contradiction⟩
theorem quo_two {c d : UInt8} {r r' : List UInt8} (h : quo c ++ r = quo d ++ r') : c = d ∧ r = r' := by
  rcases quo_cases c with ⟨a, ha, ha'⟩ | ⟨ha, ha1, ha2⟩ <;> rcases quo_cases d with ⟨b, hb, hb'⟩ | ⟨hb, hb1, hb2⟩
  · rw [ha, hb] at h
    simp at h
    obtain ⟨rfl, rfl⟩ := h
    refine ⟨?_, rfl⟩
    rcases ha' with ⟨h1, rfl⟩ | ⟨h1, rfl⟩ | ⟨h1, rfl⟩ | ⟨h1, rfl⟩ | ⟨h1, rfl⟩ <;> rcases hb' with ⟨h2, rfl⟩ | ⟨h2, rfl⟩ | ⟨h2, rfl⟩ | ⟨h2, rfl⟩ | ⟨h2, rfl⟩ <;> first | rfl | (rw [h1] at h2; exact absurd h2 (by decide))
  · rw [ha, hb] at h
    simp at h
    exact absurd h.1.symm hb2
  · rw [ha, hb] at h
    simp at h
    exact absurd h.1 ha2
  · rw [ha, hb] at h
    simpa using h
theorem quo_end {c : UInt8} {r r' : List UInt8} (h : 34 :: r = quo c ++ r') : False := by
  rcases quo_cases c with ⟨a, ha, -⟩ | ⟨ha, ha1, -⟩
  · rw [ha] at h; simp at h
  · rw [ha] at h; simp at h; exact ha1 h.1.symm
theorem quos_two : ∀ {l l' r r' : List UInt8}, l.flatMap quo ++ 34 :: r = l'.flatMap quo ++ 34 :: r' → l = l' ∧ r = r'
  | [], [], r, r', h => by simpa using h
  | [], d :: t', r, r', h => by
    rw [List.flatMap_cons, List.append_assoc] at h
    exact (quo_end (by simpa using h)).elim
  | c :: t, [], r, r', h => by
    rw [List.flatMap_cons, List.append_assoc] at h
    exact (quo_end (by simpa using h.symm)).elim
  | c :: t, d :: t', r, r', h => by
    rw [List.flatMap_cons, List.flatMap_cons, List.append_assoc, List.append_assoc] at h
    obtain ⟨rfl, h2⟩ := quo_two h
    obtain ⟨rfl, rfl⟩ := quos_two h2
    exact ⟨rfl, rfl⟩
theorem tag_two {s l t s' l' t' : ByteArray} (h1 : l = nob ∨ t = nob) (h2 : l' = nob ∨ t' = nob) (h : tagL ⟨3, s, l, t⟩ = tagL ⟨3, s', l', t'⟩) : l = l' ∧ t = t' := by
  unfold tagL at h
  dsimp only at h
  cases e1 : l.toList.isEmpty <;> cases e2 : l'.toList.isEmpty <;> rw [e1, e2] at h
  · have ht : t = nob := h1.resolve_left (fun h => by rw [h, nob_emp] at e1; cases e1)
    have ht' : t' = nob := h2.resolve_left (fun h => by rw [h, nob_emp] at e2; cases e2)
    simp at h
    exact ⟨ba_ext (by simpa using h), by rw [ht, ht']⟩
  · exfalso
    cases e3 : t'.toList.isEmpty <;> rw [e3] at h <;> simp at h
  · exfalso
    cases e3 : t.toList.isEmpty <;> rw [e3] at h <;> simp at h
  · have hl := (emp_iff l).1 e1
    have hl' := (emp_iff l').1 e2
    refine ⟨by rw [hl, hl'], ?_⟩
    cases e3 : t.toList.isEmpty <;> cases e4 : t'.toList.isEmpty <;> rw [e3, e4] at h <;> simp at h
    · exact ba_ext (by simpa using h)
    · rw [(emp_iff t).1 e3, (emp_iff t').1 e4]
theorem text_two {x y : Tm} (hx : x.Good) (hy : y.Good) (h : textL x = textL y) : x = y := by
  have kx := hx.k
  have ky := hy.k
  obtain ⟨k, s, l, t⟩ := x
  obtain ⟨k', s', l', t'⟩ := y
  dsimp only at kx ky
  unfold textL at h
  dsimp only at h
  rcases kx with ⟨rfl, rfl, rfl⟩ | ⟨rfl, rfl, rfl⟩ | ⟨rfl, hlt⟩ <;> rcases ky with ⟨rfl, rfl, rfl⟩ | ⟨rfl, rfl, rfl⟩ | ⟨rfl, hlt'⟩
  all_goals simp [quoL] at h
  · have : s = s' := ba_ext (by simpa using h)
    rw [this]
  · have : s = s' := ba_ext (by simpa using h)
    rw [this]
  · have h' : s.data.toList.flatMap quo ++ 34 :: tagL ⟨3, s, l, t⟩ = s'.data.toList.flatMap quo ++ 34 :: tagL ⟨3, s', l', t'⟩ := by simpa using h
    obtain ⟨h1, h2⟩ := quos_two h'
    obtain ⟨rfl, rfl⟩ := tag_two hlt hlt' h2
    rw [ba_ext h1]

theorem num_le (x : Int) : ∀ n : Nat, (num (le x n) : Int) = x % 256 ^ n
  | 0 => by simp [num, le, Int.emod_one]
  | n + 1 => by
    have ih := num_le x n
    have hp : (0 : Int) < 256 ^ n := Int.pow_pos (by decide)
    have e : (2 : Int) ^ (8 * n) = 256 ^ n := by rw [Int.pow_mul]; rfl
    rw [le_succ, num_snoc, le_length]
    rw [Int.natCast_add, Int.natCast_mul, Int.natCast_pow, ih, byteOf_toNat, e, Int.pow_succ]
    rw [show (((256 : Nat) : Int)) = 256 from rfl]
    generalize (256 : Int) ^ n = M at *
    have h1 := Int.mul_ediv_add_emod x M
    have h2 := Int.mul_ediv_add_emod (x / M) 256
    have h3 := Int.emod_nonneg x (show M ≠ 0 by omega)
    have h4 := Int.emod_lt_of_pos x hp
    have h5 := Int.emod_nonneg (x / M) (show (256 : Int) ≠ 0 by decide)
    have h6 := Int.emod_lt_of_pos (x / M) (show (0 : Int) < 256 by decide)
    generalize hq : x / M = q at *
    generalize hr : x % M = r at *
    generalize hs : q % 256 = s at *
    generalize ht : q / 256 = t at *
    have hb : M * s ≤ M * 255 := Int.mul_le_mul_of_nonneg_left (by omega) (by omega)
    have hb0 : 0 ≤ M * s := Int.mul_nonneg (by omega) h5
    have hx : x = (r + s * M) + M * 256 * t := by
      rw [← h1, ← h2, Int.mul_add, Int.mul_comm s M, Int.mul_assoc]
      omega
    rw [hx, Int.add_mul_emod_self_left, Int.emod_eq_of_lt]
    · rw [Int.mul_comm s M]; omega
    · rw [Int.mul_comm s M]; omega

theorem num_one (x : Int) : wrap64 (num (le x 1)) = x % 256 := by
  rw [num_le]
  simp only [wrap64]
  omega
theorem took_front (a t : List UInt8) (n : Nat) (h : a.length = n) : tookOf (a ++ t) 0 n = a ∧ leftOf (a ++ t) 0 n = t ∧ errOf (a ++ t) 0 n = 0 := by
  have hn : n ≤ (a ++ t).length := by simp; omega
  rw [took_ok hn, left_ok hn, err_ok hn]
  subst h
  exact ⟨List.take_left, List.drop_left, rfl⟩
/-- what was written is read -/
theorem tx_read (s : ByteArray) (hs : s.size ≤ 65535) (r : List UInt8) : textOf (tx s ++ r) 0 = s.data.toList ∧ textLeft (tx s ++ r) 0 = r ∧ textErr (tx s ++ r) 0 = 0 := by
  have hm : min (s.size : Int) 65535 = s.size := by omega
  have hl : s.data.toList.length = s.size := by simp
  have htx : tx s = le (s.size : Nat) 2 ++ s.data.toList := by
    unfold tx; rw [hm, List.take_of_length_le (by omega)]
  obtain ⟨a1, a2, a3⟩ := took_front (le (s.size : Nat) 2) (s.data.toList ++ r) 2 (le_length _ _)
  have hn : num (le (s.size : Nat) 2) = s.size := by
    have := num_le (s.size : Nat) 2
    have h2 : ((s.size : Nat) : Int) % 256 ^ 2 = s.size := by
      have : (256 : Int) ^ 2 = 65536 := by decide
      rw [this]; omega
    rw [h2] at this
    exact_mod_cast this
  obtain ⟨b1, b2, b3⟩ := took_front s.data.toList r s.size hl
  unfold textOf textLeft textErr
  rw [htx, List.append_assoc, a1, a2, a3, hn]
  exact ⟨b1, b2, b3⟩
theorem byte_read (k : Int) (h0 : 0 ≤ k) (h1 : k < 256) (r : List UInt8) : wrap64 (num (tookOf (le k 1 ++ r) 0 1)) = k ∧ leftOf (le k 1 ++ r) 0 1 = r ∧ errOf (le k 1 ++ r) 0 1 = 0 := by
  obtain ⟨a1, a2, a3⟩ := took_front (le k 1) r 1 (le_length _ _)
  rw [a1, a2, a3, num_one]
  exact ⟨by omega, rfl, rfl⟩
/-- What Parse reads, as raw as it is. -/
def rawT (b : List UInt8) : Tm × Int :=
  let l1 := leftOf b 0 1
  let e1 := errOf b 0 1
  let l2 := textLeft l1 e1
  let e2 := textErr l1 e1
  let l3 := textLeft l2 e2
  let e3 := textErr l2 e2
  (⟨wrap64 (num (tookOf b 0 1)), ⟨(textOf l1 e1).toArray⟩, ⟨(textOf l2 e2).toArray⟩, ⟨(textOf l3 e3).toArray⟩⟩, endOf (textLeft l3 e3) (textErr l3 e3))
theorem raw_enc (x : Tm) (h0 : 0 ≤ x.k) (h1 : x.k < 256) (hs : x.s.size ≤ 65535) (hl : x.l.size ≤ 65535) (ht : x.t.size ≤ 65535) : rawT (encT x) = (x, 0) := by
  obtain ⟨k, s, l, t⟩ := x
  dsimp only at h0 h1 hs hl ht
  unfold rawT encT
  dsimp only
  rw [List.append_assoc, List.append_assoc]
  obtain ⟨a1, a2, a3⟩ := byte_read k h0 h1 (tx s ++ (tx l ++ tx t))
  rw [a1, a2, a3]
  obtain ⟨b1, b2, b3⟩ := tx_read s hs (tx l ++ tx t)
  rw [b1, b2, b3]
  obtain ⟨c1, c2, c3⟩ := tx_read l hl (tx t)
  rw [c1, c2, c3]
  obtain ⟨d1, d2, d3⟩ := tx_read t ht []
  rw [List.append_nil] at d1 d2 d3
  rw [d1, d2, d3]
  rfl
theorem Tm.Good.range {g : Tm} (h : g.Good) : 0 ≤ g.k ∧ g.k < 256 := by
  rcases h.k with ⟨h, -⟩ | ⟨h, -⟩ | ⟨h, -⟩ <;> rw [h] <;> decide
theorem enc_two {x y : Tm} (hx : x.Good) (hy : y.Good) (h : encT x = encT y) : x = y := by
  have h1 := raw_enc x hx.range.1 hx.range.2 (by have := hx.s; omega) (by have := hx.l; omega) (by have := hx.t; omega)
  have h2 := raw_enc y hy.range.1 hy.range.2 (by have := hy.s; omega) (by have := hy.l; omega) (by have := hy.t; omega)
  rw [h, h2] at h1
  exact (congrArg Prod.fst h1).symm
end Go.Proofs.Ytpoacgnncinmiaa
