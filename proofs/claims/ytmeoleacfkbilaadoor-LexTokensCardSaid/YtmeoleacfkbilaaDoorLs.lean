/- Signs: triadref11's rows. -/
import Derived.Test.YtmeoleacfkbilaaDoorLr
namespace Go.Proofs.YtmeoleacfkbilaaDoor
open Go.RowKit Go.Shelf
set_option maxRecDepth 100000
set_option linter.unusedVariables false
set_option linter.unusedSimpArgs false
theorem undot_snoc (y : List UInt8) (c : UInt8) : undot (y ++ [c]) = if c = 46 then undot y else y ++ [c] := by
  unfold undot
  rw [List.reverse_append, List.reverse_singleton, List.singleton_append, List.dropWhile_cons]
  by_cases h : c = 46
  · subst h; simp
  · rw [if_neg (by simpa using h), if_neg h]; simp
def nameZ (l : List UInt8) (i : Nat) : Nat := match nameN11 (l.drop i) with
  | some n => i + n
  | none => 0
theorem nameZ_some {l : List UInt8} {i K : Nat} (hK : K = Wl dashC l i) (h : K < l.length) (hc : l[K] = 58) : nameZ l i = K + 1 + (undot ((l.drop (K + 1)).takeWhile dotC)).length := by
  have ht := (wl_take (p := dashC) (l := l) (i := i)).2
  rw [← hK] at ht
  have hx : (l.drop i).dropWhile dashC = 58 :: l.drop (K + 1) := by rw [← ht, List.drop_eq_getElem_cons h, hc]
  unfold nameZ
  rw [name_dot hx]
  unfold Wl at hK
  show i + _ = _
  omega
theorem nameZ_none {l : List UInt8} {i K : Nat} (hK : K = Wl dashC l i) (hn : ∀ h : K < l.length, l[K] ≠ 58) : nameZ l i = 0 := by
  have ht := (wl_take (p := dashC) (l := l) (i := i)).2
  rw [← hK] at ht
  unfold nameZ
  rw [name_other (fun x hx => by
    rw [← ht] at hx
    have hk : K < l.length := by
      rcases Nat.lt_or_ge K l.length with h | h
      · exact h
      · rw [List.drop_eq_nil_of_le h] at hx; cases hx
    rw [List.drop_eq_getElem_cons hk] at hx
    exact hn hk (List.cons.inj hx).1)]
theorem take_get {p : UInt8 → Bool} {l : List UInt8} {a j : Nat} (hj : j < ((l.drop a).takeWhile p).length) (h : a + j < l.length) : ((l.drop a).takeWhile p)[j] = l[a + j] := by
  have e : (l.drop a).takeWhile p ++ (l.drop a).dropWhile p = l.drop a := List.takeWhile_append_dropWhile
  have h1 : ((l.drop a).takeWhile p ++ (l.drop a).dropWhile p)[j]? = some ((l.drop a).takeWhile p)[j] := by
    rw [List.getElem?_append_left hj, List.getElem?_eq_getElem hj]
  rw [e, List.getElem?_drop, List.getElem?_eq_getElem h] at h1
  exact (Option.some.inj h1).symm
set_option maxHeartbeats 8000000 in
theorem rname (s : ByteArray) (hs : s.size ≤ 1000000) (i : Nat) (hi : i < s.size) (l : List UInt8) (hl : l = s.data.toList) (hil : i < l.length) (hcl : letterC l[i] = true ∨ l[i] = 58) (w : World) :
    Calls Tryd.prog 40 #[.string s, .int .i64 i] w fun e w' => e = .returned (.int .i64 (nameZ l i : Nat)) ∧ w' = w := by
  have hsz : s.size = l.length := by rw [hl, Lib.size_eq]
  have hget : ∀ (i : Nat) (h : i < s.size) (h' : i < l.length), s[i]'h = l[i] := fun i h h' => by subst hl; rfl
  have HW1 := Lib.hid (fun w => rwords s hs i (by omega) true false w)
  have HW2 := Lib.hid (fun k (hk : k ≤ 1000000) w => rwords s hs k hk true true w)
  rw [← hl, cls_dash] at HW1
  simp only [← hl, cls_dot] at HW2
  have HSZ := Lib.hid hsz
  have HGET := Lib.hid hget
  have HS := Lib.hid hs
  have hsi : (s.size : Int) ≤ 1000000 := by omega
  obtain ⟨K, hK⟩ : ∃ K, K = Wl dashC l i := ⟨_, rfl⟩
  rw [← hK] at HW1
  have hkle := wl_le (p := dashC) (l := l) (i := i) (by omega)
  rw [← hK] at hkle
  obtain ⟨Z, hZ⟩ : ∃ z, z = nameZ l i := ⟨_, rfl⟩
  rw [← hZ]
  have HZ := Lib.hid hZ
  have HK := Lib.hid hK
  obtain ⟨c0, hc0⟩ : ∃ c, c = l[i] := ⟨_, rfl⟩
  have hg0 : s[i]'hi = c0 := by rw [hc0]; exact hget i hi hil
  have HL := Lib.hid (fun w => rletter c0 w)
  obtain ⟨b, hb⟩ : ∃ b, b = letterC c0 := ⟨_, rfl⟩
  rw [← hb] at HL
  have HIK := Lib.hid (show b = false → i = K from fun e => by
    rw [hK]
    refine (wl_stop hil ?_).symm
    rw [← hc0] at hcl ⊢
    rcases hcl with h | h
    · rw [← hb, e] at h; cases h
    · rw [h]; rfl)
  have HKL := Lib.hid hkle
  have hii : (i : Int) < s.size := by omega
  have hk0 : (K : Int) ≤ s.size := by omega
  clear hl hsz hget hK hkle hZ hc0 hb hcl
  go_enter Tryd.func40, Tryd.ntmps40
  go_wp2_with fail
  refine (HL.out _).mono ?_
  rintro e w2 ⟨rfl, hw⟩
  obtain rfl := hw.symm
  clear hw
  cases b with
  | true =>
    go_wp2_with fail
    refine (HW1.out _).mono ?_
    rintro e w2 ⟨rfl, hw⟩
    obtain rfl := hw.symm
    clear hw
    by_cases h1 : (K : Int) < s.size
    rotate_left
    · first
        | (exfalso; omega)
        | (have HN := Lib.hid (show Z = 0 from by rw [HZ.out]; exact nameZ_none HK.out (fun h => absurd h (by have := HSZ.out; omega)))
           go_wp2_with fail
           go_ret
           exact ⟨by rw [HN.out]; rfl, rfl⟩)
    have hkn : K < s.size := by omega
    have hkl : K < l.length := by have := HSZ.out; omega
    obtain ⟨c, hc⟩ : ∃ c, c = l[K] := ⟨_, rfl⟩
    have hgk : s[K]'hkn = c := by rw [hc]; exact HGET.out K hkn hkl
    have HC := Lib.hid hc
    clear hc
    try (have hcc : c0 = c := hg0.symm.trans hgk; rw [hcc] at hg0; clear hcc)
    by_cases h58 : c = 58
    rotate_left
    · have hb58 : (((c.toNat : Nat) : Int) == 58) = false := u8_ne 58 rfl h58
      have hn58 : (((c.toNat : Nat) : Int) != 58) = true := by rw [bne, hb58]; rfl
      have HN := Lib.hid (show Z = 0 from by rw [HZ.out]; exact nameZ_none HK.out (fun h e => h58 (HC.out.trans e)))
      clear h58
      go_wp2_with fail
      go_ret
      exact ⟨by rw [HN.out]; rfl, rfl⟩
    have hb58 : (((c.toNat : Nat) : Int) == 58) = true := by rw [h58]; rfl
    have hn58 : (((c.toNat : Nat) : Int) != 58) = false := by rw [h58]; rfl
    have HZ2 := Lib.hid (HZ.out.trans (nameZ_some HK.out hkl (by rw [← HC.out]; exact h58)))
    have H58 := Lib.hid h58
    obtain ⟨K1, hK1⟩ : ∃ k, k = K + 1 := ⟨_, rfl⟩
    have HW3 := Lib.hid (fun w => HW2.out K1 (by have := HS.out; omega) w)
    rw [← hK1] at HZ2
    obtain ⟨X, hX⟩ : ∃ X, X = (l.drop K1).takeWhile dotC := ⟨_, rfl⟩
    rw [← hX] at HZ2
    obtain ⟨M, hM⟩ : ∃ m, m = Wl dotC l K1 := ⟨_, rfl⟩
    rw [← hM] at HW3
    have hMX : M = K1 + X.length := by rw [hM, hX]; rfl
    have hMl : M ≤ l.length := by rw [hM]; exact (wl_le (by omega)).1
    have HGX := Lib.hid (fun j (hj : j < X.length) (h : K1 + j < l.length) => show X[j] = l[K1 + j] from by subst hX; exact take_get hj h)
    have HM := Lib.hid (And.intro hMX hMl)
    have hk1w : (K : Int) + 1 = (K1 : Int) := by omega
    have hwr1 : wrap64 ((K : Int) + 1) = (K1 : Int) := by rw [hk1w]; exact wrap64_nat K1 (Nat.le_trans (show K1 ≤ 1000000 by have := HS.out; omega) (by decide))
    have hwr2 : IntKind.i64.wrap ((K : Int) + 1) = (K1 : Int) := by rw [hk1w]; exact Go.wrap_small _ (Int.natCast_nonneg _) (Int.lt_of_le_of_lt (Int.ofNat_le.2 (show K1 ≤ 1000001 by have := HS.out; omega)) (by decide))
    have HK1 := Lib.hid hK1
    clear h58 hX hM hMX hMl hk1w hwr1 hK1
    go_wp2_with fail
    refine (HW3.out _).mono ?_
    rintro e w2 ⟨rfl, hw⟩
    obtain rfl := hw.symm
    clear hw hwr2
    go_wp2_with fail
    go_loopg [5] (M + 1) (fun g v wx => ∃ k : Nat, K1 ≤ k ∧ k ≤ M ∧ v = .int .i64 k ∧ Z = K1 + (undot (X.take (k - K1))).length ∧ k < g ∧ wx = w)
    case atStart => exact ⟨M, by have := HM.out; omega, Nat.le_refl _, rfl, by rw [HZ2.out, List.take_of_length_le (by have := HM.out; omega)], by omega, rfl⟩
    case round =>
      obtain ⟨k, hk1, hk2, rfl, hZk, hg, rfl⟩ := hrel
      have HMM := HM.out
      have hsl := HSZ.out
      have hK1e := HK1.out
      obtain ⟨k', rfl⟩ : ∃ k', k = k' + 1 := ⟨k - 1, by omega⟩
      have hkn : k' < s.size := by omega
      have hkl2 : k' < l.length := by omega
      have hki : ((k' + 1 : Nat) : Int) ≤ 1000001 := by have := HS.out; omega
      obtain ⟨d, hd⟩ : ∃ c, c = l[k'] := ⟨_, rfl⟩
      have hgd : s[k']'hkn = d := by rw [hd]; exact HGET.out k' hkn hkl2
      have hkm : (((k' + 1 : Nat) : Int) - 1) = (k' : Int) := by omega
      have hkz : (k' : Int) < s.size := by omega
      by_cases h46 : d = 46
      · have hb46 : (((d.toNat : Nat) : Int) == 46) = true := by rw [h46]; rfl
        have hne : K1 ≤ k' := by
          rcases Nat.lt_or_ge k' K1 with h | h
          · exfalso
            have hkk : k' = K := by omega
            subst hkk
            have := HC.out.symm.trans (H58.out)
            rw [← hd, h46] at this
            revert this; decide
          · exact h
        have HN := Lib.hid (show Z = K1 + (undot (X.take (k' - K1))).length from by
          have hj : k' - K1 < X.length := by omega
          have hx := HGX.out (k' - K1) hj (by omega)
          have e : X.take (k' + 1 - K1) = X.take (k' - K1) ++ [46] := by
            rw [show k' + 1 - K1 = (k' - K1) + 1 by omega, List.take_succ_eq_append_getElem hj, hx]
            congr 2
            rw [← h46, hd]
            congr 1
            omega
          rw [hZk, e, undot_snoc, if_pos rfl])
        clear h46 HMM hsl hK1e hZk hd
        go_wp2_with fail
        go_roundg (k' + 1)
        case measure => omega
        case rel => exact ⟨k', hne, by omega, by go_num, HN.out, by omega, rfl⟩
      · have hb46 : (((d.toNat : Nat) : Int) == 46) = false := u8_ne 46 rfl h46
        have HN := Lib.hid (show Z = k' + 1 from by
          rcases Nat.lt_or_ge k' K1 with h | h
          · rw [hZk, show k' + 1 - K1 = 0 by omega, List.take_zero]
            show K1 + 0 = _
            omega
          · have hj : k' - K1 < X.length := by omega
            have hx := HGX.out (k' - K1) hj (by omega)
            have hxd : X[k' - K1] = d := by
              rw [hx, hd]
              congr 1
              omega
            rw [hZk, show k' + 1 - K1 = (k' - K1) + 1 by omega, List.take_succ_eq_append_getElem hj, hxd, undot_snoc, if_neg h46, List.length_append, List.length_take, List.length_singleton]
            omega)
        clear h46 HMM hsl hK1e hZk hd
        go_wp2_with fail
        go_ret
        exact ⟨by rw [HN.out]; first | rfl | (push_cast; rfl), rfl⟩
  | false =>
    obtain rfl := HIK.out rfl
    by_cases h1 : (i : Int) < s.size
    rotate_left
    · first
        | (exfalso; omega)
        | (have HN := Lib.hid (show Z = 0 from by rw [HZ.out]; exact nameZ_none HK.out (fun h => absurd h (by have := HSZ.out; omega)))
           go_wp2_with fail
           go_ret
           exact ⟨by rw [HN.out]; rfl, rfl⟩)
    have hkn : i < s.size := by omega
    have hkl : i < l.length := by have := HSZ.out; omega
    obtain ⟨c, hc⟩ : ∃ c, c = l[i] := ⟨_, rfl⟩
    have hgk : s[i]'hkn = c := by rw [hc]; exact HGET.out i hkn hkl
    have HC := Lib.hid hc
    clear hc
    try (have hcc : c0 = c := hg0.symm.trans hgk; rw [hcc] at hg0; clear hcc)
    by_cases h58 : c = 58
    rotate_left
    · have hb58 : (((c.toNat : Nat) : Int) == 58) = false := u8_ne 58 rfl h58
      have hn58 : (((c.toNat : Nat) : Int) != 58) = true := by rw [bne, hb58]; rfl
      have HN := Lib.hid (show Z = 0 from by rw [HZ.out]; exact nameZ_none HK.out (fun h e => h58 (HC.out.trans e)))
      clear h58
      go_wp2_with fail
      go_ret
      exact ⟨by rw [HN.out]; rfl, rfl⟩
    have hb58 : (((c.toNat : Nat) : Int) == 58) = true := by rw [h58]; rfl
    have hn58 : (((c.toNat : Nat) : Int) != 58) = false := by rw [h58]; rfl
    have HZ2 := Lib.hid (HZ.out.trans (nameZ_some HK.out hkl (by rw [← HC.out]; exact h58)))
    have H58 := Lib.hid h58
    obtain ⟨K1, hK1⟩ : ∃ k, k = i + 1 := ⟨_, rfl⟩
    have HW3 := Lib.hid (fun w => HW2.out K1 (by have := HS.out; omega) w)
    rw [← hK1] at HZ2
    obtain ⟨X, hX⟩ : ∃ X, X = (l.drop K1).takeWhile dotC := ⟨_, rfl⟩
    rw [← hX] at HZ2
    obtain ⟨M, hM⟩ : ∃ m, m = Wl dotC l K1 := ⟨_, rfl⟩
    rw [← hM] at HW3
    have hMX : M = K1 + X.length := by rw [hM, hX]; rfl
    have hMl : M ≤ l.length := by rw [hM]; exact (wl_le (by omega)).1
    have HGX := Lib.hid (fun j (hj : j < X.length) (h : K1 + j < l.length) => show X[j] = l[K1 + j] from by subst hX; exact take_get hj h)
    have HM := Lib.hid (And.intro hMX hMl)
    have hk1w : (i : Int) + 1 = (K1 : Int) := by omega
    have hwr1 : wrap64 ((i : Int) + 1) = (K1 : Int) := by rw [hk1w]; exact wrap64_nat K1 (Nat.le_trans (show K1 ≤ 1000000 by have := HS.out; omega) (by decide))
    have hwr2 : IntKind.i64.wrap ((i : Int) + 1) = (K1 : Int) := by rw [hk1w]; exact Go.wrap_small _ (Int.natCast_nonneg _) (Int.lt_of_le_of_lt (Int.ofNat_le.2 (show K1 ≤ 1000001 by have := HS.out; omega)) (by decide))
    have HK1 := Lib.hid hK1
    clear h58 hX hM hMX hMl hk1w hwr1 hK1
    go_wp2_with fail
    refine (HW3.out _).mono ?_
    rintro e w2 ⟨rfl, hw⟩
    obtain rfl := hw.symm
    clear hw hwr2
    go_wp2_with fail
    go_loopg [5] (M + 1) (fun g v wx => ∃ k : Nat, K1 ≤ k ∧ k ≤ M ∧ v = .int .i64 k ∧ Z = K1 + (undot (X.take (k - K1))).length ∧ k < g ∧ wx = w)
    case atStart => exact ⟨M, by have := HM.out; omega, Nat.le_refl _, rfl, by rw [HZ2.out, List.take_of_length_le (by have := HM.out; omega)], by omega, rfl⟩
    case round =>
      obtain ⟨k, hk1, hk2, rfl, hZk, hg, rfl⟩ := hrel
      have HMM := HM.out
      have hsl := HSZ.out
      have hK1e := HK1.out
      obtain ⟨k', rfl⟩ : ∃ k', k = k' + 1 := ⟨k - 1, by omega⟩
      have hkn : k' < s.size := by omega
      have hkl2 : k' < l.length := by omega
      have hki : ((k' + 1 : Nat) : Int) ≤ 1000001 := by have := HS.out; omega
      obtain ⟨d, hd⟩ : ∃ c, c = l[k'] := ⟨_, rfl⟩
      have hgd : s[k']'hkn = d := by rw [hd]; exact HGET.out k' hkn hkl2
      have hkm : (((k' + 1 : Nat) : Int) - 1) = (k' : Int) := by omega
      have hkz : (k' : Int) < s.size := by omega
      by_cases h46 : d = 46
      · have hb46 : (((d.toNat : Nat) : Int) == 46) = true := by rw [h46]; rfl
        have hne : K1 ≤ k' := by
          rcases Nat.lt_or_ge k' K1 with h | h
          · exfalso
            have hkk : k' = i := by omega
            subst hkk
            have := HC.out.symm.trans (H58.out)
            rw [← hd, h46] at this
            revert this; decide
          · exact h
        have HN := Lib.hid (show Z = K1 + (undot (X.take (k' - K1))).length from by
          have hj : k' - K1 < X.length := by omega
          have hx := HGX.out (k' - K1) hj (by omega)
          have e : X.take (k' + 1 - K1) = X.take (k' - K1) ++ [46] := by
            rw [show k' + 1 - K1 = (k' - K1) + 1 by omega, List.take_succ_eq_append_getElem hj, hx]
            congr 2
            rw [← h46, hd]
            congr 1
            omega
          rw [hZk, e, undot_snoc, if_pos rfl])
        clear h46 HMM hsl hK1e hZk hd
        go_wp2_with fail
        go_roundg (k' + 1)
        case measure => omega
        case rel => exact ⟨k', hne, by omega, by go_num, HN.out, by omega, rfl⟩
      · have hb46 : (((d.toNat : Nat) : Int) == 46) = false := u8_ne 46 rfl h46
        have HN := Lib.hid (show Z = k' + 1 from by
          rcases Nat.lt_or_ge k' K1 with h | h
          · rw [hZk, show k' + 1 - K1 = 0 by omega, List.take_zero]
            show K1 + 0 = _
            omega
          · have hj : k' - K1 < X.length := by omega
            have hx := HGX.out (k' - K1) hj (by omega)
            have hxd : X[k' - K1] = d := by
              rw [hx, hd]
              congr 1
              omega
            rw [hZk, show k' + 1 - K1 = (k' - K1) + 1 by omega, List.take_succ_eq_append_getElem hj, hxd, undot_snoc, if_neg h46, List.length_append, List.length_take, List.length_singleton]
            omega)
        clear h46 HMM hsl hK1e hZk hd
        go_wp2_with fail
        go_ret
        exact ⟨by rw [HN.out]; first | rfl | (push_cast; rfl), rfl⟩
end Go.Proofs.YtmeoleacfkbilaaDoor
