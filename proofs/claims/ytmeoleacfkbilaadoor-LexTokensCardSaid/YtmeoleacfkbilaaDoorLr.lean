/- Signs: triadref11's rows. -/
import Derived.Test.YtmeoleacfkbilaaDoorLq
namespace Go.Proofs.YtmeoleacfkbilaaDoor
open Go.RowKit Go.Shelf
set_option maxRecDepth 100000
set_option linter.unusedVariables false
set_option linter.unusedSimpArgs false
theorem num_yes {l : List UInt8} {i K : Nat} (hK : K = Wl digitC l i) (h : K + 1 < l.length) (h46 : l[K] = 46) (hd : digitC l[K + 1] = true) : i + numN (l.drop i) = Wl digitC l (K + 1) := by
  have ht := (wl_take (p := digitC) (l := l) (i := i)).2
  rw [← hK] at ht
  have hx : (l.drop i).dropWhile digitC = 46 :: l.drop (K + 1) := by rw [← ht, List.drop_eq_getElem_cons (by omega), h46]
  rw [numN_dot hx]
  have hne : (l.drop (K + 1)).takeWhile digitC ≠ [] := by
    rw [List.drop_eq_getElem_cons h, List.takeWhile_cons, hd]; simp
  rw [if_neg hne]
  unfold Wl at hK ⊢
  omega
theorem num_no {l : List UInt8} {i K : Nat} (hK : K = Wl digitC l i) (hn : ∀ h : K + 1 < l.length, l[K] = 46 → digitC l[K + 1] = false) : i + numN (l.drop i) = K := by
  have ht := (wl_take (p := digitC) (l := l) (i := i)).2
  rw [← hK] at ht
  have hlen : i + ((l.drop i).takeWhile digitC).length = K := by rw [hK]; rfl
  by_cases hx : ∃ x, (l.drop i).dropWhile digitC = 46 :: x
  · obtain ⟨x, hx⟩ := hx
    rw [numN_dot hx]
    have hk : K < l.length := by
      rcases Nat.lt_or_ge K l.length with h | h
      · exact h
      · rw [List.drop_eq_nil_of_le h] at ht; rw [← ht] at hx; cases hx
    have e := ht
    rw [hx, List.drop_eq_getElem_cons hk] at e
    have e1 : l[K] = 46 := (List.cons.inj e).1
    have e2 : l.drop (K + 1) = x := (List.cons.inj e).2
    have hne : x.takeWhile digitC = [] := by
      rw [← e2]
      rcases Nat.lt_or_ge (K + 1) l.length with h | h
      · rw [List.drop_eq_getElem_cons h, List.takeWhile_cons, hn h e1]; simp
      · rw [List.drop_eq_nil_of_le h]; rfl
    rw [if_pos hne]; exact hlen
  · rw [numN_other (fun x h => hx ⟨x, h⟩)]; exact hlen
set_option maxHeartbeats 8000000 in
theorem rnumber (s : ByteArray) (hs : s.size ≤ 1000000) (i : Nat) (hi : i ≤ 1000000) (w : World) :
    Calls Tryd.prog 39 #[.string s, .int .i64 i] w fun e w' => e = .returned (.int .i64 (i + numN (s.data.toList.drop i) : Nat)) ∧ w' = w := by
  obtain ⟨l, hl⟩ : ∃ l, l = s.data.toList := ⟨_, rfl⟩
  have hsz : s.size = l.length := by rw [hl, Lib.size_eq]
  have hget : ∀ (i : Nat) (h : i < s.size) (h' : i < l.length), s[i]'h = l[i] := fun i h h' => by subst hl; rfl
  rw [← hl]
  have HSZ := Lib.hid hsz
  have HGET := Lib.hid hget
  have HS := Lib.hid hs
  have hsi : (s.size : Int) ≤ 1000000 := by omega
  obtain ⟨Z, hZ⟩ : ∃ z : Nat, z = i + numN (l.drop i) := ⟨_, rfl⟩
  rw [← hZ]
  have HZ := Lib.hid hZ
  obtain ⟨R, hR⟩ : ∃ R, R = Wl digitC l i := ⟨_, rfl⟩
  have HR := Lib.hid hR
  have HI := Lib.hid (show i ≤ 1000001 by omega)
  clear hl hsz hget hR hi hZ
  go_enter Tryd.func39, Tryd.ntmps39
  go_wp2_with fail
  go_loopg [1] (s.size - (i) + 1) (fun g v wr => ∃ k : Nat, (k ≤ s.size ∨ k = i) ∧ v = .int .i64 k ∧ R = Wl digitC l k ∧ s.size - k < g ∧ wr = w)
  case atStart => exact ⟨i, .inr rfl, by first | rfl | go_num, HR.out, by omega, rfl⟩
  case round =>
    obtain ⟨k, hk, rfl, hRk, hg, rfl⟩ := hrel
    have hk9 : (k : Int) ≤ 1000001 := by have := HI.out; have := HS.out; rcases hk with h | h <;> omega
    have HRK := Lib.hid hRk
    clear hRk
    by_cases hlt : (k : Int) < s.size
    · have hkn : k < s.size := by omega
      have hkl : k < l.length := by have := HSZ.out; omega
      obtain ⟨c, hc⟩ : ∃ c, c = l[k] := ⟨_, rfl⟩
      have hgk : s[k]'hkn = c := by rw [hc]; exact HGET.out k hkn hkl
      have HC := Lib.hid hc
      have HW := Lib.hid (fun w => rdigit c w)
      obtain ⟨b, hb⟩ : ∃ b, b = digitC c := ⟨_, rfl⟩
      rw [← hb] at HW
      have HB := Lib.hid hb
      clear hc hb hk
      go_wp2_with fail
      refine (HW.out _).mono ?_
      rintro e w2 ⟨rfl, hw⟩
      obtain rfl := hw.symm
      clear hw
      cases b with
      | true =>
        have HN := Lib.hid (show R = Wl digitC l (k + 1) from by rw [HRK.out]; exact wl_step hkl (by rw [← HC.out]; exact HB.out.symm))
        go_wp2_with fail
        go_roundg (s.size - (k + 1) + 1)
        case measure => omega
        case rel => exact ⟨k + 1, .inl (by omega), by go_num, HN.out, by omega, rfl⟩
      | false =>
        have hRk : R = k := by rw [HRK.out]; exact wl_stop hkl (by rw [← HC.out]; exact HB.out.symm)
        subst hRk
        by_cases h1 : (R : Int) + 1 < s.size
        rotate_left
        · have HN := Lib.hid (show Z = R from by rw [HZ.out]; exact num_no HR.out (fun h => absurd h (by have := HSZ.out; omega)))
          go_wp2_with fail
          go_ret
          exact ⟨by rw [HN.out]; rfl, rfl⟩
        by_cases h46 : c = 46
        rotate_left
        · have hb46 : (((c.toNat : Nat) : Int) == 46) = false := u8_ne 46 rfl h46
          have HN := Lib.hid (show Z = R from by rw [HZ.out]; exact num_no HR.out (fun h e => absurd (HC.out.trans e) h46))
          clear h46
          go_wp2_with fail
          go_ret
          exact ⟨by rw [HN.out]; rfl, rfl⟩
        have hb46 : (((c.toNat : Nat) : Int) == 46) = true := by rw [h46]; rfl
        have H46 := Lib.hid h46
        clear h46
        have hR1 : R + 1 < s.size := by omega
        have hR1l : R + 1 < l.length := by have := HSZ.out; omega
        obtain ⟨d, hd⟩ : ∃ d, d = l[R + 1] := ⟨_, rfl⟩
        have hgd : s[R + 1]'hR1 = d := by rw [hd]; exact HGET.out (R + 1) hR1 hR1l
        have HD := Lib.hid hd
        have HWD := Lib.hid (fun w => rdigit d w)
        obtain ⟨bd, hbd⟩ : ∃ b, b = digitC d := ⟨_, rfl⟩
        rw [← hbd] at HWD
        have HBD := Lib.hid hbd
        clear hd hbd
        go_wp2_with fail
        refine (HWD.out _).mono ?_
        rintro e w3 ⟨rfl, hw⟩
        obtain rfl := hw.symm
        clear hw
        cases bd with
        | false =>
          have HN := Lib.hid (show Z = R from by rw [HZ.out]; exact num_no HR.out (fun h e => by rw [← HD.out]; exact HBD.out.symm))
          go_wp2_with fail
          go_ret
          exact ⟨by rw [HN.out]; rfl, rfl⟩
        | true =>
          obtain ⟨Y, hY⟩ : ∃ y, y = Wl digitC l (R + 1) := ⟨_, rfl⟩
          have HZY := Lib.hid (show Z = Y from by rw [HZ.out, hY]; exact num_yes HR.out hR1l (by rw [← HC.out]; exact H46.out) (by rw [← HD.out]; exact HBD.out.symm))
          have HYR := Lib.hid hY
          have HYI := Lib.hid (show R + 1 ≤ 1000001 by have := HS.out; omega)
          clear hY hg hgk hgd
          go_wp2_with fail
          go_loopg [1] (s.size - (R + 1) + 1) (fun g v wx => ∃ k : Nat, (k ≤ s.size ∨ k = R + 1) ∧ v = .int .i64 k ∧ Y = Wl digitC l k ∧ s.size - k < g ∧ wx = wr)
          case atStart => exact ⟨R + 1, .inr rfl, by first | rfl | go_num, HYR.out, by omega, rfl⟩
          case round =>
            obtain ⟨k, hk, rfl, hRk, hg, rfl⟩ := hrel
            have hk9 : (k : Int) ≤ 1000001 := by have := HYI.out; have := HS.out; rcases hk with h | h <;> omega
            have HRK := Lib.hid hRk
            clear hRk
            by_cases hlt : (k : Int) < s.size
            · have hkn : k < s.size := by omega
              have hkl : k < l.length := by have := HSZ.out; omega
              obtain ⟨c, hc⟩ : ∃ c, c = l[k] := ⟨_, rfl⟩
              have hgk : s[k]'hkn = c := by rw [hc]; exact HGET.out k hkn hkl
              have HC := Lib.hid hc
              have HW := Lib.hid (fun w => rdigit c w)
              obtain ⟨b, hb⟩ : ∃ b, b = digitC c := ⟨_, rfl⟩
              rw [← hb] at HW
              have HB := Lib.hid hb
              clear hc hb hk
              go_wp2_with fail
              refine (HW.out _).mono ?_
              rintro e w2 ⟨rfl, hw⟩
              obtain rfl := hw.symm
              clear hw
              cases b with
              | true =>
                have HN := Lib.hid (show Y = Wl digitC l (k + 1) from by rw [HRK.out]; exact wl_step hkl (by rw [← HC.out]; exact HB.out.symm))
                go_wp2_with fail
                go_roundg (s.size - (k + 1) + 1)
                case measure => omega
                case rel => exact ⟨k + 1, .inl (by omega), by go_num, HN.out, by omega, rfl⟩
              | false =>
                have hRk : Y = k := by rw [HRK.out]; exact wl_stop hkl (by rw [← HC.out]; exact HB.out.symm)
                have HN := Lib.hid (show Z = k from by rw [HZY.out]; exact hRk)
                go_wp2_with fail
                go_ret
                exact ⟨by rw [HN.out]; rfl, rfl⟩
            · have hle : l.length ≤ k := by have := HSZ.out; omega
              have hRk : Y = k := by rw [HRK.out]; exact wl_end hle
              have hgk := trivial
              have HC := trivial
              clear hk
              have HN := Lib.hid (show Z = k from by rw [HZY.out]; exact hRk)
              go_wp2_with fail
              go_ret
              exact ⟨by rw [HN.out]; rfl, rfl⟩

    · have hle : l.length ≤ k := by have := HSZ.out; omega
      have hRk : R = k := by rw [HRK.out]; exact wl_end hle
      have hgk := trivial
      have HC := trivial
      clear hk
      subst hRk
      have HN := Lib.hid (show Z = R from by rw [HZ.out]; exact num_no HR.out (fun h => absurd h (by omega)))
      have hn1 : ¬ ((R : Int) + 1 < s.size) := by omega
      go_wp2_with fail
      go_ret
      exact ⟨by rw [HN.out]; rfl, rfl⟩
end Go.Proofs.YtmeoleacfkbilaaDoor
