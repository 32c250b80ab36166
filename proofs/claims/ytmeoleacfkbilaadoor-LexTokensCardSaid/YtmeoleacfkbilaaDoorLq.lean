/- Signs: triadref11's rows. -/
import Derived.Test.YtmeoleacfkbilaaDoorLp
namespace Go.Proofs.YtmeoleacfkbilaaDoor
open Go.RowKit Go.Shelf
set_option maxRecDepth 100000
set_option linter.unusedVariables false
set_option linter.unusedSimpArgs false
set_option maxHeartbeats 8000000 in
theorem rlang (s : ByteArray) (hs : s.size ≤ 1000000) (i : Nat) (hi : i ≤ 1000000) (w : World) :
    Calls Tryd.prog 37 #[.string s, .int .i64 i] w fun e w' => e = .returned (.int .i64 (Wl spokC s.data.toList i : Nat)) ∧ w' = w := by
  obtain ⟨l, hl⟩ : ∃ l, l = s.data.toList := ⟨_, rfl⟩
  have hsz : s.size = l.length := by rw [hl, Lib.size_eq]
  have hget : ∀ (i : Nat) (h : i < s.size) (h' : i < l.length), s[i]'h = l[i] := fun i h h' => by subst hl; rfl
  rw [← hl]
  have HSZ := Lib.hid hsz
  have HGET := Lib.hid hget
  have HS := Lib.hid hs
  have hsi : (s.size : Int) ≤ 1000000 := by omega
  obtain ⟨R, hR⟩ : ∃ R, R = Wl spokC l i := ⟨_, rfl⟩
  rw [← hR]
  have HR := Lib.hid hR
  have HI := Lib.hid hi
  clear hl hsz hget hR hi
  go_enter Tryd.func37, Tryd.ntmps37
  go_wp2_with fail
  go_loopg [1] (s.size - i + 1) (fun g v wr => ∃ k : Nat, (k ≤ s.size ∨ k = i) ∧ v = .int .i64 k ∧ R = Wl spokC l k ∧ s.size - k < g ∧ wr = w)
  case atStart => exact ⟨i, .inr rfl, rfl, HR.out, by omega, rfl⟩
  case round =>
    obtain ⟨k, hk, rfl, hRk, hg, rfl⟩ := hrel
    have hk9 : (k : Int) ≤ 1000000 := by have := HI.out; have := HS.out; rcases hk with h | h <;> omega
    have HRK := Lib.hid hRk
    clear hRk
    by_cases hlt : (k : Int) < s.size
    · have hkn : k < s.size := by omega
      have hkl : k < l.length := by have := HSZ.out; omega
      obtain ⟨c, hc⟩ : ∃ c, c = l[k] := ⟨_, rfl⟩
      have hgk : s[k]'hkn = c := by rw [hc]; exact HGET.out k hkn hkl
      have HC := Lib.hid hc
      have HNT := Lib.hid (fun h : spokC c = true => show R = Wl spokC l (k + 1) from by rw [HRK.out]; exact wl_step hkl (by rw [← HC.out]; exact h))
      have HNF := Lib.hid (fun h : spokC c = false => show R = k from by rw [HRK.out]; exact wl_stop hkl (by rw [← HC.out]; exact h))
      have hcl : spokC c = ((decide (97 ≤ c.toNat) && decide (c.toNat ≤ 122)) || decide (c.toNat = 45)) := by unfold spokC spokN smallN; rw [Bool.eq_iff_iff]; simp
      rw [hcl] at HNT HNF
      clear hcl hc hk
      obtain ⟨m, hm⟩ : ∃ m, m = c.toNat := ⟨_, rfl⟩
      have hgi : (((s[k]'hkn).toNat : Nat) : Int) = (m : Int) := by rw [hgk, hm]
      rw [← hm] at HNT HNF
      clear hgk hm
      by_cases h1 : (97 : Int) ≤ m <;> by_cases h2 : (m : Int) ≤ 122 <;> by_cases h3 : (m : Int) = 45
      all_goals
        first
          | omega
          | (have hval : ((decide (97 ≤ m) && decide (m ≤ 122)) || decide (m = 45)) = true := by simp; omega
             have hkn2 := HNT.out hval
             have HKN := Lib.hid hkn2
             clear hkn2 hval
             go_wp2_with fail
             go_roundg (s.size - (k + 1) + 1)
             case measure => omega
             case rel => exact ⟨k + 1, .inl (by omega), by go_num, HKN.out, by omega, rfl⟩)
          | (have hval : ((decide (97 ≤ m) && decide (m ≤ 122)) || decide (m = 45)) = false := by simp; omega
             have hkn2 := HNF.out hval
             have HKN := Lib.hid hkn2
             have h3b : ((m : Int) == 45) = false := by simpa using h3
             clear hkn2 hval h3
             go_wp2_with fail
             go_ret
             exact ⟨by rw [HKN.out]; rfl, rfl⟩)
    · have hle : l.length ≤ k := by have := HSZ.out; omega
      have HN := Lib.hid (show R = k from by rw [HRK.out]; exact wl_end hle)
      clear hk
      go_wp2_with fail
      go_ret
      exact ⟨by rw [HN.out]; rfl, rfl⟩
set_option maxHeartbeats 8000000 in
theorem riri (s : ByteArray) (hs : s.size ≤ 1000000) (i : Nat) (hi : i < s.size) (w : World) :
    Calls Tryd.prog 33 #[.string s, .int .i64 i] w fun e w' => e = .returned (.int .i64 (if headIs (· == 60) (s.data.toList.drop i) = true ∧ headIs (· == 62) ((s.data.toList.drop (i + 1)).dropWhile refC) = true then Wl refC s.data.toList (i + 1) + 1 else 0 : Nat)) ∧ w' = w := by
  obtain ⟨l, hl⟩ : ∃ l, l = s.data.toList := ⟨_, rfl⟩
  have hsz : s.size = l.length := by rw [hl, Lib.size_eq]
  have hget : ∀ (i : Nat) (h : i < s.size) (h' : i < l.length), s[i]'h = l[i] := fun i h h' => by subst hl; rfl
  rw [← hl]
  have HSZ := Lib.hid hsz
  have HGET := Lib.hid hget
  have HS := Lib.hid hs
  have hsi : (s.size : Int) ≤ 1000000 := by omega
  have hil : i < l.length := by omega
  obtain ⟨c0, hc0⟩ : ∃ c, c = l[i] := ⟨_, rfl⟩
  have hg0 : s[i]'hi = c0 := by rw [hc0]; exact hget i hi hil
  have hd0 : headIs (· == 60) (l.drop i) = (c0 == 60) := by rw [List.drop_eq_getElem_cons hil, ← hc0]; rfl
  rw [hd0]
  obtain ⟨R, hR⟩ : ∃ R, R = Wl refC l (i + 1) := ⟨_, rfl⟩
  have hdr : (l.drop (i + 1)).dropWhile refC = l.drop R := by rw [hR]; exact wl_take.2.symm
  rw [← hR, hdr]
  obtain ⟨Z, hZ⟩ : ∃ z : Nat, z = if (c0 == 60) = true ∧ headIs (fun x => x == 62) (l.drop R) = true then R + 1 else 0 := ⟨_, rfl⟩
  rw [← hZ]
  have HZ := Lib.hid hZ
  clear hZ
  have HR := Lib.hid hR
  have HI := Lib.hid (show i + 1 ≤ 1000001 by omega)
  have hii : (i : Int) < s.size := by omega
  clear hl hsz hget hR hc0 hd0 hdr
  go_enter Tryd.func33, Tryd.ntmps33
  go_wp2_with fail
  go_loopg [5] (s.size - (i + 1) + 1) (fun g v wr => ∃ k : Nat, (k ≤ s.size ∨ k = i + 1) ∧ v = .int .i64 k ∧ R = Wl refC l k ∧ s.size - k < g ∧ wr = w)
  case atStart => exact ⟨i + 1, .inr rfl, by first | rfl | go_num, HR.out, by omega, rfl⟩
  case round =>
    obtain ⟨k, hk, rfl, hRk, hg, rfl⟩ := hrel
    have hk9 : (k : Int) ≤ 1000001 := by have := HI.out; have := HS.out; rcases hk with h | h <;> omega
    have HRK := Lib.hid hRk
    clear hRk
    by_cases hlt : (k : Int) < s.size
    · have hkn : k < s.size := by omega
      have hkl : k < l.length := by have := HSZ.out; omega
      obtain ⟨c, hc⟩ : ∃ c, c = l[k] := ⟨_, rfl⟩
      have hgk : s[k]'hkn = c := by rw [hc]; exact HGET.out k hkn hkl
      have HC := Lib.hid hc
      have HW := Lib.hid (fun w => rsign c w)
      obtain ⟨b, hb⟩ : ∃ b, b = refC c := ⟨_, rfl⟩
      rw [← hb] at HW
      have HB := Lib.hid hb
      clear hc hb hk
      go_wp2_with fail
      refine (HW.out _).mono ?_
      rintro e w2 ⟨rfl, hw⟩
      obtain rfl := hw.symm
      clear hw
      cases b with
      | true =>
        have HN := Lib.hid (show R = Wl refC l (k + 1) from by rw [HRK.out]; exact wl_step hkl (by rw [← HC.out]; exact HB.out.symm))
        go_wp2_with fail
        go_roundg (s.size - (k + 1) + 1)
        case measure => omega
        case rel => exact ⟨k + 1, .inl (by omega), by go_num, HN.out, by omega, rfl⟩
      | false =>
        have hRk : R = k := by rw [HRK.out]; exact wl_stop hkl (by rw [← HC.out]; exact HB.out.symm)
        subst hRk
        have hhd : headIs (fun x => x == 62) (l.drop R) = (c == 62) := by rw [List.drop_eq_getElem_cons hkl, ← HC.out]; rfl
        have HHD := Lib.hid hhd
        by_cases h60 : c0 = 60
        · have hb60 : (((c0.toNat : Nat) : Int) == 60) = true := by rw [h60]; rfl
          have hn60 : (((c0.toNat : Nat) : Int) != 60) = false := by rw [h60]; rfl
          by_cases h62 : c = 62
          · have hb62 : (((c.toNat : Nat) : Int) == 62) = true := by rw [h62]; rfl
            have hn62 : (((c.toNat : Nat) : Int) != 62) = false := by rw [h62]; rfl
            have HP := Lib.hid (And.intro h60 h62)
            clear h60 h62 hhd
            go_wp2_with fail
            go_ret
            exact ⟨by rw [HZ.out, HHD.out, if_pos (by rw [HP.out.1, HP.out.2]; decide)]; first | rfl | (push_cast; rfl) | (simp; omega), rfl⟩
          · have hb62 : (((c.toNat : Nat) : Int) == 62) = false := u8_ne 62 rfl h62
            have hn62 : (((c.toNat : Nat) : Int) != 62) = true := by rw [bne, hb62]; rfl
            have HP := Lib.hid h62
            clear h60 h62 hhd
            go_wp2_with fail
            go_ret
            exact ⟨by rw [HZ.out, HHD.out, if_neg (fun e => HP.out (by simpa using e.2))]; rfl, rfl⟩
        · have hb60 : (((c0.toNat : Nat) : Int) == 60) = false := u8_ne 60 rfl h60
          have hn60 : (((c0.toNat : Nat) : Int) != 60) = true := by rw [bne, hb60]; rfl
          have HP := Lib.hid h60
          clear h60 hhd
          go_wp2_with fail
          go_ret
          exact ⟨by rw [HZ.out, HHD.out, if_neg (fun e => HP.out (by simpa using e.1))]; rfl, rfl⟩
    · have hle : l.length ≤ k := by have := HSZ.out; omega
      have hRk : R = k := by rw [HRK.out]; exact wl_end hle
      have hgk := trivial
      have HC := trivial
      clear hk
      subst hRk
      have hhd : l.drop R = [] := List.drop_eq_nil_of_le hle
      have HHD := Lib.hid hhd
      by_cases h60 : c0 = 60
      · have hb60 : (((c0.toNat : Nat) : Int) == 60) = true := by rw [h60]; rfl
        have hn60 : (((c0.toNat : Nat) : Int) != 60) = false := by rw [h60]; rfl
        clear h60 hhd
        go_wp2_with fail
        go_ret
        exact ⟨by rw [HZ.out, HHD.out, if_neg (fun e => by cases e.2)]; rfl, rfl⟩
      · have hb60 : (((c0.toNat : Nat) : Int) == 60) = false := u8_ne 60 rfl h60
        have hn60 : (((c0.toNat : Nat) : Int) != 60) = true := by rw [bne, hb60]; rfl
        clear h60 hhd
        go_wp2_with fail
        go_ret
        exact ⟨by rw [HZ.out, HHD.out, if_neg (fun e => by cases e.2)]; rfl, rfl⟩
end Go.Proofs.YtmeoleacfkbilaaDoor
