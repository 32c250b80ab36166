/- Terms: known; TermEscapes. -/
import Derived.Test.YtpoacgnncinmiaaTg
namespace Go.Proofs.Ytpoacgnncinmiaa
open Go.RowKit
set_option maxRecDepth 100000

theorem known_text : bl (textL ⟨3, ⟨#[97]⟩, ⟨#[101, 110]⟩, ⟨#[]⟩⟩) = ⟨#[34, 97, 34, 64, 101, 110]⟩ := by
  unfold textL tagL
  simp only [Lib.toList_data]
  rfl
set_option maxHeartbeats 1000000 in
theorem known_any (w : World) :
    Calls Try.prog 10 #[] w fun e w' => e = .returned (.bool true) ∧ Below w.heap.size w w' := by
  have h := text_any6 ⟨3, ⟨#[97]⟩, ⟨#[101, 110]⟩, ⟨#[]⟩⟩ (by decide) (by decide) (by decide)
  rw [known_text] at h
  unfold Tm.val at h
  have H := Lib.hid h
  clear h
  go_enter Try.func10, Try.ntmps10
  go_wp2_with fail
  refine (H.out _).mono ?_
  rintro e w1 ⟨rfl, hb⟩
  have HB := Lib.hid hb
  clear hb
  go_wp2
  go_ret
  exact ⟨rfl, HB.out⟩

/-- What TermEscapes asks of the bytes between the quotes: the state behind them. -/
def esc (back : Bool) : List UInt8 → Option Bool
  | [] => some back
  | c :: t => if c.toNat = 10 ∨ c.toNat = 13 ∨ c.toNat = 9 ∨ c.toNat = 34 ∧ back = false then none else esc (decide (c.toNat = 92) && !back) t
theorem esc_quo (l : List UInt8) : esc false (l.flatMap quo) = some false := by
  induction l with
  | nil => rfl
  | cons c t ih =>
    rw [List.flatMap_cons]
    generalize t.flatMap quo = m at ih ⊢
    unfold quo
    by_cases h1 : c.toNat = 9
    · rw [if_pos h1]; simpa [esc] using ih
    rw [if_neg h1]
    by_cases h2 : c.toNat = 10
    · rw [if_pos h2]; simpa [esc] using ih
    rw [if_neg h2]
    by_cases h3 : c.toNat = 13
    · rw [if_pos h3]; simpa [esc] using ih
    rw [if_neg h3]
    by_cases h4 : c.toNat = 34
    · rw [if_pos h4]; simpa [esc] using ih
    rw [if_neg h4]
    by_cases h5 : c.toNat = 92
    · rw [if_pos h5]; simpa [esc] using ih
    rw [if_neg h5]
    simp only [List.cons_append, List.nil_append, esc]
    rw [if_neg (by omega)]
    simpa [h5] using ih
theorem esc_cons (b : Bool) (c : UInt8) (t : List UInt8) : esc b (c :: t) = if c.toNat = 10 ∨ c.toNat = 13 ∨ c.toNat = 9 ∨ c.toNat = 34 ∧ b = false then none else esc (decide (c.toNat = 92) && !b) t := rfl
theorem esc_step {l : List UInt8} {k : Nat} {c : UInt8} {b : Bool} (hc : l[k]? = some c) (h : esc b (l.drop k) ≠ none) :
    ¬ (c.toNat = 10 ∨ c.toNat = 13 ∨ c.toNat = 9 ∨ c.toNat = 34 ∧ b = false) ∧ esc b (l.drop k) = esc (decide (c.toNat = 92) && !b) (l.drop (k + 1)) := by
  obtain ⟨hk, he⟩ := List.getElem?_eq_some_iff.1 hc
  rw [List.drop_eq_getElem_cons hk, he] at h ⊢
  rw [esc_cons] at h ⊢
  split at h
  · exact (h rfl).elim
  · rename_i hn
    rw [if_neg hn]
    exact ⟨hn, rfl⟩
theorem bl_get (l : List UInt8) (k : Nat) (c : UInt8) (h : l[k]? = some c) (hk : k < (bl l).size) : (bl l)[k] = c := by
  obtain ⟨hl, he⟩ := List.getElem?_eq_some_iff.1 h
  show (l.toArray)[k] = c
  simpa using he
set_option maxHeartbeats 4000000 in
theorem escapes_walk (s : ByteArray) (lang : Bool) (hs : s.size ≤ maxLen) (w : World) :
    Calls Try.prog 8 #[.string s, .bool lang] w fun e w' => e = .returned (.bool true) ∧ Below w.heap.size w w' := by
  unfold maxLen at hs
  by_cases hl : 60 < s.size
  · go_enter Try.func8, Try.ntmps8
    go_wp2_with fail
    refine (known_any w).mono ?_
    rintro e w1 ⟨rfl, hb⟩
    have HB := Lib.hid hb
    clear hb
    go_wp2
    go_ret
    exact ⟨rfl, HB.out⟩
  have htx : ∀ l : ByteArray, l.size ≤ 100 → ∀ w : World, Calls Try.prog 19 #[.agg #[.int .i64 3, .string s, .string l, .string ⟨#[]⟩]] w fun e w' => e = .returned (.string (bl (quoL s.data.toList ++ tagL ⟨3, s, l, ⟨#[]⟩⟩))) ∧ Below w.heap.size w w' :=
    fun l hl' w => text_any6 ⟨3, s, l, ⟨#[]⟩⟩ (by show s.size ≤ _; omega) (by show l.size ≤ _; omega) (by show (0 : Nat) ≤ _; omega) w
  have ht0 : tagL ⟨3, s, ⟨#[]⟩, ⟨#[]⟩⟩ = [] := by unfold tagL; simp only [Lib.toList_data]; rfl
  have ht1 : tagL ⟨3, s, ⟨#[101, 110]⟩, ⟨#[]⟩⟩ = [64, 101, 110] := by unfold tagL; simp only [Lib.toList_data]; rfl
  obtain ⟨L, hL⟩ : ∃ L, L = s.data.toList.flatMap quo := ⟨_, rfl⟩
  have hesc : esc false L = some false := by rw [hL]; exact esc_quo _
  have hq : quoL s.data.toList = 34 :: (L ++ [34]) := by rw [hL]; rfl
  have hlen : L.length ≤ 120 := by
    have := quos_length s.data.toList
    have h2 : s.data.toList.length = s.size := by simp
    rw [hL]; omega
  rw [hq] at htx
  obtain ⟨m, hm⟩ : ∃ m, m = L.length := ⟨_, rfl⟩
  have HESC := Lib.hid hesc
  have HM := Lib.hid hm
  obtain ⟨P, hP⟩ : ∃ P, P = bl (34 :: (L ++ [34])) := ⟨_, rfl⟩
  have hPz : P.size = m + 2 := by rw [hP, bl_size, hm]; simp
  have hp0 : ∀ h : 0 < P.size, (P[0]'h).toNat = 34 := by subst hP; intro h; rw [bl_get _ 0 34 rfl]; rfl
  have hp1 : ∀ h : m + 1 < P.size, (P[m + 1]'h).toNat = 34 := by subst hP hm; intro h; rw [bl_get _ (L.length + 1) 34 (by simp)]; rfl
  have hpk : ∀ k c, L[k]? = some c → ∀ h : k + 1 < P.size, P[k + 1]'h = c := by subst hP; intro k c hc h; exact bl_get _ (k + 1) c (by obtain ⟨hk, he⟩ := List.getElem?_eq_some_iff.1 hc; simp [List.getElem?_append_left hk, he, hk]) h
  have HP0 := Lib.hid hp0
  have HP1 := Lib.hid hp1
  have HPK := Lib.hid hpk
  have HP := Lib.hid hP
  have HPZ := Lib.hid hPz
  have HTX := Lib.hid htx
  have HT0 := Lib.hid ht0
  have HT1 := Lib.hid ht1
  have hm120 : m ≤ 120 := by omega
  clear hL hesc hq hP hPz htx ht0 ht1 hp0 hp1 hpk hm hlen
  cases lang with
  | false =>
    go_enter Try.func8, Try.ntmps8
    go_wp2_with fail
    refine (known_any w).mono ?_
    rintro e w1 ⟨rfl, hb⟩
    have HB := Lib.hid hb
    have hsz := hb.size
    clear hb
    go_wp2_with fail
    refine (HTX.out ⟨#[]⟩ (by decide) _).mono ?_
    rintro e w2 ⟨rfl, hb2⟩
    have HB2 := Lib.hid hb2
    clear hb2
    rw [HT0.out, List.append_nil, ← HP.out]
    have hz := HPZ.out
    have hp0 := HP0.out
    have hp1 := HP1.out
    have hsz2 : w.heap.size ≤ (w1.alloc (.cells #[.int .i64 3, .string s, .string ⟨#[]⟩, .string ⟨#[]⟩] 23)).heap.size := by simp; omega
    go_wp2_with fail
    go_loop [7, 8, 9, 54, 55, 56, 57, 58, 59, 60, 61, 62, 63, 64, 65, 66, 67, 68, 69, 70, 71, 72, 73, 74, 75, 76, 77, 78, 79, 80, 81, 82, 83, 84, 85, 86, 87] (fun bk i _ _ _ _ _ _ _ _ _ _ _ _ _ _ _ _ _ _ _ _ _ _ _ _ _ _ _ _ _ _ _ _ _ _ _ => ∃ (k : Nat) (b : Bool), k ≤ m ∧ i = .int .i64 ((k : Int) + 1) ∧ bk = .bool b ∧ esc b (L.drop k) = some false) (fun _ i _ _ _ _ _ _ _ _ _ _ _ _ _ _ _ _ _ _ _ _ _ _ _ _ _ _ _ _ _ _ _ _ _ _ _ => (m + 1) - (intOf i).toNat)
    case atStart => exact ⟨0, false, Nat.zero_le _, rfl, rfl, HESC.out⟩
    case round =>
      obtain ⟨k, b, hk, rfl, rfl, he⟩ := hrel
      have HE := Lib.hid he
      clear he
      by_cases hlt : k < m
      · obtain ⟨c, hc⟩ : ∃ c, L[k]? = some c := ⟨L[k]'(by have := HM.out; omega), by simp [show k < L.length by have := HM.out; omega]⟩
        have hpc := HPK.out k c hc
        have hst := esc_step hc (b := b) (by rw [HE.out]; simp)
        obtain ⟨n, hn, hn2⟩ := byte_cases c
        have hpn : ∀ h : k + 1 < P.size, (P[k + 1]'h).toNat = n := fun h => by rw [hpc h, hn]
        rw [← hn, HE.out] at hst
        obtain ⟨hst1, hst2⟩ := hst
        have HS2 := Lib.hid hst2
        have n1 : n ≠ 10 := by omega
        have n2 : n ≠ 13 := by omega
        have n3 : n ≠ 9 := by omega
        have n4 : n = 34 → b = true := by
          intro h
          cases b with
          | false => exact absurd (.inr (.inr (.inr ⟨h, rfl⟩))) hst1
          | true => rfl
        have e1 : ((n : Int) == 10) = false := by simp; omega
        have e2 : ((n : Int) == 13) = false := by simp; omega
        have e3 : ((n : Int) == 9) = false := by simp; omega
        have N4 := Lib.hid n4
        clear hc hpc hn hst1 hst2 n1 n2 n3 n4 hp0 hp1
        by_cases h34 : n = 34
        · have hb := N4.out h34
          subst h34 hb
          go_wp2_with fail
          go_round
          case rel => exact ⟨k + 1, _, by omega, by go_num, rfl, HS2.out.symm⟩
          case measure => simp [intOf]; omega
        · have e4 : ((n : Int) == 34) = false := by simp; omega
          by_cases h92 : n = 92
          · subst h92
            cases b
            all_goals
              go_wp2_with fail
              go_round
              case rel => exact ⟨k + 1, _, by omega, by go_num, rfl, HS2.out.symm⟩
              case measure => simp [intOf]; omega
          · have e5 : ((n : Int) == 92) = false := by simp; omega
            have h92' : decide (n = 92) = false := by simpa using h92
            rw [h92'] at HS2
            clear h34 h92 h92'
            go_wp2_with fail
            go_round
            case rel => exact ⟨k + 1, _, by omega, by go_num, rfl, HS2.out.symm⟩
            case measure => simp [intOf]; omega
      · obtain rfl : k = m := by omega
        have hb : b = false := by
          have := HE.out
          rw [List.drop_of_length_le (by have := HM.out; omega)] at this
          simpa [esc] using this
        subst hb
        clear hp0 hp1
        go_wp2_with fail
        go_ret
        exact ⟨rfl, (HB.out.alloc hsz _).trans (HB2.out.mono hsz2)⟩
  | true =>
    go_enter Try.func8, Try.ntmps8
    go_wp2_with fail
    refine (known_any w).mono ?_
    rintro e w1 ⟨rfl, hb⟩
    have HB := Lib.hid hb
    have hsz := hb.size
    clear hb
    go_wp2_with fail
    refine (HTX.out ⟨#[101, 110]⟩ (by decide) _).mono ?_
    rintro e w2 ⟨rfl, hb2⟩
    have HB2 := Lib.hid hb2
    clear hb2
    obtain ⟨O, hO⟩ : ∃ O, O = bl (34 :: (L ++ [34]) ++ tagL ⟨3, s, ⟨#[101, 110]⟩, ⟨#[]⟩⟩) := ⟨_, rfl⟩
    rw [← hO]
    have hOz : O.size = m + 5 := by rw [hO, HT1.out, bl_size, HM.out]; simp
    have ho1 : O.extract (m + 2) (m + 5) = ⟨#[64, 101, 110]⟩ := by
      refine ba_ext ?_
      rw [Lib.extract_data, hO, HT1.out, bl_toList, HM.out, List.drop_left' (by simp)]
      simp
    have ho2 : O.extract 0 (m + 2) = P := by
      refine ba_ext ?_
      rw [Lib.extract_data, hO, HT1.out, bl_toList, HM.out, HP.out, bl_toList, List.drop_zero, List.take_left' (by simp)]
    clear hO
    have hz := HPZ.out
    have hp0 := HP0.out
    have hp1 := HP1.out
    have hsz2 : w.heap.size ≤ (w1.alloc (.cells #[.int .i64 3, .string s, .string ⟨#[101, 110]⟩, .string ⟨#[]⟩] 23)).heap.size := by simp; omega
    go_wp2_with fail
    go_loop [7, 8, 9, 54, 55, 56, 57, 58, 59, 60, 61, 62, 63, 64, 65, 66, 67, 68, 69, 70, 71, 72, 73, 74, 75, 76, 77, 78, 79, 80, 81, 82, 83, 84, 85, 86, 87] (fun bk i _ _ _ _ _ _ _ _ _ _ _ _ _ _ _ _ _ _ _ _ _ _ _ _ _ _ _ _ _ _ _ _ _ _ _ => ∃ (k : Nat) (b : Bool), k ≤ m ∧ i = .int .i64 ((k : Int) + 1) ∧ bk = .bool b ∧ esc b (L.drop k) = some false) (fun _ i _ _ _ _ _ _ _ _ _ _ _ _ _ _ _ _ _ _ _ _ _ _ _ _ _ _ _ _ _ _ _ _ _ _ _ => (m + 1) - (intOf i).toNat)
    case atStart => exact ⟨0, false, Nat.zero_le _, rfl, rfl, HESC.out⟩
    case round =>
      obtain ⟨k, b, hk, rfl, rfl, he⟩ := hrel
      have HE := Lib.hid he
      clear he
      by_cases hlt : k < m
      · obtain ⟨c, hc⟩ : ∃ c, L[k]? = some c := ⟨L[k]'(by have := HM.out; omega), by simp [show k < L.length by have := HM.out; omega]⟩
        have hpc := HPK.out k c hc
        have hst := esc_step hc (b := b) (by rw [HE.out]; simp)
        obtain ⟨n, hn, hn2⟩ := byte_cases c
        have hpn : ∀ h : k + 1 < P.size, (P[k + 1]'h).toNat = n := fun h => by rw [hpc h, hn]
        rw [← hn, HE.out] at hst
        obtain ⟨hst1, hst2⟩ := hst
        have HS2 := Lib.hid hst2
        have n1 : n ≠ 10 := by omega
        have n2 : n ≠ 13 := by omega
        have n3 : n ≠ 9 := by omega
        have n4 : n = 34 → b = true := by
          intro h
          cases b with
          | false => exact absurd (.inr (.inr (.inr ⟨h, rfl⟩))) hst1
          | true => rfl
        have e1 : ((n : Int) == 10) = false := by simp; omega
        have e2 : ((n : Int) == 13) = false := by simp; omega
        have e3 : ((n : Int) == 9) = false := by simp; omega
        have N4 := Lib.hid n4
        clear ho1 ho2 hOz hc hpc hn hst1 hst2 n1 n2 n3 n4 hp0 hp1
        by_cases h34 : n = 34
        · have hb := N4.out h34
          subst h34 hb
          go_wp2_with fail
          go_round
          case rel => exact ⟨k + 1, _, by omega, by go_num, rfl, HS2.out.symm⟩
          case measure => simp [intOf]; omega
        · have e4 : ((n : Int) == 34) = false := by simp; omega
          by_cases h92 : n = 92
          · subst h92
            cases b
            all_goals
              go_wp2_with fail
              go_round
              case rel => exact ⟨k + 1, _, by omega, by go_num, rfl, HS2.out.symm⟩
              case measure => simp [intOf]; omega
          · have e5 : ((n : Int) == 92) = false := by simp; omega
            have h92' : decide (n = 92) = false := by simpa using h92
            rw [h92'] at HS2
            clear h34 h92 h92'
            go_wp2_with fail
            go_round
            case rel => exact ⟨k + 1, _, by omega, by go_num, rfl, HS2.out.symm⟩
            case measure => simp [intOf]; omega
      · obtain rfl : k = m := by omega
        have hb : b = false := by
          have := HE.out
          rw [List.drop_of_length_le (by have := HM.out; omega)] at this
          simpa [esc] using this
        subst hb
        clear ho1 ho2 hOz hp0 hp1
        go_wp2_with fail
        go_ret
        exact ⟨rfl, (HB.out.alloc hsz _).trans (HB2.out.mono hsz2)⟩
end Go.Proofs.Ytpoacgnncinmiaa
