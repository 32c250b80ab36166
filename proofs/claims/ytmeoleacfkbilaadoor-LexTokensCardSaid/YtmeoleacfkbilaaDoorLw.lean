/- Signs: triadref11's Tokens. -/
import Derived.Test.YtmeoleacfkbilaaDoorLv
namespace Go.Proofs.YtmeoleacfkbilaaDoor
open Go.RowKit Go.Shelf
set_option maxRecDepth 100000
set_option linter.unusedVariables false
set_option linter.unusedSimpArgs false
theorem blank_in (c : UInt8) : blankC c = (decide (c = 32) || (decide (c = 9) || (decide (c = 10) || decide (c = 13)))) := by
  unfold blankC
  rw [Bool.eq_iff_iff]
  simp
theorem past_blank {c : UInt8} {r : List UInt8} (h : blankC c = true) : pastL false (c :: r) = pastL false r := by
  conv => lhs; unfold pastL
  rw [if_pos h]
theorem past_hash (r : List UInt8) : pastL false (35 :: r) = pastL true (35 :: r) := rfl
theorem past_in {c : UInt8} {r : List UInt8} (h : c ≠ 10) : pastL true (c :: r) = pastL true r := by
  conv => lhs; unfold pastL
  rw [if_neg h]
theorem past_feed (r : List UInt8) : pastL true (10 :: r) = pastL false (10 :: r) := rfl
theorem past_tok {c : UInt8} {r : List UInt8} (h : blankC c = false) (h2 : c ≠ 35) : pastL false (c :: r) = c :: r := by
  conv => lhs; unfold pastL
  rw [if_neg (by rw [h]; decide), if_neg h2]
set_option maxHeartbeats 16000000 in
theorem rtokens (s : ByteArray) (hs : s.size ≤ 1000000) (w : World) : Calls Tryd.prog 10 #[.string s] w (TksTo (tokensL s.data.toList) w) := by
  obtain ⟨l, hl⟩ : ∃ l, l = s.data.toList := ⟨_, rfl⟩
  have hsz : s.size = l.length := by rw [hl, Lib.size_eq]
  have hget : ∀ (i : Nat) (h : i < s.size) (h' : i < l.length), s[i]'h = l[i] := fun i h h' => by subst hl; rfl
  rw [← hl]
  obtain ⟨R, hR⟩ : ∃ R, R = tokensL l := ⟨_, rfl⟩
  rw [← hR]
  have hsi : (s.size : Int) ≤ 1000000 := by omega
  by_cases h4 : (4000 : Int) < s.size
  · have HR := Lib.hid (show R = ([], 5) from by rw [hR]; unfold tokensL; rw [if_pos (by omega)])
    clear hR hsz hl hget
    go_enter Tryd.func10, Tryd.ntmps10
    go_wp2_with fail
    go_ret2
    rw [HR.out]
    exact tks_none w (Below.refl _ _) 5
  · have HR := Lib.hid (show R = resL l.length [] (pastL false l) from by rw [hR, tokens_res (by omega)])
    have HO1 := Lib.hid (fun i (hi : i < s.size) (hil : i < l.length) w => rone s hs i hi l hl hil l[i] rfl (l.drop (i + 1)) rfl w)
    have HSZ := Lib.hid hsz
    have HGET := Lib.hid hget
    have HS := Lib.hid hs
    clear hR hsz hl hget
    go_enter Tryd.func10, Tryd.ntmps10
    go_wp2_with fail
    go_loopg [4, 5, 6, 7, 8] (s.size + 1) (fun g v4 v5 _ _ _ wx => ∃ (i n : Nat) (acc : List Tok) (ao : Option Addr) (sn cap : Nat), i ≤ s.size ∧ v5 = .int .i64 i ∧ v4 = .slice ao sn cap ∧ sn = acc.length ∧ acc.length ≤ i ∧ OwK wx w.heap.size (.slice ao sn cap) acc ∧ Below w.heap.size w wx ∧ l.length - i ≤ n ∧ R = resL n acc (pastL false (l.drop i)) ∧ (acc = [] → ao = none ∧ cap = 0) ∧ s.size - i < g)
    case atStart => exact ⟨0, l.length, [], none, 0, 0, Nat.zero_le _, rfl, rfl, rfl, Nat.le_refl _, OwK.nil _ _, Below.refl _ _, by omega, by rw [List.drop_zero]; exact HR.out, fun _ => ⟨rfl, rfl⟩, by omega⟩
    case round =>
      obtain ⟨i, n, acc, ao, sn, cap, his, rfl, rfl, hsn, hai, hown, hb, hnl, hRi, hnil, hg⟩ := hrel
      have HO := Lib.hid hown
      have HB := Lib.hid hb
      have HSN := Lib.hid hsn
      have HNIL := Lib.hid hnil
      have HRI := Lib.hid hRi
      have HNN := Lib.hid (And.intro hnl hai)
      have hi9 : (i : Int) ≤ 1000000 := by have := HS.out; omega
      clear hown hb hsn hnil hRi hnl hai
      by_cases hlt : (i : Int) < s.size
      rotate_left
      · have HRN := Lib.hid (show R = (acc, 0) from by
          rw [HRI.out, List.drop_eq_nil_of_le (by have := HSZ.out; omega)]
          show resL n acc [] = _
          cases n <;> rfl)
        go_wp2_with fail
        go_ret2
        rw [HRN.out]
        refine ⟨ao, cap, by rw [← HSN.out]; rfl, HB.out, ?_⟩
        rw [← HSN.out]
        exact ⟨HO.out, HNIL.out⟩
      have hin : i < s.size := by omega
      have hil : i < l.length := by have := HSZ.out; omega
      obtain ⟨c, hc⟩ : ∃ c, c = l[i] := ⟨_, rfl⟩
      have hgi : s[i]'hin = c := by rw [hc]; exact HGET.out i hin hil
      have hdi : l.drop i = c :: l.drop (i + 1) := by rw [List.drop_eq_getElem_cons hil, hc]
      have HC := Lib.hid hc
      have HDI := Lib.hid hdi
      clear hc hdi
      have hblank : ∀ v : UInt8, blankC v = true → c = v → R = resL n acc (pastL false (l.drop (i + 1))) := fun v hv e => by
        rw [HRI.out, HDI.out, past_blank (by rw [e]; exact hv)]
      have HBL := Lib.hid hblank
      clear hblank
      by_cases hb32 : c = 32
      · have hbb : (((c.toNat : Nat) : Int) == 32) = true := by rw [hb32]; rfl
        have HN := Lib.hid (HBL.out 32 (by decide) hb32)
        clear hb32
        go_wp2_with fail
        go_roundg (s.size - (i + 1) + 1)
        case measure => omega
        case rel => exact ⟨i + 1, n, acc, ao, sn, cap, by omega, by go_num, rfl, HSN.out, by have := HNN.out; omega, HO.out, HB.out, by have := HNN.out; omega, HN.out, HNIL.out, by omega⟩
      have h32 : (((c.toNat : Nat) : Int) == 32) = false := u8_ne 32 rfl hb32
      by_cases hb9 : c = 9
      · have hbb : (((c.toNat : Nat) : Int) == 9) = true := by rw [hb9]; rfl
        have HN := Lib.hid (HBL.out 9 (by decide) hb9)
        clear hb32 hb9
        go_wp2_with fail
        go_roundg (s.size - (i + 1) + 1)
        case measure => omega
        case rel => exact ⟨i + 1, n, acc, ao, sn, cap, by omega, by go_num, rfl, HSN.out, by have := HNN.out; omega, HO.out, HB.out, by have := HNN.out; omega, HN.out, HNIL.out, by omega⟩
      have h9 : (((c.toNat : Nat) : Int) == 9) = false := u8_ne 9 rfl hb9
      by_cases hb10 : c = 10
      · have hbb : (((c.toNat : Nat) : Int) == 10) = true := by rw [hb10]; rfl
        have HN := Lib.hid (HBL.out 10 (by decide) hb10)
        clear hb32 hb9 hb10
        go_wp2_with fail
        go_roundg (s.size - (i + 1) + 1)
        case measure => omega
        case rel => exact ⟨i + 1, n, acc, ao, sn, cap, by omega, by go_num, rfl, HSN.out, by have := HNN.out; omega, HO.out, HB.out, by have := HNN.out; omega, HN.out, HNIL.out, by omega⟩
      have h10 : (((c.toNat : Nat) : Int) == 10) = false := u8_ne 10 rfl hb10
      by_cases hb13 : c = 13
      · have hbb : (((c.toNat : Nat) : Int) == 13) = true := by rw [hb13]; rfl
        have HN := Lib.hid (HBL.out 13 (by decide) hb13)
        clear hb32 hb9 hb10 hb13
        go_wp2_with fail
        go_roundg (s.size - (i + 1) + 1)
        case measure => omega
        case rel => exact ⟨i + 1, n, acc, ao, sn, cap, by omega, by go_num, rfl, HSN.out, by have := HNN.out; omega, HO.out, HB.out, by have := HNN.out; omega, HN.out, HNIL.out, by omega⟩
      have h13 : (((c.toNat : Nat) : Int) == 13) = false := u8_ne 13 rfl hb13
      have hnb : blankC c = false := by rw [blank_in, decide_eq_false hb32, decide_eq_false hb9, decide_eq_false hb10, decide_eq_false hb13]; rfl
      by_cases hb35 : c = 35
      · have hbb : (((c.toNat : Nat) : Int) == 35) = true := by rw [hb35]; rfl
        have HST := Lib.hid (show R = resL n acc (pastL true (l.drop i)) from by rw [HRI.out, HDI.out, hb35]; rfl)
        clear hb32 hb9 hb10 hb13 hb35 hnb
        go_wp2_with fail
        go_loopg [5] (s.size - i + 1) (fun g v wx => ∃ j : Nat, i ≤ j ∧ j ≤ s.size ∧ v = .int .i64 j ∧ R = resL n acc (pastL true (l.drop j)) ∧ s.size - j < g ∧ (j = i → c ≠ 10) ∧ wx = wr)
        case atStart => exact ⟨i, Nat.le_refl _, by omega, rfl, HST.out, by omega, fun _ e => by rw [e] at h10; revert h10; decide, rfl⟩
        case round =>
          obtain ⟨j, hij, hjs, rfl, hRj, hgj, hjc, rfl⟩ := hrel
          have HRJ := Lib.hid hRj
          clear hRj
          by_cases hltj : (j : Int) < s.size
          rotate_left
          · have hje : j = s.size := by omega
            have HN := Lib.hid (show R = resL n acc (pastL false (l.drop j)) from by rw [HRJ.out, List.drop_eq_nil_of_le (by have := HSZ.out; omega)]; rfl)
            clear hje
            go_wp2_with fail
            go_roundg (s.size - j + 1)
            case measure => omega
            case rel => exact ⟨j, n, acc, ao, sn, cap, by omega, by go_num, rfl, HSN.out, by have := HNN.out; omega, HO.out, HB.out, by have := HNN.out; omega, HN.out, HNIL.out, by omega⟩
          have hjn : j < s.size := by omega
          have hjl : j < l.length := by have := HSZ.out; omega
          obtain ⟨d, hd⟩ : ∃ c, c = l[j] := ⟨_, rfl⟩
          have hgd : s[j]'hjn = d := by rw [hd]; exact HGET.out j hjn hjl
          have hdj : l.drop j = d :: l.drop (j + 1) := by rw [List.drop_eq_getElem_cons hjl, hd]
          by_cases hd10 : d = 10
          · have hbd : (((d.toNat : Nat) : Int) == 10) = true := by rw [hd10]; rfl
            have hbdn : (((d.toNat : Nat) : Int) != 10) = false := by rw [hd10]; rfl
            have HN := Lib.hid (show R = resL n acc (pastL false (l.drop j)) from by rw [HRJ.out, hdj, hd10]; rfl)
            have hji : i < j := by
              rcases Nat.lt_or_ge i j with h | h
              · exact h
              · have e : j = i := by omega
                exfalso
                refine hjc e ?_
                rw [HC.out, ← hd10, hd]
                subst e
                rfl
            clear hd hdj hd10 hjc
            go_wp2_with fail
            go_roundg (s.size - j + 1)
            case measure => omega
            case rel => exact ⟨j, n, acc, ao, sn, cap, by omega, by go_num, rfl, HSN.out, by have := HNN.out; omega, HO.out, HB.out, by have := HNN.out; omega, HN.out, HNIL.out, by omega⟩
          · have hbd : (((d.toNat : Nat) : Int) == 10) = false := u8_ne 10 rfl hd10
            have hbdn : (((d.toNat : Nat) : Int) != 10) = true := by rw [bne, hbd]; rfl
            have HN := Lib.hid (show R = resL n acc (pastL true (l.drop (j + 1))) from by rw [HRJ.out, hdj, past_in hd10])
            clear hd hdj hd10 hjc
            go_wp2_with fail
            go_roundg (s.size - (j + 1) + 1)
            case measure => omega
            case rel => exact ⟨j + 1, by omega, by omega, by go_num, HN.out, by omega, fun e => absurd e (by omega), rfl⟩
      · have hb35b : (((c.toNat : Nat) : Int) == 35) = false := u8_ne 35 rfl hb35
        obtain ⟨r, hr⟩ : ∃ r, r = l.drop (i + 1) := ⟨_, rfl⟩
        have hlr : r.length = l.length - (i + 1) := by rw [hr, List.length_drop]
        have HRT := Lib.hid (show R = resL n acc (c :: r) from by rw [HRI.out, HDI.out, past_tok hnb hb35, hr])
        have HONE := Lib.hid (HO1.out i hin hil wr)
        rw [← HC.out, ← hr] at HONE
        obtain ⟨n1, rfl⟩ : ∃ n1, n = n1 + 1 := ⟨n - 1, by have := HNN.out; omega⟩
        clear hb32 hb9 hb10 hb13 hb35 hnb hr
        go_wp2_with fail
        refine HONE.out.mono ?_
        intro e w3 hh
        unfold OneTo at hh
        obtain ⟨k, a, K, rfl, hb3, hq⟩ := hh
        have HBX := Lib.hid (HB.out.trans (hb3.mono HB.out.size))
        have HO3 := Lib.hid (HO.out.below hb3)
        clear hb3
        cases ht : tokenL c r with
        | none =>
          rw [ht] at hq
          dsimp only at hq
          subst hq
          have HRN := Lib.hid (show R = ([], 6) from by rw [HRT.out]; unfold resL; rw [ht])
          have hb4 := Lib.hid (HBX.out.alloc HBX.out.size (.cells #[.int .i64 k, .string a] 36))
          clear ht
          go_wp2_with fail
          go_ret2
          rw [HRN.out]
          exact tks_none w hb4.out 6
        | some q =>
          obtain ⟨⟨tk, tl⟩, y⟩ := q
          rw [ht] at hq
          dsimp only at hq
          obtain ⟨rfl, ha, hy, hKp, hKl⟩ := hq
          have hKb : ((K : Int) == 0) = false := beq_eq_false_iff_ne.2 (by omega)
          have hyl := token_len ht
          have hyK : y.length = l.length - K := by rw [hy, List.length_drop]
          have HRN := Lib.hid (show R = resL n1 (acc ++ [(k, tl)]) (pastL false (l.drop K)) from by rw [HRT.out, ← hy]; conv => lhs; unfold resL; rw [ht])
          have hal1 : Below w3.heap.size w3 (w3.alloc (.cells #[.int .i64 k, .string a] 36)) := (Below.refl _ _).alloc (Nat.le_refl _) _
          have hal : Below w3.heap.size w3 ((w3.alloc (.cells #[.int .i64 k, .string a] 36)).alloc (.cells #[.int .i64 k, .string a] 36)) := hal1.alloc hal1.size _
          have hbk := Blk.new (w3.alloc (.cells #[.int .i64 k, .string a] 36)) #[.int .i64 k, .string a] 36
          rw [show (w3.alloc (.cells #[.int .i64 k, .string a] 36)).heap.size = w3.heap.size + 1 by simp] at hbk
          have HBK := Lib.hid (show Blk ((w3.alloc (.cells #[.int .i64 k, .string a] 36)).alloc (.cells #[.int .i64 k, .string a] 36)) (w3.heap.size + 1) (kcells1 (k, tl)).toArray 36 from by rw [show (kcells1 (k, tl)).toArray = #[.int .i64 k, .string a] from by rw [ha]; rfl]; exact hbk)
          have HOA := Lib.hid (HO3.out.below hal)
          have hb4 := HBX.out.trans (hal.mono HBX.out.size)
          have HB4 := Lib.hid hb4
          have HBASE := Lib.hid hb4.size
          have HNL := Lib.hid (show sn + 1 = acc.length + 1 from by rw [HSN.out])
          have HNM := Lib.hid (show sn + 1 ≤ 1000000 from by have := HSN.out; have := HS.out; have := HNN.out; omega)
          have HKL := Lib.hid (And.intro hKl (And.intro hyl (And.intro hyK hlr)))
          clear ht ha hal1 hal hbk hb4 hy hKp hKl hyl hyK hlr
          go_wp2_with (at_builtin; refine wpList_append_tk rfl _ _ rfl w.heap.size HBASE.out (.slice ao sn cap) acc rfl HOA.out (w3.heap.size + 1) rfl (k, tl) HBK.out (sn + 1) HNL.out HNM.out ?_; intro ao5 cap5 w5 ho5 hx5 hy5 hg5 hq5)
          have hne : ∀ p, (Value.slice ao sn cap).ownBlock = some p → w.heap.size ≤ p := fun p hp => (HOA.out.lt p hp).1
          have hb5 := Below.grown HB4.out hg5 HB4.out.size hne
          have HX5 := Lib.hid (And.intro hb5 ho5)
          clear hb5 ho5 hg5 hq5 hne
          go_roundg (s.size - K + 1)
          case measure => have := HKL.out; have := HSZ.out; omega
          case rel => exact ⟨K, n1, acc ++ [(k, tl)], ao5, sn + 1, cap5, by have := HKL.out; have := HSZ.out; omega, by first | rfl | go_num, by first | rfl | (push_cast; rfl), by rw [List.length_append, ← HSN.out]; rfl, by rw [List.length_append, List.length_singleton]; have := HKL.out; have := HNN.out; omega, HX5.out.2, HX5.out.1, by have := HKL.out; have := HNN.out; omega, HRN.out, fun h => by simp at h, by omega⟩
end Go.Proofs.YtmeoleacfkbilaaDoor
