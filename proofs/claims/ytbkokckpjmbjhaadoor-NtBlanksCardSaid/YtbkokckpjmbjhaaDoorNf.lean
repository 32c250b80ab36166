/- nt's quoted. -/
import Derived.Test.YtbkokckpjmbjhaaDoorNe
namespace Go.Proofs.YtbkokckpjmbjhaaDoor
open Go.RowKit Go.Shelf
set_option maxRecDepth 100000
set_option linter.unusedVariables false
def QuoTo (l : List UInt8) (w0 : World) (e : Ending) (w' : World) : Prop :=
  ∃ a b, e = .returned (.tuple #[.string a, .string b, .bool (quotL l).isSome]) ∧ Below w0.heap.size w0 w' ∧ ∀ q, quotL l = some q → a = ⟨q.1.toArray⟩ ∧ b = ⟨q.2.toArray⟩
def QRel (l : List UInt8) (i : Nat) (acc : List UInt8) : Prop := quotL l = (quotL (l.drop i)).map fun q => (acc ++ q.1, q.2)
theorem drop_at {l : List UInt8} {i : Nat} (h : i < l.length) : l.drop i = l[i] :: l.drop (i + 1) := List.drop_eq_getElem_cons h
theorem QRel.quote {l : List UInt8} {i : Nat} {acc : List UInt8} (h : QRel l i acc) (hi : i < l.length) (hc : l[i] = 34) : quotL l = some (acc, l.drop (i + 1)) := by
  rw [h, drop_at hi, hc]; unfold quotL; simp
theorem QRel.plain {l : List UInt8} {i : Nat} {acc : List UInt8} (h : QRel l i acc) (hi : i < l.length) (h1 : l[i] ≠ 34) (h2 : l[i] ≠ 92) : QRel l (i + 1) (acc ++ [l[i]]) := by
  unfold QRel at h ⊢
  rw [h, drop_at hi]
  conv => lhs; arg 2; unfold quotL
  rw [if_neg h1, if_neg h2, Option.map_map]
  congr 1
  funext q
  simp
theorem QRel.none1 {l : List UInt8} {i : Nat} {acc : List UInt8} (h : QRel l i acc) (hi : i < l.length) (h2 : l[i] = 92) (hn : l.length ≤ i + 1) : quotL l = none := by
  rw [h, drop_at hi, h2, List.drop_eq_nil_of_le hn]; rfl
theorem QRel.none2 {l : List UInt8} {i : Nat} {acc : List UInt8} (h : QRel l i acc) (hi : i + 1 < l.length) (h2 : l[i] = 92) (hn : meantL l[i + 1] = none) : quotL l = none := by
  rw [h, drop_at (by omega), h2, drop_at hi]
  unfold quotL
  simp [hn]
theorem QRel.some2 {l : List UInt8} {i : Nat} {acc : List UInt8} (h : QRel l i acc) (hi : i + 1 < l.length) (h2 : l[i] = 92) (x : UInt8) (hx : meantL l[i + 1] = some x) : QRel l (i + 2) (acc ++ [x]) := by
  unfold QRel at h ⊢
  rw [h, drop_at (by omega), h2, drop_at hi]
  conv => lhs; arg 2; unfold quotL
  simp only [hx]
  rw [if_pos trivial, if_neg (by decide), Option.map_map]
  congr 1
  funext q
  simp
theorem QRel.off {l : List UInt8} {i : Nat} {acc : List UInt8} (h : QRel l i acc) (hi : l.length ≤ i) : quotL l = none := by
  rw [h, List.drop_eq_nil_of_le hi]; rfl
theorem quo_none {l : List UInt8} {w0 w' : World} (a b : ByteArray) (h : quotL l = none) (hb : Below w0.heap.size w0 w') : QuoTo l w0 (.returned (.tuple #[.string a, .string b, .bool false])) w' := by
  unfold QuoTo
  rw [h]
  exact ⟨a, b, rfl, hb, fun q hq => by cases hq⟩
theorem first_of {t : ByteArray} {c : UInt8} {r : List UInt8} (h : t.data.toList = c :: r) : 1 ≤ t.size ∧ ∀ h : 0 < t.size, t[0]'h = c := by
  obtain ⟨⟨a⟩⟩ := t
  simp only at h
  subst h
  exact ⟨by rw [Lib.size_eq]; simp, fun _ => rfl⟩
set_option maxHeartbeats 8000000 in
theorem quoted9 (s : ByteArray) (hs : s.size ≤ 1000000) (w : World) : Calls Tryd.prog 61 #[.string s] w (QuoTo s.data.toList w) := by
  obtain ⟨l, hl⟩ : ∃ l, l = s.data.toList := ⟨_, rfl⟩
  have hsz : s.size = l.length := by rw [hl, Lib.size_eq]
  have hget : ∀ (i : Nat) (h : i < s.size) (h' : i < l.length), s[i]'h = l[i] := fun i h h' => by subst hl; rfl
  rw [← hl]
  have HL := Lib.hid hl
  have HSZ := Lib.hid hsz
  have HGET := Lib.hid hget
  have hsi : (s.size : Int) ≤ 1000000 := by omega
  clear hl hsz hget
  go_enter Tryd.func61, Tryd.ntmps61
  go_wp2_with fail
  go_loopw [5, 6] (fun v5 i wr => ∃ (k : Nat) (acc : List UInt8) (v : Value), k ≤ s.size ∧ i = .int .i64 k ∧ v5 = v ∧ acc.length ≤ k ∧ Own wr w.heap.size v acc ∧ QRel l k acc ∧ Below w.heap.size w wr) (fun _ i _ => s.size - (intOf i).toNat)
  case atStart => exact ⟨0, [], .slice none 0 0, Nat.zero_le _, rfl, rfl, Nat.le_refl _, World.ownsRow_nil _ _ _ _, by unfold QRel; rw [List.drop_zero]; simp, Below.refl _ _⟩
  case round =>
    obtain ⟨k, acc, v, hk, rfl, hv, hnk, hown, hq, hb⟩ := hrel
    replace hv := hv.symm
    subst hv
    have HO := Lib.hid hown
    have HQ := Lib.hid hq
    have HB := Lib.hid hb
    have HNK := Lib.hid hnk
    clear hown hq hb hnk
    by_cases hlt : (k : Int) < s.size
    rotate_left
    · go_wp2_with fail
      go_ret3
      exact quo_none _ _ (HQ.out.off (by have := HSZ.out; omega)) HB.out
    have hkl : k < l.length := by have := HSZ.out; omega
    have hk0 : (0 : Int) ≤ k := by omega
    have hkn : k < s.size := by omega
    obtain ⟨c, hc⟩ : ∃ c, c = l[k] := ⟨_, rfl⟩
    have hgk : s[k]'hkn = c := by rw [hc]; exact HGET.out k hkn hkl
    have HC := Lib.hid hc
    clear hc
    by_cases h34 : c = 34
    · have hgi : (((s[k]'hkn).toNat : Nat) : Int) = 34 := by rw [hgk, h34]; rfl
      have hcv := fun m => run_conv_bytes (HO.out.bs.below (draws_t wr m))
      have H34 := Lib.hid h34
      clear hgk h34
      go_wp2_with fail
      go_quiet (fail)
      go_wp2_with fail
      go_ret3
      have hr := HQ.out.quote hkl (by rw [← HC.out]; exact H34.out)
      unfold QuoTo
      rw [hr]
      refine ⟨_, _, rfl, HB.out.trans (draws_t _ _ |>.mono HB.out.size), fun q hq => ?_⟩
      simp only [Option.some.injEq] at hq
      subst hq
      refine ⟨rfl, ba_ext ?_⟩
      have := HSZ.out
      rw [← Lib.toList_data, Lib.extract_toList, ← HL.out, List.take_of_length_le (by rw [List.length_drop]; omega)]
    have h34b : (((c.toNat : Nat) : Int) == 34) = false := u8_ne 34 rfl h34
    by_cases h92 : c = 92
    · have hgi : (((s[k]'hkn).toNat : Nat) : Int) = 92 := by rw [hgk, h92]; rfl
      have H92 := Lib.hid (show l[k] = 92 by rw [← HC.out]; exact h92)
      clear hgk h92 h34b h34
      have hk1 : (k : Int) + 1 ≤ s.size := by omega
      have hk1n : k + 1 ≤ s.size := by omega
      have hdl : (s.extract (k + 1) s.size).data.toList = l.drop (k + 1) := by
        have := HSZ.out
        rw [← Lib.toList_data, Lib.extract_toList, ← HL.out, List.take_of_length_le (by rw [List.length_drop]; omega)]
      by_cases hend : k + 1 < s.size
      · have hel : k + 1 < l.length := by have := HSZ.out; omega
        rw [drop_at hel] at hdl
        obtain ⟨d, hd⟩ : ∃ d, d = l[k + 1] := ⟨_, rfl⟩
        rw [← hd] at hdl
        have hf := first_of hdl
        have HM := Lib.hid (fun w => meant9 (s.extract (k + 1) s.size) d hf.1 hf.2 w)
        have HD := Lib.hid hd
        clear hdl hf hd
        unfold meantV at HM
        cases hm : meantL d with
        | none =>
          rw [hm] at HM
          dsimp only at HM
          have HMN := Lib.hid hm
          clear hm
          go_wp2_with fail
          refine (HM.out _).mono ?_
          rintro e w1 ⟨rfl, hw⟩
          obtain rfl := hw.symm
          go_wp2_with fail
          go_ret3
          exact quo_none _ _ (HQ.out.none2 hel H92.out (by rw [← HD.out]; exact HMN.out)) HB.out
        | some x =>
          rw [hm] at HM
          dsimp only at HM
          have HMN := Lib.hid hm
          clear hm
          have hal : Below wr.heap.size wr (wr.alloc (.cells #[.int .u8 ((x.toNat : Nat) : Int)] 5)) := (Below.refl _ _).alloc (Nat.le_refl _) _
          have HOA := Lib.hid ((show Own wr w.heap.size v acc from HO.out).below hal)
          have HBS := Lib.hid (Bs.one wr x (.int .u8 ((x.toNat : Nat) : Int)) rfl)
          have HLN := Lib.hid (show acc.length + [x].length ≤ 140737488355328 by have := HNK.out; simp; omega)
          have HBA := Lib.hid (Nat.le_trans HB.out.size hal.size)
          have HAL := Lib.hid hal
          clear hal
          go_wp2_with fail
          refine (HM.out _).mono ?_
          rintro e w1 ⟨rfl, hw⟩
          obtain rfl := hw.symm
          go_wp2_with (at_builtin; refine wpList_append_bytes rfl _ _ rfl w.heap.size v acc rfl HOA.out (.slice (some ⟨wr.heap.size, 0, none⟩) 1 1) [x] rfl HBS.out HLN.out HBA.out ?_; intro v5 w5 ho5 hg5)
          have HO5 := Lib.hid ho5
          have hb5 : Below w.heap.size w w5 := Below.grown (HB.out.trans (HAL.out.mono HB.out.size)) hg5 (Nat.le_trans HB.out.size HAL.out.size) (fun q hq => (HOA.out.lt q hq).1)
          have HB5 := Lib.hid hb5
          clear ho5 hg5 hb5
          go_roundw
          case rel =>
            have h1 := HNK.out
            exact ⟨k + 2, _, v5, by omega, by go_num, rfl, by rw [List.length_append, List.length_singleton]; omega, HO5.out, HQ.out.some2 hel H92.out x (by rw [← HD.out]; exact HMN.out), HB5.out⟩
          case measure => simp [intOf]; omega
      · have he : s.extract (k + 1) s.size = ⟨#[]⟩ := ba_ext (by rw [hdl, List.drop_eq_nil_of_le (by have := HSZ.out; omega)])
        have HM := Lib.hid (fun w => meant9_nil w)
        rw [← he] at HM
        clear he hdl
        go_wp2_with fail
        refine (HM.out _).mono ?_
        rintro e w1 ⟨rfl, hw⟩
        obtain rfl := hw.symm
        go_wp2_with fail
        go_ret3
        exact quo_none _ _ (HQ.out.none1 hkl H92.out (by have := HSZ.out; omega)) HB.out
    · have h92b : (((c.toNat : Nat) : Int) == 92) = false := u8_ne 92 rfl h92
      have HNE := Lib.hid (show l[k] ≠ 34 ∧ l[k] ≠ 92 from by rw [← HC.out]; exact ⟨h34, h92⟩)
      clear h34 h92
      have hal : Below wr.heap.size wr (wr.alloc (.cells #[.int .u8 ((c.toNat : Nat) : Int)] 5)) := (Below.refl _ _).alloc (Nat.le_refl _) _
      have HOA := Lib.hid ((show Own wr w.heap.size v acc from HO.out).below hal)
      have HBS := Lib.hid (Bs.one wr c (.int .u8 ((c.toNat : Nat) : Int)) rfl)
      have HLN := Lib.hid (show acc.length + [c].length ≤ 140737488355328 by have := HNK.out; simp; omega)
      have HBA := Lib.hid (Nat.le_trans HB.out.size hal.size)
      have HAL := Lib.hid hal
      clear hal
      go_wp2_with (at_builtin; refine wpList_append_bytes rfl _ _ rfl w.heap.size v acc rfl HOA.out (.slice (some ⟨wr.heap.size, 0, none⟩) 1 1) [c] rfl HBS.out HLN.out HBA.out ?_; intro v5 w5 ho5 hg5)
      have HO5 := Lib.hid ho5
      have hb5 : Below w.heap.size w w5 := Below.grown (HB.out.trans (HAL.out.mono HB.out.size)) hg5 (Nat.le_trans HB.out.size HAL.out.size) (fun q hq => (HOA.out.lt q hq).1)
      have HB5 := Lib.hid hb5
      clear ho5 hg5 hb5
      go_roundw
      case rel =>
        have h1 := HNK.out
        exact ⟨k + 1, _, v5, by omega, by go_num, rfl, by rw [List.length_append, List.length_singleton]; omega, HO5.out, by have := HQ.out.plain hkl HNE.out.1 HNE.out.2; rw [← HC.out] at this; exact this, HB5.out⟩
      case measure => simp [intOf]; omega
end Go.Proofs.YtbkokckpjmbjhaaDoor
