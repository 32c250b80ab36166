/- Terms: triadref6's Text. -/
import Derived.Test.YtbkokckpjmbjhaaDoorTa
import Derived.Deep.QuietTactic
import Derived.BigQuiet
namespace Go.Proofs.YtbkokckpjmbjhaaDoor
open Go.RowKit
set_option maxRecDepth 100000

theorem sub_one9 {s : ByteArray} {k : Nat} {c : UInt8} (h : s.data.toList[k]? = some c) : (s.extract k (k + 1)).data.toList = [c] := by
  obtain ⟨hk, he⟩ := List.getElem?_eq_some_iff.1 h
  rw [Lib.extract_data, List.drop_eq_getElem_cons hk, he]
  simp

theorem drewN_below9 {B : Nat} {a b : World} (h : Below B a b) (n : Nat) : Below B a (b.drewN n) := ⟨h.os, h.tape, h.output, h.size, h.block⟩
set_option maxHeartbeats 4000000 in
theorem rquoted_any (s : ByteArray) (hs : s.size ≤ 1073741824) (w : World) :
    Calls Tryd.prog 15 #[.string s] w fun e w' => e = .returned (.string (bl (quoL s.data.toList))) ∧ w = w' := by
  go_enter Tryd.func15, Tryd.ntmps15
  go_wp2
  go_loop [3, 4, 5, 6, 7, 8, 9, 10, 11, 12, 13, 14, 15, 16, 17, 18, 19, 20, 21, 22, 23, 24, 25, 26, 27, 28, 29, 30, 31, 32, 33, 34, 35, 36, 37, 38, 39, 40, 41, 42, 43] (fun b i _ _ _ _ _ _ _ _ _ _ _ _ _ _ _ _ _ _ _ _ _ _ _ _ _ _ _ _ _ _ _ _ _ _ _ _ _ _ _ => ∃ k : Nat, k ≤ s.size ∧ i = .int .i64 k ∧ b = .string (bl (34 :: (s.data.toList.take k).flatMap quo))) (fun _ i _ _ _ _ _ _ _ _ _ _ _ _ _ _ _ _ _ _ _ _ _ _ _ _ _ _ _ _ _ _ _ _ _ _ _ _ _ _ _ => s.size - (intOf i).toNat)
  case atStart => exact ⟨0, Nat.zero_le _, rfl, rfl⟩
  case round =>
    obtain ⟨k, hk, rfl, rfl⟩ := hrel
    have hql : ((s.data.toList.take k).flatMap quo).length ≤ 2 * s.size := by
      have h1 := quos_length (s.data.toList.take k)
      have h2 : (s.data.toList.take k).length ≤ s.size := by simp; omega
      omega
    have hbz := bl_size (34 :: (s.data.toList.take k).flatMap quo)
    rw [List.length_cons] at hbz
    generalize hO : bl (34 :: (s.data.toList.take k).flatMap quo) = O at *
    have HO := Lib.hid hO
    have hOz : O.size ≤ 2147483649 := by omega
    clear hO hql hbz
    by_cases hlt : k < s.size
    · obtain ⟨c, hc⟩ : ∃ c : UInt8, c = s[k] := ⟨_, rfl⟩
      have hix : s.data.toList[k]? = some c := by rw [hc]; simp [hlt]; rfl
      have hsn : (s.data.toList.take (k + 1)).flatMap quo = (s.data.toList.take k).flatMap quo ++ quo c := by
        obtain ⟨hk', he⟩ := List.getElem?_eq_some_iff.1 hix
        rw [List.take_succ_eq_append_getElem hk', List.flatMap_append, he]; simp
      have hx := sub_one9 hix
      have HX := Lib.hid hx
      have hxz : (s.extract k (k + 1)).size = 1 := by
        have := Lib.size_eq (s.extract k (k + 1))
        rw [hx] at this; simpa using this
      have HXZ := Lib.hid hxz
      have HSN := Lib.hid hsn
      obtain ⟨n, hn, hn2⟩ := byte_cases c
      have HN := Lib.hid hn
      have hcn : s[k].toNat = n := by rw [hn, hc]
      clear hc hix hsn hx hxz
      have hcase : n = 9 ∨ n = 10 ∨ n = 13 ∨ n = 34 ∨ n = 92 ∨ (n ≠ 9 ∧ n ≠ 10 ∧ n ≠ 13 ∧ n ≠ 34 ∧ n ≠ 92) := by omega
      rcases hcase with rfl | rfl | rfl | rfl | rfl | ⟨g1, g2, g3, g4, g5⟩
      · have hq : quo c = [92, 116] := by unfold quo; rw [← hn]; rfl
        have HQ := Lib.hid hq
        clear hn hq
        go_wp2_with fail
        go_round
        case rel => exact ⟨k + 1, by omega, by go_num, congrArg Value.string (ba_ext (by rw [bl_toList, HSN.out, HQ.out, ← HO.out]; simp [bl]))⟩
        case measure => simp [intOf]; omega
      · have hq : quo c = [92, 110] := by unfold quo; rw [← hn]; rfl
        have HQ := Lib.hid hq
        clear hn hq
        go_wp2_with fail
        go_round
        case rel => exact ⟨k + 1, by omega, by go_num, congrArg Value.string (ba_ext (by rw [bl_toList, HSN.out, HQ.out, ← HO.out]; simp [bl]))⟩
        case measure => simp [intOf]; omega
      · have hq : quo c = [92, 114] := by unfold quo; rw [← hn]; rfl
        have HQ := Lib.hid hq
        clear hn hq
        go_wp2_with fail
        go_round
        case rel => exact ⟨k + 1, by omega, by go_num, congrArg Value.string (ba_ext (by rw [bl_toList, HSN.out, HQ.out, ← HO.out]; simp [bl]))⟩
        case measure => simp [intOf]; omega
      · have hq : quo c = [92, 34] := by unfold quo; rw [← hn]; rfl
        have hcv : c = 34 := UInt8.toNat_inj.1 hn.symm
        have HCV := Lib.hid hcv
        have HQ := Lib.hid hq
        clear hn hq hcv
        have hadd : ∀ w : World, (Op.stringOp .add (O ++ ⟨#[92]⟩) (s.extract k (k + 1))).run Tryd.prog w = .ok (.string (O ++ ⟨#[92]⟩ ++ s.extract k (k + 1))) w := fun w => run_string_add_sum w _ _ (by have h := HXZ.out; rw [h, Lib.size_eq (O ++ _), ba_app, List.length_append, ← Lib.size_eq O]; show O.size + 1 + 1 ≤ _; omega)
        go_wp2_with fail
        go_round
        case rel => exact ⟨k + 1, by omega, by go_num, congrArg Value.string (ba_ext (by rw [bl_toList, HSN.out, HQ.out, ← HO.out, ba_app, ba_app, HX.out, HCV.out]; simp [bl]))⟩
        case measure => simp [intOf]; omega
      · have hq : quo c = [92, 92] := by unfold quo; rw [← hn]; rfl
        have hcv : c = 92 := UInt8.toNat_inj.1 hn.symm
        have HCV := Lib.hid hcv
        have HQ := Lib.hid hq
        clear hn hq hcv
        have hadd : ∀ w : World, (Op.stringOp .add (O ++ ⟨#[92]⟩) (s.extract k (k + 1))).run Tryd.prog w = .ok (.string (O ++ ⟨#[92]⟩ ++ s.extract k (k + 1))) w := fun w => run_string_add_sum w _ _ (by have h := HXZ.out; rw [h, Lib.size_eq (O ++ _), ba_app, List.length_append, ← Lib.size_eq O]; show O.size + 1 + 1 ≤ _; omega)
        go_wp2_with fail
        go_round
        case rel => exact ⟨k + 1, by omega, by go_num, congrArg Value.string (ba_ext (by rw [bl_toList, HSN.out, HQ.out, ← HO.out, ba_app, ba_app, HX.out, HCV.out]; simp [bl]))⟩
        case measure => simp [intOf]; omega
      · have hq : quo c = [c] := by unfold quo; rw [← hn, if_neg g1, if_neg g2, if_neg g3, if_neg g4, if_neg g5]
        have HQ := Lib.hid hq
        have e1 : ((n : Int) == 9) = false := by simp; omega
        have e2 : ((n : Int) == 10) = false := by simp; omega
        have e3 : ((n : Int) == 13) = false := by simp; omega
        have e4 : ((n : Int) == 34) = false := by simp; omega
        have e5 : ((n : Int) == 92) = false := by simp; omega
        clear hn hq g1 g2 g3 g4 g5
        have hadd : ∀ w : World, (Op.stringOp .add O (s.extract k (k + 1))).run Tryd.prog w = .ok (.string (O ++ s.extract k (k + 1))) w := fun w => run_string_add_sum w _ _ (by have := HXZ.out; omega)
        go_wp2_with fail
        go_round
        case rel => exact ⟨k + 1, by omega, by go_num, congrArg Value.string (ba_ext (by rw [bl_toList, HSN.out, HQ.out, ← HO.out, ba_app, HX.out]; simp [bl]))⟩
        case measure => simp [intOf]; omega
    · obtain rfl : k = s.size := by omega
      have htk : s.data.toList.take s.size = s.data.toList := by rw [List.take_of_length_le (by simp)]
      have HTK := Lib.hid htk
      clear htk
      go_wp2_with fail
      go_ret
      exact ⟨ret_str (ba_ext (by rw [ba_app, ← HO.out, HTK.out]; simp [bl, quoL])), rfl⟩
set_option maxHeartbeats 8000000 in
theorem rtext_any6 (x : Tm) (hs : x.s.size ≤ 1073741824) (hl : x.l.size ≤ 1073741824) (ht : x.t.size ≤ 1073741824) (w : World) :
    Calls Tryd.prog 9 #[x.val] w fun e w' => e = .returned (.string (bl (textL x))) ∧ Below w.heap.size w w' := by
  obtain ⟨k, s, l, t⟩ := x
  unfold textL tagL
  unfold Tm.val
  dsimp only at hs hl ht ⊢
  by_cases h1 : k = 1
  · subst h1
    go_enter Tryd.func9, Tryd.ntmps9
    go_wp2
    go_ret
    exact ⟨ret_str (ba_ext (by simp [bl])), (Below.refl _ _).alloc (Nat.le_refl _) _⟩
  by_cases h2 : k = 2
  · subst h2
    go_enter Tryd.func9, Tryd.ntmps9
    go_wp2
    go_ret
    exact ⟨ret_str (ba_ext (by simp [bl])), (Below.refl _ _).alloc (Nat.le_refl _) _⟩
  rw [if_neg h1, if_neg h2]
  have e1 : (k == 1) = false := by simpa using h1
  have e2 : (k == 2) = false := by simpa using h2
  have hz2 := quoL_length s
  have hz3 := bl_size (quoL s.data.toList)
  have hquo : ∀ w : World, Calls Tryd.prog 15 #[.string s] w fun e w' => e = .returned (.string (bl (quoL s.data.toList))) ∧ w' = w := fun w => (rquoted_any s hs w).mono fun _ _ h => ⟨h.1, h.2.symm⟩
  generalize hq : bl (quoL s.data.toList) = q at *
  have hqz : q.size ≤ 2147483650 := by omega
  have HQ := Lib.hid hq
  have HU := Lib.hid hquo
  have hqd : q.data.toList = quoL s.data.toList := by rw [← hq]; rfl
  have HQD := Lib.hid hqd
  clear hq hquo hz2 hz3 h1 h2 hqd
  cases g1 : l.toList.isEmpty with
  | false =>
    have hadd : ∀ w : World, (Op.stringOp .add (q ++ ⟨#[64]⟩) l).run Tryd.prog w = .ok (.string (q ++ ⟨#[64]⟩ ++ l)) w := fun w => run_string_add_sum w _ _ (by rw [Lib.size_eq (q ++ _), ba_app, List.length_append, ← Lib.size_eq q]; show q.size + 1 + l.size ≤ _; omega)
    go_enter Tryd.func9, Tryd.ntmps9
    go_wp2_with fail
    go_quiet ((go_at_call 15; exact Calls.quiet_of_same (HU.out _)))
    go_wp2_with fail
    go_ret
    refine ⟨ret_str (ba_ext ?_), drewN_below9 ((Below.refl _ _).alloc (Nat.le_refl _) _) _⟩
    rw [ba_app, ba_app, HQD.out]
    simp [bl]
  | true =>
    cases g2 : t.toList.isEmpty with
    | false =>
      have hadd1 : ∀ w : World, (Op.stringOp .add (q ++ ⟨#[94, 94, 60]⟩) t).run Tryd.prog w = .ok (.string (q ++ ⟨#[94, 94, 60]⟩ ++ t)) w := fun w => run_string_add_sum w _ _ (by rw [Lib.size_eq (q ++ _), ba_app, List.length_append, ← Lib.size_eq q]; show q.size + 3 + t.size ≤ _; omega)
      have hadd2 : ∀ w : World, (Op.stringOp .add (q ++ ⟨#[94, 94, 60]⟩ ++ t) ⟨#[62]⟩).run Tryd.prog w = .ok (.string (q ++ ⟨#[94, 94, 60]⟩ ++ t ++ ⟨#[62]⟩)) w := fun w => run_string_add_sum w _ _ (by rw [Lib.size_eq (q ++ _ ++ _), ba_app, ba_app, List.length_append, List.length_append, ← Lib.size_eq q, ← Lib.size_eq t]; show q.size + 3 + t.size + 1 ≤ _; omega)
      go_enter Tryd.func9, Tryd.ntmps9
      go_wp2_with fail
      go_quiet ((go_at_call 15; exact Calls.quiet_of_same (HU.out _)))
      go_wp2_with fail
      go_ret
      refine ⟨ret_str (ba_ext ?_), drewN_below9 ((Below.refl _ _).alloc (Nat.le_refl _) _) _⟩
      rw [ba_app, ba_app, ba_app, HQD.out]
      simp [bl]
    | true =>
      go_enter Tryd.func9, Tryd.ntmps9
      go_wp2_with fail
      refine (HU.out _).mono ?_
      rintro e w' ⟨rfl, rfl⟩
      go_wp2
      go_ret
      refine ⟨ret_str (ba_ext ?_), ((Below.refl _ _).alloc (Nat.le_refl _) _)⟩
      rw [HQD.out]
      simp [bl]
end Go.Proofs.YtbkokckpjmbjhaaDoor
