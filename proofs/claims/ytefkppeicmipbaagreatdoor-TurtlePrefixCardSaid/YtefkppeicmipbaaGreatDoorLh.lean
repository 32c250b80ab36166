/- Signs: what is past blanks and remarks. -/
import Derived.Test.YtefkppeicmipbaaGreatDoorLg
import Derived.ScopeJumps
namespace Go.Proofs.YtefkppeicmipbaaGreatDoor
open Go.RowKit Go.Shelf
set_option maxRecDepth 100000
set_option linter.unusedVariables false
set_option linter.unusedSimpArgs false
theorem ex_u11 (T : Array Value) (F : (Nat → Value) → Array Value) (hF : F (fun i => T.getD i undef) = T) (R : (Nat → Value) → Prop) (h : R (fun i => T.getD i undef)) : ∃ u, ({ tmps := T, defers := [] } : Act) = { tmps := F u, defers := [] } ∧ R u :=
  ⟨fun i => T.getD i undef, by rw [hF], h⟩
theorem past_skip : ∀ l : List UInt8, pastL false l = pastL false (l.dropWhile blankC)
  | [] => rfl
  | c :: r => by
    rw [List.dropWhile_cons]
    cases h : blankC c with
    | true =>
      rw [if_pos rfl, ← past_skip r]
      conv => lhs; unfold pastL
      rw [if_pos h]
    | false => rfl
theorem past_rem : ∀ l : List UInt8, pastL true l = match cutL 10 l with
    | some q => pastL false q.2
    | none => []
  | [] => rfl
  | c :: r => by
    have ih := past_rem r
    have hlt := indexByte_lt r 10
    have e0 : pastL true (c :: r) = if c = 10 then pastL false r else pastL true r := by conv => lhs; unfold pastL
    have e1 : Lib.indexByte (c :: r) 10 = if c == 10 then 0 else (if Lib.indexByte r 10 == -1 then -1 else Lib.indexByte r 10 + 1) := by rw [Lib.indexByte]
    rw [e0, ih]
    unfold cutL
    rw [e1]
    by_cases h : c = 10
    · subst h
      simp
    · rw [if_neg h, show (c == 10) = false from beq_eq_false_iff_ne.2 h]
      by_cases h2 : 0 ≤ Lib.indexByte r 10
      · have e2 : (Lib.indexByte r 10 == -1) = false := beq_eq_false_iff_ne.2 (by omega)
        rw [if_pos h2, e2]
        simp only [Bool.false_eq_true, if_false, if_pos (show 0 ≤ Lib.indexByte r 10 + 1 by omega)]
        rw [show (Lib.indexByte r 10 + 1).toNat + 1 = ((Lib.indexByte r 10).toNat + 1) + 1 by omega, List.drop_succ_cons]
      · have e2 : (Lib.indexByte r 10 == -1) = true := beq_iff_eq.2 (by omega)
        rw [if_neg h2, e2]
        simp only [Bool.false_eq_true, if_false, if_true]
        rfl
theorem past_stay {l : List UInt8} (h : Lib.hasPrefix (l.dropWhile blankC) [35] = false) : pastL false l = l.dropWhile blankC := by
  rw [past_skip]
  cases hd : l.dropWhile blankC with
  | nil => rfl
  | cons c r =>
    rw [hd, pre_one] at h
    have h1 := List.head?_dropWhile_not blankC l
    rw [hd] at h1
    have hb : blankC c = false := by simpa using h1
    unfold pastL
    rw [if_neg (by rw [hb]; decide), if_neg (fun e => by subst e; simp at h)]
theorem past_go {l : List UInt8} (h : Lib.hasPrefix (l.dropWhile blankC) [35] = true) : (pastL false l = match cutL 10 (l.dropWhile blankC) with
    | some q => pastL false q.2
    | none => []) := by
  rw [past_skip]
  cases hd : l.dropWhile blankC with
  | nil => rw [hd, pre_nil] at h; cases h
  | cons c r =>
    rw [hd, pre_one] at h
    have hc : c = 35 := (by simpa using h : (35 : UInt8) = c).symm
    subst hc
    have e1 : pastL false (35 :: r) = pastL true r := rfl
    have e2 : pastL true (35 :: r) = pastL true r := rfl
    rw [e1, ← e2, past_rem]
theorem cut_len {c : UInt8} {l : List UInt8} {q : List UInt8 × List UInt8} (h : cutL c l = some q) : q.2.length < l.length := by
  unfold cutL at h
  split at h
  · rename_i h0
    have := indexByte_lt l c
    cases h
    rw [List.length_drop]
    omega
  · cases h
def strSize (v : Value) : Nat := match v with
  | .string s => s.size
  | _ => 0
set_option maxHeartbeats 4000000 in
theorem past11 (s : ByteArray) (hs : s.size ≤ 1000000) (w : World) :
    Calls Tryz.prog 12 #[.string s] w fun e w' => e = .returned (.string ⟨(pastL false s.data.toList).toArray⟩) ∧ Below w.heap.size w w' := by
  obtain ⟨R, hR⟩ : ∃ R, R = pastL false s.data.toList := ⟨_, rfl⟩
  rw [← hR]
  have HR := Lib.hid hR
  clear hR
  go_enter Tryz.func12, Tryz.ntmps12
  go_wp2_with fail
  refine wp_scope_jumps 0 (fun a' w' => ∃ (s' : ByteArray), ∃ u : Nat → Value, a' = { tmps := #[.string s', u 1, u 2, u 3, u 4, u 5, u 6, u 7, u 8, u 9, u 10, u 11, u 12, u 13], defers := [] } ∧ Below w.heap.size w w' ∧ s'.size ≤ 1000000 ∧ R = pastL false s'.data.toList) (fun a _ => strSize (a.tmps.getD 0 undef)) rfl ?_ ?_
  · skip
    obtain ⟨y, hy⟩ : ∃ y : ByteArray, y = ⟨(s.data.toList.dropWhile blankC).toArray⟩ := ⟨_, rfl⟩
    have hyl : y.data.toList = s.data.toList.dropWhile blankC := by rw [hy]
    have hyz : y.size ≤ s.size := by rw [Lib.size_eq, hyl, Lib.size_eq]; exact dropWhile_len _ _
    have HT := Lib.hid (fun w => sskip_any s w)
    rw [← hy] at HT
    have HP := Lib.hid (fun w => spre_any y ⟨#[35]⟩ w)
    have HC := Lib.hid (fun w => scut_any y 10 (by omega) w)
    rw [hyl] at HP HC
    dsimp only at HP
    have HY := Lib.hid (And.intro hy hyl)
    clear hy hyl
    go_wp2_with fail
    refine wp_label ?_
    go_wp2_with fail
    refine (HT.out _).mono ?_
    rintro e w1 ⟨rfl, hb1⟩
    have hbe := hb1
    clear hb1 HT
    cases hp : Lib.hasPrefix (s.data.toList.dropWhile blankC) [35] with
    | true =>
      rw [hp] at HP
      have HG := Lib.hid (HR.out.trans (past_go hp))
      have HNE := Lib.hid (show ¬ s.data.toList.dropWhile blankC = [] from fun e => by rw [e, pre_nil] at hp; cases hp)
      clear hp
      go_wp2_with fail
      refine (HP.out _).mono ?_
      rintro e w2 ⟨rfl, hw⟩
      obtain rfl := hw.symm
      clear hw
      go_wp2_with fail
      refine (HC.out _).mono ?_
      intro e w3 h
      unfold CutTo9 at h
      obtain ⟨a', b', he, hb3, hq, hn⟩ := h
      have HQ := Lib.hid (And.intro hq hn)
      obtain ⟨fb, hfb⟩ : ∃ b : Bool, b = (cutL 10 (s.data.toList.dropWhile blankC)).isSome := ⟨_, rfl⟩
      rw [← hfb] at he
      subst he
      clear hfb hq hn
      have hbe3 := hbe.trans (hb3.mono hbe.size)
      clear hb3
      go_wp2_with fail
      refine wp_goto ?_
      have hG := HG.out
      have hbz : b'.size < s.size ∧ R = pastL false b'.data.toList := by
        have h0 := HY.out.2
        have hz0 : 0 < s.size := by
          have := hG
          cases hd : s.data.toList.dropWhile blankC with
          | nil => exact absurd hd HNE.out
          | cons c r => have := dropWhile_len blankC s.data.toList; rw [hd, List.length_cons, ← Lib.size_eq] at this; omega
        cases hc : cutL 10 (s.data.toList.dropWhile blankC) with
        | none =>
          rw [hc] at hG
          have := HQ.out.2 hc
          rw [this]
          exact ⟨hz0, hG⟩
        | some q =>
          rw [hc] at hG
          have h1 := (HQ.out.1 q hc).2
          have h2 := cut_len hc
          have h3 := dropWhile_len blankC s.data.toList
          rw [h1]
          exact ⟨by rw [Lib.size_eq, Lib.size_eq]; show q.2.length < _; omega, hG⟩
      exact ⟨rfl, b', ex_u11 _ _ (by kernel_rfl) _ ⟨hbe3, by omega, hbz.2⟩⟩
    | false =>
      rw [hp] at HP
      have HG := Lib.hid (HR.out.trans (past_stay hp))
      clear hp
      go_wp2_with fail
      refine (HP.out _).mono ?_
      rintro e w2 ⟨rfl, hw⟩
      obtain rfl := hw.symm
      clear hw
      go_wp2_with fail
      simp only [Exit.jump]
      go_ret
      exact ⟨by rw [HG.out, ← HY.out.1]; rfl, hbe⟩
  · rintro a wr ⟨s', u, rfl, hb, hs', HR⟩
    obtain ⟨y, hy⟩ : ∃ y : ByteArray, y = ⟨(s'.data.toList.dropWhile blankC).toArray⟩ := ⟨_, rfl⟩
    have hyl : y.data.toList = s'.data.toList.dropWhile blankC := by rw [hy]
    have hyz : y.size ≤ s'.size := by rw [Lib.size_eq, hyl, Lib.size_eq]; exact dropWhile_len _ _
    have HT := Lib.hid (fun w => sskip_any s' w)
    rw [← hy] at HT
    have HP := Lib.hid (fun w => spre_any y ⟨#[35]⟩ w)
    have HC := Lib.hid (fun w => scut_any y 10 (by omega) w)
    rw [hyl] at HP HC
    dsimp only at HP
    have HY := Lib.hid (And.intro hy hyl)
    clear hy hyl
    go_wp2_with fail
    refine (HT.out _).mono ?_
    rintro e w1 ⟨rfl, hb1⟩
    have hbe := hb.trans (hb1.mono hb.size)
    clear hb1 HT
    cases hp : Lib.hasPrefix (s'.data.toList.dropWhile blankC) [35] with
    | true =>
      rw [hp] at HP
      have HG := Lib.hid (HR.trans (past_go hp))
      have HNE := Lib.hid (show ¬ s'.data.toList.dropWhile blankC = [] from fun e => by rw [e, pre_nil] at hp; cases hp)
      clear hp
      go_wp2_with fail
      refine (HP.out _).mono ?_
      rintro e w2 ⟨rfl, hw⟩
      obtain rfl := hw.symm
      clear hw
      go_wp2_with fail
      refine (HC.out _).mono ?_
      intro e w3 h
      unfold CutTo9 at h
      obtain ⟨a', b', he, hb3, hq, hn⟩ := h
      have HQ := Lib.hid (And.intro hq hn)
      obtain ⟨fb, hfb⟩ : ∃ b : Bool, b = (cutL 10 (s'.data.toList.dropWhile blankC)).isSome := ⟨_, rfl⟩
      rw [← hfb] at he
      subst he
      clear hfb hq hn
      have hbe3 := hbe.trans (hb3.mono hbe.size)
      clear hb3
      go_wp2_with fail
      refine wp_goto ?_
      have hG := HG.out
      have hbz : b'.size < s'.size ∧ R = pastL false b'.data.toList := by
        have h0 := HY.out.2
        have hz0 : 0 < s'.size := by
          have := hG
          cases hd : s'.data.toList.dropWhile blankC with
          | nil => exact absurd hd HNE.out
          | cons c r => have := dropWhile_len blankC s'.data.toList; rw [hd, List.length_cons, ← Lib.size_eq] at this; omega
        cases hc : cutL 10 (s'.data.toList.dropWhile blankC) with
        | none =>
          rw [hc] at hG
          have := HQ.out.2 hc
          rw [this]
          exact ⟨hz0, hG⟩
        | some q =>
          rw [hc] at hG
          have h1 := (HQ.out.1 q hc).2
          have h2 := cut_len hc
          have h3 := dropWhile_len blankC s'.data.toList
          rw [h1]
          exact ⟨by rw [Lib.size_eq, Lib.size_eq]; show q.2.length < _; omega, hG⟩
      exact ⟨rfl, ⟨b', ex_u11 _ _ (by kernel_rfl) _ ⟨hbe3, by omega, hbz.2⟩⟩, hbz.1⟩
    | false =>
      rw [hp] at HP
      have HG := Lib.hid (HR.trans (past_stay hp))
      clear hp
      go_wp2_with fail
      refine (HP.out _).mono ?_
      rintro e w2 ⟨rfl, hw⟩
      obtain rfl := hw.symm
      clear hw
      go_wp2_with fail
      simp only [Exit.jump]
      go_ret
      exact ⟨by rw [HG.out, ← HY.out.1]; rfl, hbe⟩
end Go.Proofs.YtefkppeicmipbaaGreatDoor
