/- nt's line ends, remarks, and quoted texts. -/
import Derived.Test.YtbkokckpjmbjhaaDoorNd
namespace Go.Proofs.YtbkokckpjmbjhaaDoor
open Go.RowKit Go.Shelf
set_option maxRecDepth 100000
set_option linter.unusedVariables false
theorem u8_beq (x y : UInt8) : (((x.toNat : Nat) : Int) == ((y.toNat : Nat) : Int)) = (x == y) := by
  by_cases h : x = y
  · subst h; simp
  · have h1 : ¬ ((x.toNat : Nat) : Int) = ((y.toNat : Nat) : Int) := fun e => h (UInt8.toNat_inj.1 (by omega))
    rw [beq_eq_false_iff_ne.2 h1, beq_eq_false_iff_ne.2 h]
theorem u8_ne {x : UInt8} {n : Nat} (y : UInt8) (hy : y.toNat = n) (h : x ≠ y) : (((x.toNat : Nat) : Int) == (n : Int)) = false := by
  rw [← hy, u8_beq]; exact beq_eq_false_iff_ne.2 h
/-- A line without its end. -/
def endL (l : List UInt8) : List UInt8 := Lib.trimSuffix (Lib.trimSuffix l [13, 10]) [10]
theorem trimSuffix_len (l p : List UInt8) : (Lib.trimSuffix l p).length ≤ l.length := by
  unfold Lib.trimSuffix
  split
  · rw [List.length_take]; omega
  · exact Nat.le_refl _
theorem endless9 (s : ByteArray) (hs : s.size ≤ 9223372036854775807) (w : World) :
    Calls Tryd.prog 18 #[.string s] w fun e w' => e = .returned (.string ⟨(endL s.data.toList).toArray⟩) ∧ w' = w := by
  have H1 := Lib.hid (fun w => strims_any s ⟨#[13, 10]⟩ w hs)
  have hl := trimSuffix_len s.data.toList [13, 10]
  have H2 := Lib.hid (fun w => strims_any ⟨(Lib.trimSuffix s.data.toList [13, 10]).toArray⟩ ⟨#[10]⟩ w (by rw [Lib.size_eq]; rw [← Lib.size_eq] at hl; simp only; omega))
  unfold endL
  dsimp only at H1 H2
  go_enter Tryd.func18, Tryd.ntmps18
  go_wp2_with fail
  refine (H1.out _).mono ?_
  rintro e w1 ⟨rfl, hw⟩
  obtain rfl := hw.symm
  go_wp2_with fail
  refine (H2.out _).mono ?_
  rintro e w1 ⟨rfl, hw⟩
  obtain rfl := hw.symm
  go_wp2_with fail
  go_ret
  exact ⟨rfl, rfl⟩
theorem over9 (s : ByteArray) (w : World) :
    Calls Tryd.prog 19 #[.string s] w fun e w' => e = .returned (.bool (overL s.data.toList)) ∧ Below w.heap.size w w' := by
  have H1 := Lib.hid (fun w => sskip_any s w)
  unfold overL
  cases hl : skipL s.data.toList with
  | nil =>
    rw [hl] at H1
    dsimp only
    go_enter Tryd.func19, Tryd.ntmps19
    go_wp2_with fail
    refine (H1.out _).mono ?_
    rintro e w1 ⟨rfl, hb⟩
    go_wp2_with fail
    go_ret
    exact ⟨rfl, hb⟩
  | cons c r =>
    rw [hl] at H1
    dsimp only
    obtain ⟨t, ht⟩ : ∃ t : ByteArray, t = ⟨(c :: r).toArray⟩ := ⟨_, rfl⟩
    rw [← ht] at H1
    have hne : t.toList.isEmpty = false := by rw [ht, Lib.toList_data]; rfl
    have hsz : t.size = r.length + 1 := by rw [ht, Lib.size_eq]; rfl
    have hsz' : (0 : Int) < t.size := by omega
    have HG := Lib.hid (show ∀ h : 0 < t.size, t[0]'h = c from by subst ht; intro h; rfl)
    clear hl ht
    go_enter Tryd.func19, Tryd.ntmps19
    go_wp2_with fail
    refine (H1.out _).mono ?_
    rintro e w1 ⟨rfl, hb⟩
    go_wp2_with fail
    go_ret
    refine ⟨?_, hb⟩
    show Ending.returned (Value.bool _) = _
    have hg : t[0]'(by omega) = c := HG.out (by omega)
    rw [hg]
    exact congrArg (fun b => Ending.returned (Value.bool b)) (u8_beq c 35)
theorem meant9_nil (w : World) : Calls Tryd.prog 75 #[.string ⟨#[]⟩] w fun e w' => e = .returned (.tuple #[.int .u8 0, .bool false]) ∧ w' = w := by
  go_enter Tryd.func75, Tryd.ntmps75
  go_wp2_with fail
  go_ret2
  exact ⟨rfl, rfl⟩
def meantV (c : UInt8) : Value := match meantL c with
  | some x => .tuple #[.int .u8 ((x.toNat : Nat) : Int), .bool true]
  | none => .tuple #[.int .u8 0, .bool false]
set_option maxHeartbeats 2000000 in
theorem meant9 (t : ByteArray) (c : UInt8) (hsz : 1 ≤ t.size) (hG : ∀ h : 0 < t.size, t[0]'h = c) (w : World) : Calls Tryd.prog 75 #[.string t] w fun e w' => e = .returned (meantV c) ∧ w' = w := by
  have HG := Lib.hid (hG (by omega))
  have hne : t.toList.isEmpty = false := by
    cases h : t.toList with
    | nil => rw [Lib.toList_data] at h; have := Lib.size_eq t; rw [h, List.length_nil] at this; omega
    | cons _ _ => rfl
  have hsz' : (0 : Int) < t.size := by omega
  clear hG
  unfold meantV
  by_cases h116 : c = 116
  · subst h116
    have hg : (t[0]'(by omega)).toNat = 116 := by rw [HG.out]; rfl
    have hgi : (((t[0]'(by omega)).toNat : Nat) : Int) = 116 := by rw [hg]; rfl
    have HI := Lib.hid (fun w => sindexb_any ⟨#[116, 110, 95, 95, 114]⟩ 116 w)
    rw [show Lib.indexByte (⟨#[116, 110, 95, 95, 114]⟩ : ByteArray).data.toList (116 : Int).toNat.toUInt8 = 0 from by decide] at HI
    rw [show meantL 116 = some 9 from by decide]
    dsimp only
    clear HG hg
    go_enter Tryd.func75, Tryd.ntmps75
    go_wp2_with fail
    refine (HI.out _).mono ?_
    rintro e w1 ⟨rfl, hw⟩
    obtain rfl := hw.symm
    go_wp2_with fail
    go_ret2
    exact ⟨rfl, rfl⟩
  by_cases h110 : c = 110
  · subst h110
    have hg : (t[0]'(by omega)).toNat = 110 := by rw [HG.out]; rfl
    have hgi : (((t[0]'(by omega)).toNat : Nat) : Int) = 110 := by rw [hg]; rfl
    have HI := Lib.hid (fun w => sindexb_any ⟨#[116, 110, 95, 95, 114]⟩ 110 w)
    rw [show Lib.indexByte (⟨#[116, 110, 95, 95, 114]⟩ : ByteArray).data.toList (110 : Int).toNat.toUInt8 = 1 from by decide] at HI
    rw [show meantL 110 = some 10 from by decide]
    dsimp only
    clear HG hg
    go_enter Tryd.func75, Tryd.ntmps75
    go_wp2_with fail
    refine (HI.out _).mono ?_
    rintro e w1 ⟨rfl, hw⟩
    obtain rfl := hw.symm
    go_wp2_with fail
    go_ret2
    exact ⟨rfl, rfl⟩
  by_cases h114 : c = 114
  · subst h114
    have hg : (t[0]'(by omega)).toNat = 114 := by rw [HG.out]; rfl
    have hgi : (((t[0]'(by omega)).toNat : Nat) : Int) = 114 := by rw [hg]; rfl
    have HI := Lib.hid (fun w => sindexb_any ⟨#[116, 110, 95, 95, 114]⟩ 114 w)
    rw [show Lib.indexByte (⟨#[116, 110, 95, 95, 114]⟩ : ByteArray).data.toList (114 : Int).toNat.toUInt8 = 4 from by decide] at HI
    rw [show meantL 114 = some 13 from by decide]
    dsimp only
    clear HG hg
    go_enter Tryd.func75, Tryd.ntmps75
    go_wp2_with fail
    refine (HI.out _).mono ?_
    rintro e w1 ⟨rfl, hw⟩
    obtain rfl := hw.symm
    go_wp2_with fail
    go_ret2
    exact ⟨rfl, rfl⟩
  by_cases h34 : c = 34
  · subst h34
    have hg : (t[0]'(by omega)).toNat = 34 := by rw [HG.out]; rfl
    have hgi : (((t[0]'(by omega)).toNat : Nat) : Int) = 34 := by rw [hg]; rfl
    rw [show meantL 34 = some 34 from by decide]
    dsimp only
    clear HG hg
    go_enter Tryd.func75, Tryd.ntmps75
    go_wp2_with fail
    go_ret2
    exact ⟨rfl, rfl⟩
  by_cases h92 : c = 92
  · subst h92
    have hg : (t[0]'(by omega)).toNat = 92 := by rw [HG.out]; rfl
    have hgi : (((t[0]'(by omega)).toNat : Nat) : Int) = 92 := by rw [hg]; rfl
    rw [show meantL 92 = some 92 from by decide]
    dsimp only
    clear HG hg
    go_enter Tryd.func75, Tryd.ntmps75
    go_wp2_with fail
    go_ret2
    exact ⟨rfl, rfl⟩
  rw [show meantL c = none from by unfold meantL; simp [h116, h110, h114, h34, h92]]
  dsimp only
  have a1 : ((((t[0]'(by omega)).toNat : Nat) : Int) == 116) = false := by rw [HG.out]; exact u8_ne 116 rfl h116
  have a2 : ((((t[0]'(by omega)).toNat : Nat) : Int) == 110) = false := by rw [HG.out]; exact u8_ne 110 rfl h110
  have a3 : ((((t[0]'(by omega)).toNat : Nat) : Int) == 114) = false := by rw [HG.out]; exact u8_ne 114 rfl h114
  have a4 : ((((t[0]'(by omega)).toNat : Nat) : Int) == 34) = false := by rw [HG.out]; exact u8_ne 34 rfl h34
  have a5 : ((((t[0]'(by omega)).toNat : Nat) : Int) == 92) = false := by rw [HG.out]; exact u8_ne 92 rfl h92
  clear h116 h110 h114 h34 h92
  go_enter Tryd.func75, Tryd.ntmps75
  go_wp2_with fail
  go_ret2
  exact ⟨rfl, rfl⟩
end Go.Proofs.YtbkokckpjmbjhaaDoor
