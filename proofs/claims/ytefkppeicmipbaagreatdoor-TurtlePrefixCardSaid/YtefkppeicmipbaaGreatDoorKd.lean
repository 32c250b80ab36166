/- References: until, next, Or, LastIndexByte. -/
import Derived.Test.YtefkppeicmipbaaGreatDoorKc
namespace Go.Proofs.YtefkppeicmipbaaGreatDoor
open Go.RowKit Go.Shelf
set_option maxRecDepth 100000
set_option linter.unusedVariables false
theorem rest_nil_front {m l : List UInt8} (h : restL m l = []) : frontL m l = l := by
  have := front_rest m l
  rw [h, List.append_nil] at this
  exact this
theorem until_any (s m : ByteArray) (hs : s.size ≤ 1000000) (hA : AnyAt s m) (w : World) : Calls Tryz.prog 111 #[.string s, .string m] w fun e w' => e = .returned (.tuple #[.string ⟨(frontL m.data.toList s.data.toList).toArray⟩, .string ⟨(restL m.data.toList s.data.toList).toArray⟩]) ∧ Below w.heap.size w w' := by
  have HI := Lib.hid hA
  unfold AnyAt at HI
  rw [indexAny_front] at HI
  have hf := front_take m.data.toList s.data.toList
  have hr := rest_drop m.data.toList s.data.toList
  have hn := rest_nil_front (m := m.data.toList) (l := s.data.toList)
  have hlen := front_len m.data.toList s.data.toList
  obtain ⟨F, hF⟩ : ∃ F, F = frontL m.data.toList s.data.toList := ⟨_, rfl⟩
  obtain ⟨R, hR⟩ : ∃ R, R = restL m.data.toList s.data.toList := ⟨_, rfl⟩
  rw [← hF, ← hR] at hlen
  rw [← hF] at hf hr hn
  rw [← hR] at hr hn
  rw [← hF, ← hR] at HI ⊢
  obtain ⟨f, ef⟩ : ∃ f : ByteArray, f = ⟨F.toArray⟩ := ⟨_, rfl⟩
  obtain ⟨r, er⟩ : ∃ r : ByteArray, r = ⟨R.toArray⟩ := ⟨_, rfl⟩
  rw [← ef, ← er]
  rw [← Lib.size_eq] at hlen
  have h1 : s.extract 0 F.length = f := by
    rw [ef]; apply ba_extK
    rw [← Lib.toList_data, Lib.extract_toList, List.drop_zero, Nat.sub_zero]; exact hf
  have h2 : s.extract F.length s.size = r := by
    rw [er]; apply ba_extK
    rw [← Lib.toList_data, Lib.extract_toList, List.take_of_length_le (by rw [List.length_drop, ← Lib.size_eq]; omega)]; exact hr
  have hsi : (s.size : Int) ≤ 1000000 := by omega
  by_cases hz : R = []
  · rw [if_pos hz] at HI
    have hFs : F.length = s.size := by rw [hn hz, ← Lib.size_eq]
    rw [hFs] at h1 h2
    have h3 : r = ByteArray.empty := by rw [← h2]; simp
    have H3 := Lib.hid h3
    clear h3 h2
    clear hn hf hr ef er hF hR hlen hz hFs
    go_enter Tryz.func111, Tryz.ntmps111
    go_wp2_with fail
    refine (HI.out _).mono ?_
    rintro e w1 ⟨rfl, hb⟩
    have HB := Lib.hid hb
    clear hb
    go_wp2_with fail
    go_quiet (fail)
    go_wp2_with fail
    go_ret2
    refine ⟨?_, HB.out.trans ((draws_tK _ _).mono HB.out.size)⟩
    rw [H3.out]
    rfl
  · rw [if_neg hz] at HI
    have hle : (F.length : Int) ≤ s.size := by omega
    have hge : ¬ ((F.length : Int) < 0) := by omega
    generalize F.length = k at *
    clear hn hf hr ef er hF hR hlen hz
    go_enter Tryz.func111, Tryz.ntmps111
    go_wp2_with fail
    refine (HI.out _).mono ?_
    rintro e w1 ⟨rfl, hb⟩
    have HB := Lib.hid hb
    clear hb
    go_wp2_with fail
    go_quiet (fail)
    go_wp2_with fail
    go_ret2
    refine ⟨?_, HB.out.trans ((draws_tK _ _).mono HB.out.size)⟩
    rfl
theorem ealg_any (v : Value) (l : List UInt8) (hl : l.length ≤ 1000000) (w : World) (hv : Bs w v l) : Calls Tryz.prog 130 #[v, .int .u8 47] w fun e w' => e = .returned (.int .i64 (lastI l)) ∧ w' = w := by
  have HV := Lib.hid hv
  obtain ⟨so, cap, rfl, hcap, hmax, hnil, hat⟩ := hv
  obtain ⟨r, hr⟩ : ∃ r, r = lastI l := ⟨_, rfl⟩
  rw [← hr]
  have HR0 := Lib.hid hr
  have hli : (l.length : Int) ≤ 1000000 := by omega
  clear hcap hmax hnil hat hr
  go_enter Tryz.func130, Tryz.ntmps130
  go_wp2_with fail
  go_loopg [5] l.length (fun g s5 wx => g ≤ l.length ∧ s5 = .int .i64 ((g : Int) - 1) ∧ wx = w ∧ r = lastI (l.take g))
  case atStart => exact ⟨Nat.le_refl _, by go_num, rfl, by rw [List.take_of_length_le (Nat.le_refl _)]; exact HR0.out⟩
  case round =>
    obtain ⟨hig, rfl, rfl, hr⟩ := hrel
    have HR := Lib.hid hr
    clear hr
    cases gk with
    | zero =>
      go_wp2_with fail
      go_ret
      refine ⟨?_, rfl⟩
      rw [HR.out]
      rfl
    | succ g =>
      have hil : g < l.length := by omega
      have hge : (0 : Int) ≤ ((g + 1 : Nat) : Int) - 1 := by omega
      obtain ⟨d, hd⟩ : ∃ d, d = l[g] := ⟨_, rfl⟩
      have HD := Lib.hid hd
      have e1 : (((g + 1 : Nat) : Int) - 1) = (g : Int) := by omega
      rw [e1]
      have hlt : (g : Int) < l.length := by omega
      clear hd e1 hge
      have hb : (((d.toNat : Nat) : Int) == 47) = (d == 47) := u8_beq d 47
      obtain ⟨b, off, cap', e, -, -, hat⟩ := (show Bs _ _ _ from HV.out).at (by omega)
      obtain ⟨rfl, rfl⟩ : so = some ⟨b, off, none⟩ ∧ cap = cap' := by simpa using e
      have hcell := hat g hil
      rw [← HD.out] at hcell
      unfold vb at hcell
      clear hat e
      by_cases hcd : d = 47
      · have hb2 : (d == 47) = true := beq_iff_eq.2 hcd
        rw [hb2] at hb
        have HC := Lib.hid hcd
        clear hcd hb2
        go_wp2_with fail
        go_ret
        refine ⟨?_, rfl⟩
        show Ending.returned (Value.int _ _) = Ending.returned (Value.int _ _)
        rw [HR.out, take_snoc hil, ← HD.out, HC.out, lastI_snoc, if_pos rfl, List.length_take, Nat.min_eq_left (by omega)]
      · have hb2 : (d == 47) = false := beq_eq_false_iff_ne.2 hcd
        rw [hb2] at hb
        have HC := Lib.hid hcd
        clear hcd hb2
        go_wp2_with fail
        go_roundg g
        case measure => omega
        case rel =>
          refine ⟨by omega, by go_num, rfl, ?_⟩
          rw [HR.out, take_snoc hil, ← HD.out, lastI_snoc, if_neg HC.out]
theorem blast_any (v : Value) (l : List UInt8) (hl : l.length ≤ 1000000) (w : World) (hv : Bs w v l) : Calls Tryz.prog 114 #[v, .int .u8 47] w fun e w' => e = .returned (.int .i64 (lastI l)) ∧ w' = w := by
  have HE := Lib.hid (ealg_any v l hl w hv)
  go_enter Tryz.func114, Tryz.ntmps114
  go_wp2_with fail
  refine HE.out.mono ?_
  rintro e w1 ⟨rfl, hw⟩
  obtain rfl := hw.symm
  go_wp2_with fail
  go_ret
  exact ⟨rfl, rfl⟩
theorem or_any (b : Nat) (x y : ByteArray) (w : World) (h0 : w.cell? ⟨b, 0, none⟩ = some (.string x)) (h1 : w.cell? ⟨b, 1, none⟩ = some (.string y)) : Calls Tryz.prog 98 #[.slice (some ⟨b, 0, none⟩) 2 2] w fun e w' => e = .returned (.string (if x.data.toList = [] then y else x)) ∧ w' = w := by
  obtain ⟨r, hr⟩ : ∃ r, r = if x.data.toList = [] then y else x := ⟨_, rfl⟩
  rw [← hr]
  have hx : x.toList.isEmpty = decide (x.data.toList = []) := by
    rw [Lib.toList_data]
    cases x.data.toList <;> simp
  have hy : y.toList.isEmpty = decide (y.data.toList = []) := by
    rw [Lib.toList_data]
    cases y.data.toList <;> simp
  have HR := Lib.hid hr
  have ey : y.data.toList = [] → y = ⟨#[]⟩ := fun e => ba_extK e
  have HEY := Lib.hid ey
  clear hr ey
  go_enter Tryz.func98, Tryz.ntmps98
  go_wp2_with fail
  go_loopg [8] 2 (fun g s8 wx => ∃ i : Nat, i + g = 2 ∧ s8 = .int .i64 i ∧ wx = w ∧ (1 ≤ i → x.data.toList = []) ∧ (2 ≤ i → y.data.toList = []))
  case atStart => exact ⟨0, rfl, rfl, rfl, fun h => by omega, fun h => by omega⟩
  case round =>
    obtain ⟨i, hig, rfl, rfl, hi1, hi2⟩ := hrel
    have H1 := Lib.hid hi1
    have H2 := Lib.hid hi2
    clear hi1 hi2
    match gk, hig with
    | 0, hig =>
      obtain rfl : i = 2 := by omega
      clear hig
      go_wp2_with fail
      go_ret
      refine ⟨?_, rfl⟩
      rw [HR.out, if_pos (H1.out (by omega)), HEY.out (H2.out (by omega))]
      rfl
    | 1, hig =>
      obtain rfl : i = 1 := by omega
      clear hig
      by_cases h : y.data.toList = []
      · rw [decide_eq_true h] at hy
        have HY := Lib.hid h
        clear h
        go_wp2_with fail
        go_roundg 0
        case measure => omega
        case rel => exact ⟨2, rfl, by go_num, rfl, fun _ => H1.out (by omega), fun _ => HY.out⟩
      · rw [decide_eq_false h] at hy
        have HY := Lib.hid h
        clear h
        go_wp2_with fail
        go_ret
        refine ⟨?_, rfl⟩
        rw [HR.out, if_pos (H1.out (by omega))]
        rfl
    | 2, hig =>
      obtain rfl : i = 0 := by omega
      clear hig
      by_cases h : x.data.toList = []
      · rw [decide_eq_true h] at hx
        have HX := Lib.hid h
        clear h
        go_wp2_with fail
        go_roundg 1
        case measure => omega
        case rel => exact ⟨1, rfl, by go_num, rfl, fun _ => HX.out, fun h => by omega⟩
      · rw [decide_eq_false h] at hx
        have HX := Lib.hid h
        clear h
        go_wp2_with fail
        go_ret
        refine ⟨?_, rfl⟩
        rw [HR.out, if_neg HX.out]
        rfl
    | g + 3, hig => omega
end Go.Proofs.YtefkppeicmipbaaGreatDoor
