/- nt's word. -/
import Derived.Test.YtbkokckpjmbjhaaDoorNg
namespace Go.Proofs.YtbkokckpjmbjhaaDoor
open Go.RowKit Go.Shelf
set_option maxRecDepth 100000
set_option linter.unusedVariables false
set_option maxHeartbeats 8000000 in
theorem word9 (s : ByteArray) (hs : s.size ≤ 1000000) (w : World) : Calls Tryd.prog 27 #[.string s] w (ReadTo (wordL s.data.toList) w) := by
  obtain ⟨l, hl⟩ : ∃ l, l = s.data.toList := ⟨_, rfl⟩
  have HP1 := Lib.hid (fun w => spre_any s ⟨#[60]⟩ w)
  have HP2 := Lib.hid (fun w => spre_any s ⟨#[95, 58]⟩ w)
  have HP3 := Lib.hid (fun w => spre_any s ⟨#[34]⟩ w)
  have HSL := Lib.hid (show s.size = l.length by rw [hl, Lib.size_eq])
  have HX := Lib.hid (fun k => show (s.extract k s.size).data.toList = l.drop k by rw [hl, ext_from])
  rw [← hl] at HP1 HP2 HP3 ⊢
  dsimp only at HP1 HP2 HP3
  clear hl
  have hsm : (s.size : Int) ≤ 1000000 := by omega
  have hex := fun k => ext_size s k
  have HEX := Lib.hid hex
  clear hex
  cases hp1 : Lib.hasPrefix l [60] with
  | true =>
    rw [hp1] at HP1
    have h1 := pre_len hp1
    have HO := Lib.hid (show wordL l = _ from by unfold wordL; rw [if_pos hp1])
    have HRW := Lib.hid (fun w => scut_any (s.extract 1 s.size) 62 (by have := HEX.out 1; omega) w)
    rw [HX.out 1] at HRW
    have hn1 : (1 : Int) ≤ s.size := by have := HSL.out; simp at h1; omega
    have hn1n : 1 ≤ s.size := by have := HSL.out; simp at h1; omega
    clear hp1 h1
    have hal : Below w.heap.size w (w.alloc (.cells #[.int .i64 1, .string ⟨#[]⟩, .string ⟨#[]⟩, .string ⟨#[]⟩] 31)) := (Below.refl _ _).alloc (Nat.le_refl _) _
    have hb1 := Blk.new w #[.int .i64 1, .string ⟨#[]⟩, .string ⟨#[]⟩, .string ⟨#[]⟩] 31
    go_enter Tryd.func27, Tryd.ntmps27
    go_wp2_with fail
    refine (HP1.out _).mono ?_
    rintro e w4 ⟨rfl, hw⟩
    obtain rfl := hw.symm
    go_wp2_with fail
    generalize w.alloc _ = w3 at hal hb1 ⊢
    refine (HRW.out _).mono ?_
    intro e w5 hcut
    unfold CutTo9 at hcut
    obtain ⟨fb, hfb⟩ : ∃ b : Bool, b = (cutL 62 (l.drop 1)).isSome := ⟨_, rfl⟩
    obtain ⟨a', b', he, hb5, hq5⟩ := hcut
    rw [← hfb] at he
    subst he
    have HFB := Lib.hid hfb
    clear hfb
    have HQ5 := Lib.hid hq5
    have hB5 : Blk w5 w.heap.size _ _ := (hb5.block _ hb1.lt).trans hb1
    have hbel5 := hal.trans (hb5.mono hal.size)
    clear hq5
    have z0 := hB5.cell 0
    have z1 := hB5.cell 1
    have z2 := hB5.cell 2
    have z3 := hB5.cell 3
    have y0 := hB5.frozen 0
    have y1 := hB5.frozen 1
    have y2 := hB5.frozen 2
    have y3 := hB5.frozen 3
    simp only [List.getElem?_toArray, List.getElem?_cons_zero, List.getElem?_cons_succ] at z0 z1 z2 z3
    go_wp2_with fail
    have hz := (((((hB5).set 1 (.string a')).set 0 (.int .i64 1)).set 1 (.string a')).set 2 (.string ⟨#[]⟩)).set 3 (.string ⟨#[]⟩)
    simp only [List.setIfInBounds_toArray, List.set_cons_zero, List.set_cons_succ] at hz
    have hbz := (((((hbel5).setCell (p := ⟨w.heap.size, 1, none⟩) (Nat.le_refl _) (.string a')).setCell (p := ⟨w.heap.size, 0, none⟩) (Nat.le_refl _) (.int .i64 1)).setCell (p := ⟨w.heap.size, 1, none⟩) (Nat.le_refl _) (.string a')).setCell (p := ⟨w.heap.size, 2, none⟩) (Nat.le_refl _) (.string ⟨#[]⟩)).setCell (p := ⟨w.heap.size, 3, none⟩) (Nat.le_refl _) (.string ⟨#[]⟩)
    refine bodyPost_ret (results_cell_tmp_tmp_row (p := 2) (u := 3) (v := 4) (ty := 31) (by kernel_rfl) _ _ (w.heap.size) _ _ _ _ rfl hz Tryd.underlying31 rfl (by kernel_rfl)) rfl ?_
    unfold ReadTo
    rw [HO.out]
    refine ⟨⟨1, a', ⟨#[]⟩, ⟨#[]⟩⟩, b', by rw [Option.isSome_map, ← HFB.out]; rfl, hbz, fun q hq => ?_⟩
    cases hc : cutL 62 (l.drop 1) with
    | none => rw [hc] at hq; cases hq
    | some q' =>
      rw [hc] at hq
      simp only [Option.map_some, Option.some.injEq] at hq
      subst hq
      obtain ⟨e1, e2⟩ := HQ5.out q' hc
      exact ⟨by rw [e1], e2⟩
  | false =>
    rw [hp1] at HP1
    cases hp2 : Lib.hasPrefix l [95, 58] with
    | true =>
      rw [hp2] at HP2
      have h1 := pre_len hp2
      have HO := Lib.hid (show wordL l = _ from by unfold wordL; rw [if_neg (by rw [hp1]; decide), if_pos hp2])
      have HRW := Lib.hid (fun w => row_named (s.extract 2 s.size) (by have := HEX.out 2; omega) w)
      rw [HX.out 2] at HRW
      obtain ⟨lg, hlg⟩ : ∃ x : ByteArray, x = ⟨(List.takeWhile nameB (List.drop 2 l)).toArray⟩ := ⟨_, rfl⟩
      obtain ⟨rs, hrs⟩ : ∃ x : ByteArray, x = ⟨(List.dropWhile nameB (List.drop 2 l)).toArray⟩ := ⟨_, rfl⟩
      rw [← hlg, ← hrs] at HRW
      have HLG := Lib.hid (And.intro hlg hrs)
      have hn1 : (2 : Int) ≤ s.size := by have := HSL.out; simp at h1; omega
      have hn1n : 2 ≤ s.size := by have := HSL.out; simp at h1; omega
      clear hp1 hp2 h1 hlg hrs
      have hal : Below w.heap.size w (w.alloc (.cells #[.int .i64 2, .string ⟨#[]⟩, .string ⟨#[]⟩, .string ⟨#[]⟩] 31)) := (Below.refl _ _).alloc (Nat.le_refl _) _
      have hb1 := Blk.new w #[.int .i64 2, .string ⟨#[]⟩, .string ⟨#[]⟩, .string ⟨#[]⟩] 31
      go_enter Tryd.func27, Tryd.ntmps27
      go_wp2_with fail
      refine (HP1.out _).mono ?_
      rintro e w4 ⟨rfl, hw⟩
      obtain rfl := hw.symm
      go_wp2_with fail
      refine (HP2.out _).mono ?_
      rintro e w4 ⟨rfl, hw⟩
      obtain rfl := hw.symm
      go_wp2_with fail
      generalize w.alloc _ = w3 at hal hb1 ⊢
      refine (HRW.out _).mono ?_
      rintro e w5 ⟨rfl, hb5⟩
      have hB5 : Blk w5 w.heap.size _ _ := (hb5.block _ hb1.lt).trans hb1
      have hbel5 := hal.trans (hb5.mono hal.size)
      have z0 := hB5.cell 0
      have z1 := hB5.cell 1
      have z2 := hB5.cell 2
      have z3 := hB5.cell 3
      have y0 := hB5.frozen 0
      have y1 := hB5.frozen 1
      have y2 := hB5.frozen 2
      have y3 := hB5.frozen 3
      simp only [List.getElem?_toArray, List.getElem?_cons_zero, List.getElem?_cons_succ] at z0 z1 z2 z3
      go_wp2_with fail
      have hz := (((((hB5).set 1 (.string lg)).set 0 (.int .i64 2)).set 1 (.string lg)).set 2 (.string ⟨#[]⟩)).set 3 (.string ⟨#[]⟩)
      simp only [List.setIfInBounds_toArray, List.set_cons_zero, List.set_cons_succ] at hz
      have hbz := (((((hbel5).setCell (p := ⟨w.heap.size, 1, none⟩) (Nat.le_refl _) (.string lg)).setCell (p := ⟨w.heap.size, 0, none⟩) (Nat.le_refl _) (.int .i64 2)).setCell (p := ⟨w.heap.size, 1, none⟩) (Nat.le_refl _) (.string lg)).setCell (p := ⟨w.heap.size, 2, none⟩) (Nat.le_refl _) (.string ⟨#[]⟩)).setCell (p := ⟨w.heap.size, 3, none⟩) (Nat.le_refl _) (.string ⟨#[]⟩)
      refine bodyPost_ret (results_cell_tmp_tmp_row (p := 2) (u := 3) (v := 4) (ty := 31) (by kernel_rfl) _ _ (w.heap.size) _ _ _ _ rfl hz Tryd.underlying31 rfl (by kernel_rfl)) rfl ?_
      unfold ReadTo
      rw [HO.out]
      refine ⟨⟨2, lg, ⟨#[]⟩, ⟨#[]⟩⟩, rs, rfl, hbz, fun q hq => ?_⟩
      simp only [Option.some.injEq] at hq
      subst hq
      exact ⟨by rw [HLG.out.1], HLG.out.2⟩
    | false =>
      rw [hp2] at HP2
      cases hp3 : Lib.hasPrefix l [34] with
      | true =>
        rw [hp3] at HP3
        have h1 := pre_len hp3
        have HO := Lib.hid (show wordL l = _ from by unfold wordL; rw [if_neg (by rw [hp1]; decide), if_neg (by rw [hp2]; decide), if_pos hp3])
        have HRW := Lib.hid (fun w => literal9 (s.extract 1 s.size) (by have := HEX.out 1; omega) w)
        rw [HX.out 1] at HRW
        have hn1 : (1 : Int) ≤ s.size := by have := HSL.out; simp at h1; omega
        have hn1n : 1 ≤ s.size := by have := HSL.out; simp at h1; omega
        clear hp1 hp2 hp3 h1
        have hal : Below w.heap.size w (w.alloc (.cells #[.int .i64 0, .string ⟨#[]⟩, .string ⟨#[]⟩, .string ⟨#[]⟩] 31)) := (Below.refl _ _).alloc (Nat.le_refl _) _
        have hb1 := Blk.new w #[.int .i64 0, .string ⟨#[]⟩, .string ⟨#[]⟩, .string ⟨#[]⟩] 31
        go_enter Tryd.func27, Tryd.ntmps27
        go_wp2_with fail
        refine (HP1.out _).mono ?_
        rintro e w4 ⟨rfl, hw⟩
        obtain rfl := hw.symm
        go_wp2_with fail
        refine (HP2.out _).mono ?_
        rintro e w4 ⟨rfl, hw⟩
        obtain rfl := hw.symm
        go_wp2_with fail
        refine (HP3.out _).mono ?_
        rintro e w4 ⟨rfl, hw⟩
        obtain rfl := hw.symm
        go_wp2_with fail
        generalize w.alloc _ = w3 at hal hb1 ⊢
        refine (HRW.out _).mono ?_
        intro e w5 hcut
        unfold ReadTo at hcut
        obtain ⟨fb, hfb⟩ : ∃ b : Bool, b = (litL (l.drop 1)).isSome := ⟨_, rfl⟩
        obtain ⟨t, r, he, hb5, hq5⟩ := hcut
        rw [← hfb] at he
        subst he
        have HFB := Lib.hid hfb
        clear hfb
        have HQ5 := Lib.hid hq5
        have hB5 : Blk w5 w.heap.size _ _ := (hb5.block _ hb1.lt).trans hb1
        have hbel5 := hal.trans (hb5.mono hal.size)
        clear hq5
        obtain ⟨tk, ts, tl, tt⟩ := t
        unfold Tm.val
        dsimp only
        have z0 := hB5.cell 0
        have z1 := hB5.cell 1
        have z2 := hB5.cell 2
        have z3 := hB5.cell 3
        have y0 := hB5.frozen 0
        have y1 := hB5.frozen 1
        have y2 := hB5.frozen 2
        have y3 := hB5.frozen 3
        simp only [List.getElem?_toArray, List.getElem?_cons_zero, List.getElem?_cons_succ] at z0 z1 z2 z3
        go_wp2_with fail
        have hz := ((((hB5).set 0 (.int .i64 tk)).set 1 (.string ts)).set 2 (.string tl)).set 3 (.string tt)
        simp only [List.setIfInBounds_toArray, List.set_cons_zero, List.set_cons_succ] at hz
        have hbz := ((((hbel5).setCell (p := ⟨w.heap.size, 0, none⟩) (Nat.le_refl _) (.int .i64 tk)).setCell (p := ⟨w.heap.size, 1, none⟩) (Nat.le_refl _) (.string ts)).setCell (p := ⟨w.heap.size, 2, none⟩) (Nat.le_refl _) (.string tl)).setCell (p := ⟨w.heap.size, 3, none⟩) (Nat.le_refl _) (.string tt)
        refine bodyPost_ret (results_cell_tmp_tmp_row (p := 2) (u := 3) (v := 4) (ty := 31) (by kernel_rfl) _ _ (w.heap.size) _ _ _ _ rfl hz Tryd.underlying31 rfl (by kernel_rfl)) rfl ?_
        unfold ReadTo
        rw [HO.out]
        exact ⟨⟨tk, ts, tl, tt⟩, r, by rw [← HFB.out]; rfl, hbz, HQ5.out⟩
      | false =>
        rw [hp3] at HP3
        have HO := Lib.hid (show wordL l = none from by unfold wordL; rw [if_neg (by rw [hp1]; decide), if_neg (by rw [hp2]; decide), if_neg (by rw [hp3]; decide)])
        clear hp1 hp2 hp3
        have hal : Below w.heap.size w (w.alloc (.cells #[.int .i64 0, .string ⟨#[]⟩, .string ⟨#[]⟩, .string ⟨#[]⟩] 31)) := (Below.refl _ _).alloc (Nat.le_refl _) _
        have hb1 := Blk.new w #[.int .i64 0, .string ⟨#[]⟩, .string ⟨#[]⟩, .string ⟨#[]⟩] 31
        go_enter Tryd.func27, Tryd.ntmps27
        go_wp2_with fail
        refine (HP1.out _).mono ?_
        rintro e w4 ⟨rfl, hw⟩
        obtain rfl := hw.symm
        go_wp2_with fail
        refine (HP2.out _).mono ?_
        rintro e w4 ⟨rfl, hw⟩
        obtain rfl := hw.symm
        go_wp2_with fail
        refine (HP3.out _).mono ?_
        rintro e w4 ⟨rfl, hw⟩
        obtain rfl := hw.symm
        generalize w.alloc _ = w5 at hal hb1 ⊢
        have z0 := hb1.cell 0
        have z1 := hb1.cell 1
        have z2 := hb1.cell 2
        have z3 := hb1.cell 3
        have y0 := hb1.frozen 0
        have y1 := hb1.frozen 1
        have y2 := hb1.frozen 2
        have y3 := hb1.frozen 3
        simp only [List.getElem?_toArray, List.getElem?_cons_zero, List.getElem?_cons_succ] at z0 z1 z2 z3
        go_wp2_with fail
        have hz := ((((hb1).set 0 (.int .i64 0)).set 1 (.string ⟨#[]⟩)).set 2 (.string ⟨#[]⟩)).set 3 (.string ⟨#[]⟩)
        simp only [List.setIfInBounds_toArray, List.set_cons_zero, List.set_cons_succ] at hz
        have hbz := ((((hal).setCell (p := ⟨w.heap.size, 0, none⟩) (Nat.le_refl _) (.int .i64 0)).setCell (p := ⟨w.heap.size, 1, none⟩) (Nat.le_refl _) (.string ⟨#[]⟩)).setCell (p := ⟨w.heap.size, 2, none⟩) (Nat.le_refl _) (.string ⟨#[]⟩)).setCell (p := ⟨w.heap.size, 3, none⟩) (Nat.le_refl _) (.string ⟨#[]⟩)
        refine bodyPost_ret (results_cell_tmp_tmp_row (p := 2) (u := 3) (v := 4) (ty := 31) (by kernel_rfl) _ _ (w.heap.size) _ _ _ _ rfl hz Tryd.underlying31 rfl (by kernel_rfl)) rfl ?_
        unfold ReadTo
        rw [HO.out]
        exact ⟨⟨0, ⟨#[]⟩, ⟨#[]⟩, ⟨#[]⟩⟩, ⟨#[]⟩, rfl, hbz, fun q hq => by cases hq⟩
end Go.Proofs.YtbkokckpjmbjhaaDoor
