/- nt's literal and word. -/
import Derived.Test.YtbkokckpjmbjhaaDoorNf
namespace Go.Proofs.YtbkokckpjmbjhaaDoor
open Go.RowKit Go.Shelf
set_option maxRecDepth 100000
set_option linter.unusedVariables false
theorem results_cell_tmp_tmp_row {P : Program} {fn : Func} {p u v : Tmp} {ty : TypeId} (h : fn.results = #[.cell p ty, .tmp u, .tmp v]) (tmps : Array Value) (w : World) (g : Nat) (t : TypeId) (cs : Array Value) (fr : Nat × Nat) (d : TypeDesc)
    (hp : tmps.getD p undef = .pointer (some ⟨g, 0, none⟩)) (hg : w.heap[g]? = some (.cells cs t fr))
    (hu : P.underlying ty = some d) (hd : (match d with | .struct _ | .array _ _ => true | _ => false) = true) (hi : (P.info? ty).map (·.size) = some cs.size) :
    (results fn tmps).run P w = .ok (.tuple #[.agg cs, tmps.getD u undef, tmps.getD v undef]) w := by
  rw [Array.getD_eq_getD_getElem?] at hp
  unfold results
  rw [h]
  simp [asAddr, Result.andThen, hp, run_loadVar_row w g t ty cs fr d hg hu hd hi]
/-- What a term's reader answers. -/
def ReadTo (o : Option (Tm × List UInt8)) (w0 : World) (e : Ending) (w' : World) : Prop :=
  ∃ (t : Tm) (r : ByteArray), e = .returned (.tuple #[t.val, .string r, .bool o.isSome]) ∧ Below w0.heap.size w0 w' ∧ ∀ q, o = some q → t = q.1 ∧ r = ⟨q.2.toArray⟩
theorem pre_len {l p : List UInt8} (h : Lib.hasPrefix l p = true) : p.length ≤ l.length := by
  unfold Lib.hasPrefix at h
  exact (List.isPrefixOf_iff_prefix.1 h).length_le
theorem ext_from (s : ByteArray) (k : Nat) : (s.extract k s.size).data.toList = s.data.toList.drop k := by
  rw [← Lib.toList_data, Lib.extract_toList, List.take_of_length_le (by rw [List.length_drop, ← Lib.size_eq]; omega)]
theorem ext_size (s : ByteArray) (k : Nat) : (s.extract k s.size).size ≤ s.size := by
  rw [Lib.size_eq, ext_from, List.length_drop, ← Lib.size_eq]; omega
theorem size_of {b : ByteArray} {l : List UInt8} (h : b = ⟨l.toArray⟩) : b.size = l.length := by subst h; rfl
theorem quot_len : ∀ {l : List UInt8} {q : List UInt8 × List UInt8}, quotL l = some q → q.1.length ≤ l.length ∧ q.2.length ≤ l.length
  | [], q, h => by unfold quotL at h; cases h
  | c :: r, q, h => by
    unfold quotL at h
    split at h
    · simp only [Option.some.injEq] at h; subst h; simp
    · split at h
      · split at h
        · cases h
        · rename_i d r'
          split at h
          · cases h
          · cases hq : quotL r' with
            | none => rw [hq] at h; cases h
            | some p =>
              rw [hq] at h
              simp only [Option.map_some, Option.some.injEq] at h
              subst h
              have := quot_len hq
              simp only [List.length_cons]; omega
      · cases hq : quotL r with
        | none => rw [hq] at h; cases h
        | some p =>
          rw [hq] at h
          simp only [Option.map_some, Option.some.injEq] at h
          subst h
          have := quot_len hq
          simp only [List.length_cons]; omega
set_option maxHeartbeats 8000000 in
theorem literal9 (s : ByteArray) (hs : s.size ≤ 1000000) (w : World) : Calls Tryd.prog 47 #[.string s] w (ReadTo (litL s.data.toList) w) := by
  have HQ := Lib.hid (fun w => quoted9 s hs w)
  obtain ⟨l, hl⟩ : ∃ l, l = s.data.toList := ⟨_, rfl⟩
  rw [← hl] at HQ ⊢
  have hll : l.length ≤ 1000000 := by rw [hl, ← Lib.size_eq]; exact hs
  clear hl hs
  have hal : Below w.heap.size w (w.alloc (.cells #[.int .i64 3, .string ⟨#[]⟩, .string ⟨#[]⟩, .string ⟨#[]⟩] 31)) := (Below.refl _ _).alloc (Nat.le_refl _) _
  have hb1 := Blk.new w #[.int .i64 3, .string ⟨#[]⟩, .string ⟨#[]⟩, .string ⟨#[]⟩] 31
  go_enter Tryd.func47, Tryd.ntmps47
  go_wp2_with fail
  generalize w.alloc _ = w1 at hal hb1 ⊢
  refine (HQ.out _).mono ?_
  intro e w2 h
  unfold QuoTo at h
  obtain ⟨a, b, rfl, hb2, hq⟩ := h
  have hB2 : Blk w2 w.heap.size _ _ := (hb2.block _ hb1.lt).trans hb1
  have hbel := hal.trans (hb2.mono hal.size)
  clear hal hb1 hb2 HQ
  cases hqq : quotL l with
  | none =>
    have HO := Lib.hid (show litL l = none from by unfold litL; rw [hqq])
    clear hqq hq
    have z0 := hB2.cell 0
    have z1 := hB2.cell 1
    have z2 := hB2.cell 2
    have z3 := hB2.cell 3
    have y0 := hB2.frozen 0
    have y1 := hB2.frozen 1
    have y2 := hB2.frozen 2
    have y3 := hB2.frozen 3
    simp only [List.getElem?_toArray, List.getElem?_cons_zero, List.getElem?_cons_succ] at z0 z1 z2 z3
    go_wp2_with fail
    have hz := (((((hB2).set 1 (.string a)).set 0 (.int .i64 3)).set 1 (.string a)).set 2 (.string ⟨#[]⟩)).set 3 (.string ⟨#[]⟩)
    simp only [List.setIfInBounds_toArray, List.set_cons_zero, List.set_cons_succ] at hz
    have hbz := (((((hbel).setCell (p := ⟨w.heap.size, 1, none⟩) (Nat.le_refl _) (.string a)).setCell (p := ⟨w.heap.size, 0, none⟩) (Nat.le_refl _) (.int .i64 3)).setCell (p := ⟨w.heap.size, 1, none⟩) (Nat.le_refl _) (.string a)).setCell (p := ⟨w.heap.size, 2, none⟩) (Nat.le_refl _) (.string ⟨#[]⟩)).setCell (p := ⟨w.heap.size, 3, none⟩) (Nat.le_refl _) (.string ⟨#[]⟩)
    refine bodyPost_ret (results_cell_tmp_tmp_row (p := 2) (u := 3) (v := 4) (ty := 31) (by kernel_rfl) _ _ (w.heap.size) _ _ _ _ rfl hz Tryd.underlying31 rfl (by kernel_rfl)) rfl ?_
    unfold ReadTo
    rw [HO.out]
    exact ⟨⟨3, a, ⟨#[]⟩, ⟨#[]⟩⟩, b, rfl, hbz, fun q hq => by cases hq⟩
  | some q0 =>
    obtain ⟨t, r⟩ := q0
    obtain ⟨ha, hbr⟩ := hq _ hqq
    have hlen := quot_len hqq
    dsimp only at ha hbr hlen
    have HO := Lib.hid (show litL l = _ from by unfold litL; rw [hqq])
    have HBL := Lib.hid (size_of hbr)
    have hbs : b.data.toList = r := by rw [hbr]
    have HP1 := Lib.hid (fun w => spre_any b ⟨#[64]⟩ w)
    have HP2 := Lib.hid (fun w => spre_any b ⟨#[94, 94, 60]⟩ w)
    rw [hbs] at HP1 HP2
    dsimp only at HP1 HP2
    have hbm : (b.size : Int) ≤ 1000000 := by have := HBL.out; omega
    have HA := Lib.hid (And.intro ha hbs)
    have HBR := Lib.hid hbr
    clear hqq hq ha hbs hbr
    have z0 := hB2.cell 0
    have z1 := hB2.cell 1
    have z2 := hB2.cell 2
    have z3 := hB2.cell 3
    have y0 := hB2.frozen 0
    have y1 := hB2.frozen 1
    have y2 := hB2.frozen 2
    have y3 := hB2.frozen 3
    simp only [List.getElem?_toArray, List.getElem?_cons_zero, List.getElem?_cons_succ] at z0 z1 z2 z3
    go_wp2_with fail
    clear z0 z1 z2 z3 y0 y1 y2 y3
    have hB3 := hB2.set 1 (.string a)
    simp only [List.setIfInBounds_toArray, List.set_cons_zero, List.set_cons_succ] at hB3
    have hbel3 := hbel.setCell (p := ⟨w.heap.size, 1, none⟩) (Nat.le_refl _) (.string a)
    generalize w2.setCell ⟨w.heap.size, 1, none⟩ (.string a) = w3 at hB3 hbel3 ⊢
    clear hB2 hbel
    cases hp : Lib.hasPrefix r [64] with
    | true =>
      rw [hp] at HP1
      have h1 := pre_len hp
      have HRW := Lib.hid (fun w => row_spoken (b.extract 1 b.size) (by have := ext_size b 1; omega) w)
      rw [ext_from, HA.out.2] at HRW
      obtain ⟨lg, hlg⟩ : ∃ x : ByteArray, x = ⟨(List.takeWhile spokB (List.drop 1 r)).toArray⟩ := ⟨_, rfl⟩
      obtain ⟨rs, hrs⟩ : ∃ x : ByteArray, x = ⟨(List.dropWhile spokB (List.drop 1 r)).toArray⟩ := ⟨_, rfl⟩
      rw [← hlg, ← hrs] at HRW
      have HLG := Lib.hid (And.intro hlg hrs)
      clear hlg hrs
      have hb1 : (1 : Int) ≤ b.size := by have := HBL.out; simp at h1; omega
      have hb1n : 1 ≤ b.size := by have := HBL.out; simp at h1; omega
      have HP := Lib.hid hp
      clear hp h1
      refine (HP1.out _).mono ?_
      rintro e w4 ⟨rfl, hw⟩
      obtain rfl := hw.symm
      go_wp2_with fail
      refine (HRW.out _).mono ?_
      rintro e w5 ⟨rfl, hb5⟩
      have hB5 : Blk w5 w.heap.size _ _ := (hb5.block _ hB3.lt).trans hB3
      have hbel5 := hbel3.trans (hb5.mono hbel3.size)
      have z0 := hB5.cell 0
      have z1 := hB5.cell 1
      have z2 := hB5.cell 2
      have z3 := hB5.cell 3
      have y0 := hB5.frozen 0
      have y1 := hB5.frozen 1
      have y2 := hB5.frozen 2
      have y3 := hB5.frozen 3
      simp only [List.getElem?_toArray, List.getElem?_cons_zero, List.getElem?_cons_succ] at z0 z1 z2 z3
      go_wp2_with fail
      have hz := (((((hB5).set 2 (.string lg)).set 0 (.int .i64 3)).set 1 (.string a)).set 2 (.string lg)).set 3 (.string ⟨#[]⟩)
      simp only [List.setIfInBounds_toArray, List.set_cons_zero, List.set_cons_succ] at hz
      have hbz := (((((hbel5).setCell (p := ⟨w.heap.size, 2, none⟩) (Nat.le_refl _) (.string lg)).setCell (p := ⟨w.heap.size, 0, none⟩) (Nat.le_refl _) (.int .i64 3)).setCell (p := ⟨w.heap.size, 1, none⟩) (Nat.le_refl _) (.string a)).setCell (p := ⟨w.heap.size, 2, none⟩) (Nat.le_refl _) (.string lg)).setCell (p := ⟨w.heap.size, 3, none⟩) (Nat.le_refl _) (.string ⟨#[]⟩)
      refine bodyPost_ret (results_cell_tmp_tmp_row (p := 2) (u := 3) (v := 4) (ty := 31) (by kernel_rfl) _ _ (w.heap.size) _ _ _ _ rfl hz Tryd.underlying31 rfl (by kernel_rfl)) rfl ?_
      unfold ReadTo
      rw [HO.out]
      dsimp only
      rw [if_pos HP.out]
      refine ⟨⟨3, a, lg, ⟨#[]⟩⟩, rs, rfl, hbz, fun q hq => ?_⟩
      simp only [Option.some.injEq] at hq
      subst hq
      exact ⟨by rw [HA.out.1, HLG.out.1], HLG.out.2⟩
    | false =>
      rw [hp] at HP1
      have HP := Lib.hid hp
      clear hp
      refine (HP1.out _).mono ?_
      rintro e w4 ⟨rfl, hw⟩
      obtain rfl := hw.symm
      cases hp2 : Lib.hasPrefix r [94, 94, 60] with
      | true =>
        rw [hp2] at HP2
        have h1 := pre_len hp2
        have HRW := Lib.hid (fun w => scut_any (b.extract 3 b.size) 62 (by have := ext_size b 3; omega) w)
        rw [ext_from, HA.out.2] at HRW
        have hb1 : (3 : Int) ≤ b.size := by have := HBL.out; simp at h1; omega
        have hb1n : 3 ≤ b.size := by have := HBL.out; simp at h1; omega
        have HPP := Lib.hid hp2
        clear hp2 h1
        go_wp2_with fail
        refine (HP2.out _).mono ?_
        rintro e w4 ⟨rfl, hw⟩
        obtain rfl := hw.symm
        go_wp2_with fail
        refine (HRW.out _).mono ?_
        intro e w5 hcut
        unfold CutTo9 at hcut
        obtain ⟨a', b', rfl, hb5, hq5⟩ := hcut
        have HQ5 := Lib.hid hq5
        have hB5 : Blk w5 w.heap.size _ _ := (hb5.block _ hB3.lt).trans hB3
        have hbel5 := hbel3.trans (hb5.mono hbel3.size)
        clear hq5
        have z0 := hB5.cell 0
        have z1 := hB5.cell 1
        have z2 := hB5.cell 2
        have z3 := hB5.cell 3
        have y0 := hB5.frozen 0
        have y1 := hB5.frozen 1
        have y2 := hB5.frozen 2
        have y3 := hB5.frozen 3
        simp only [List.getElem?_toArray, List.getElem?_cons_zero, List.getElem?_cons_succ] at z0 z1 z2 z3
        go_wp2_with fail
        have hz := (((((hB5).set 3 ((.string a'))).set 0 (.int .i64 3)).set 1 (.string a)).set 2 (.string ⟨#[]⟩)).set 3 ((.string a'))
        simp only [List.setIfInBounds_toArray, List.set_cons_zero, List.set_cons_succ] at hz
        have hbz := (((((hbel5).setCell (p := ⟨w.heap.size, 3, none⟩) (Nat.le_refl _) ((.string a'))).setCell (p := ⟨w.heap.size, 0, none⟩) (Nat.le_refl _) (.int .i64 3)).setCell (p := ⟨w.heap.size, 1, none⟩) (Nat.le_refl _) (.string a)).setCell (p := ⟨w.heap.size, 2, none⟩) (Nat.le_refl _) (.string ⟨#[]⟩)).setCell (p := ⟨w.heap.size, 3, none⟩) (Nat.le_refl _) ((.string a'))
        refine bodyPost_ret (results_cell_tmp_tmp_row (p := 2) (u := 3) (v := 4) (ty := 31) (by kernel_rfl) _ _ (w.heap.size) _ _ _ _ rfl hz Tryd.underlying31 rfl (by kernel_rfl)) rfl ?_
        unfold ReadTo
        rw [HO.out]
        dsimp only
        rw [if_neg (by rw [HP.out]; decide), if_pos HPP.out]
        refine ⟨⟨3, a, ⟨#[]⟩, a'⟩, b', by rw [Option.isSome_map]; rfl, hbz, fun q hq => ?_⟩
        cases hc : cutL 62 (r.drop 3) with
        | none => rw [hc] at hq; cases hq
        | some q' =>
          rw [hc] at hq
          simp only [Option.map_some, Option.some.injEq] at hq
          subst hq
          obtain ⟨e1, e2⟩ := HQ5.out q' hc
          exact ⟨by rw [e1, HA.out.1], e2⟩
      | false =>
        rw [hp2] at HP2
        have HPP := Lib.hid hp2
        clear hp2
        go_wp2_with fail
        refine (HP2.out _).mono ?_
        rintro e w4 ⟨rfl, hw⟩
        obtain rfl := hw.symm
        have z0 := hB3.cell 0
        have z1 := hB3.cell 1
        have z2 := hB3.cell 2
        have z3 := hB3.cell 3
        have y0 := hB3.frozen 0
        have y1 := hB3.frozen 1
        have y2 := hB3.frozen 2
        have y3 := hB3.frozen 3
        simp only [List.getElem?_toArray, List.getElem?_cons_zero, List.getElem?_cons_succ] at z0 z1 z2 z3
        go_wp2_with fail
        have hz := ((((hB3).set 0 (.int .i64 3)).set 1 (.string a)).set 2 (.string ⟨#[]⟩)).set 3 (.string ⟨#[]⟩)
        simp only [List.setIfInBounds_toArray, List.set_cons_zero, List.set_cons_succ] at hz
        have hbz := ((((hbel3).setCell (p := ⟨w.heap.size, 0, none⟩) (Nat.le_refl _) (.int .i64 3)).setCell (p := ⟨w.heap.size, 1, none⟩) (Nat.le_refl _) (.string a)).setCell (p := ⟨w.heap.size, 2, none⟩) (Nat.le_refl _) (.string ⟨#[]⟩)).setCell (p := ⟨w.heap.size, 3, none⟩) (Nat.le_refl _) (.string ⟨#[]⟩)
        refine bodyPost_ret (results_cell_tmp_tmp_row (p := 2) (u := 3) (v := 4) (ty := 31) (by kernel_rfl) _ _ (w.heap.size) _ _ _ _ rfl hz Tryd.underlying31 rfl (by kernel_rfl)) rfl ?_
        unfold ReadTo
        rw [HO.out]
        dsimp only
        rw [if_neg (by rw [HP.out]; decide), if_neg (by rw [HPP.out]; decide)]
        refine ⟨⟨3, a, ⟨#[]⟩, ⟨#[]⟩⟩, b, rfl, hbz, fun q hq => ?_⟩
        simp only [Option.some.injEq] at hq
        subst hq
        exact ⟨by rw [HA.out.1], HBR.out⟩
end Go.Proofs.YtbkokckpjmbjhaaDoor
