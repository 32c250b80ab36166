/- Signs: what is past blanks and remarks; words and names. -/
import Derived.Test.YtefkppeicmipbaaGreatDoorLf
namespace Go.Proofs.YtefkppeicmipbaaGreatDoor
open Go.RowKit Go.Shelf
set_option maxRecDepth 100000
set_option linter.unusedVariables false
set_option linter.unusedSimpArgs false
theorem results_cell_tmp_row {P : Program} {fn : Func} {p u : Tmp} {ty : TypeId} (h : fn.results = #[.cell p ty, .tmp u]) (tmps : Array Value) (w : World) (g : Nat) (t : TypeId) (cs : Array Value) (fr : Nat × Nat) (d : TypeDesc)
    (hp : tmps.getD p undef = .pointer (some ⟨g, 0, none⟩)) (hg : w.heap[g]? = some (.cells cs t fr))
    (hu : P.underlying ty = some d) (hd : (match d with | .struct _ | .array _ _ => true | _ => false) = true) (hi : (P.info? ty).map (·.size) = some cs.size) :
    (results fn tmps).run P w = .ok (.tuple #[.agg cs, tmps.getD u undef]) w := by
  rw [results_cell_tmp h, hp]
  simp [asAddr, Result.andThen, run_loadVar_row w g t ty cs fr d hg hu hd hi]
/-- A token, of a kind 0 where there is none, and what is behind it. -/
def TokTo (o : Option (Tok × List UInt8)) (w0 : World) (e : Ending) (w' : World) : Prop :=
  ∃ (k : Int) (a b : ByteArray), e = .returned (.tuple #[.agg #[.int .i64 k, .string a], .string b]) ∧ Below w0.heap.size w0 w' ∧ (match o with
    | some q => k = q.1.1 ∧ a = ⟨q.1.2.toArray⟩ ∧ b = ⟨q.2.toArray⟩
    | none => k = 0)
def wordV (l : List UInt8) : Tok × List UInt8 := match nameN11 l with
  | some n => ((2, l.take n), l.drop n)
  | none => ((8, l.takeWhile nameC), l.dropWhile nameC)
theorem undot_len (l : List UInt8) : (undot l).length ≤ l.length := by
  unfold undot
  rw [List.length_reverse]
  refine Nat.le_trans (dropWhile_len _ _) ?_
  rw [List.length_reverse]; exact Nat.le_refl _
theorem takeWhile_len (p : UInt8 → Bool) (l : List UInt8) : (l.takeWhile p).length + (l.dropWhile p).length = l.length := by
  rw [← List.length_append, List.takeWhile_append_dropWhile]
theorem name_le {l : List UInt8} {n : Nat} (h : nameN11 l = some n) : n ≤ l.length := by
  unfold nameN11 at h
  split at h
  · rename_i x hx
    have h1 := takeWhile_len dashC l
    rw [hx, List.length_cons] at h1
    have h2 := undot_len (x.takeWhile dotC)
    have h3 := takeWhile_len dotC x
    cases h
    omega
  · cases h
theorem name_dot {l x : List UInt8} (h : l.dropWhile dashC = 58 :: x) : nameN11 l = some ((l.takeWhile dashC).length + 1 + (undot (x.takeWhile dotC)).length) := by
  unfold nameN11; rw [h]; rfl
theorem name_other {l : List UInt8} (h : ∀ x, l.dropWhile dashC ≠ 58 :: x) : nameN11 l = none := by
  unfold nameN11
  split
  · exact absurd (by assumption) (h _)
  · rfl
theorem wrap64_nat (n : Nat) (h : n ≤ 1000000000) : wrap64 (n : Int) = n := by unfold wrap64; omega
set_option maxHeartbeats 4000000 in
theorem word11 (s : ByteArray) (hs : s.size ≤ 1000000) (w : World) : Calls Tryz.prog 42 #[.string s] w (TokTo (some (wordV s.data.toList)) w) := by
  obtain ⟨l, hl⟩ : ∃ l, l = s.data.toList := ⟨_, rfl⟩
  have HR1 := Lib.hid (fun w => row_dashed s (by omega) w)
  rw [← hl] at HR1 ⊢
  have hsz : s.size = l.length := by rw [hl, Lib.size_eq]
  have htw := takeWhile_len dashC l
  obtain ⟨p, hp⟩ : ∃ p : ByteArray, p = ⟨(l.takeWhile dashC).toArray⟩ := ⟨_, rfl⟩
  obtain ⟨r, hr⟩ : ∃ r : ByteArray, r = ⟨(l.dropWhile dashC).toArray⟩ := ⟨_, rfl⟩
  have hpz : p.size = (l.takeWhile dashC).length := by rw [Lib.size_eq, hp]
  have hrl : r.data.toList = l.dropWhile dashC := by rw [hr]
  rw [← hp, ← hr] at HR1
  have HC := Lib.hid (fun w => scutp_any r ⟨#[58]⟩ w)
  rw [hrl] at HC
  have hal : Below w.heap.size w (w.alloc (.cells #[.int .i64 0, .string ⟨#[]⟩] 47)) := (Below.refl _ _).alloc (Nat.le_refl _) _
  have hb0 := Blk.new w #[.int .i64 0, .string ⟨#[]⟩] 47
  have hsi : (s.size : Int) ≤ 1000000 := by omega
  by_cases hx : ∃ x, l.dropWhile dashC = 58 :: x
  · obtain ⟨x, hx⟩ := hx
    have hpre : Lib.hasPrefix (l.dropWhile dashC) [58] = true := by rw [hx, pre_one]; rfl
    have htp : Lib.trimPrefix (l.dropWhile dashC) [58] = x := by unfold Lib.trimPrefix; rw [if_pos hpre, hx]; rfl
    dsimp only at HC
    rw [hpre, htp] at HC
    obtain ⟨x1, hx1⟩ : ∃ q : ByteArray, q = ⟨x.toArray⟩ := ⟨_, rfl⟩
    have hx1l : x1.data.toList = x := by rw [hx1]
    have hxl : x.length + 1 ≤ l.length := by rw [hx, List.length_cons] at htw; omega
    rw [← hx1] at HC
    have HR2 := Lib.hid (fun w => row_dotted x1 (by rw [Lib.size_eq, hx1l]; omega) w)
    rw [hx1l] at HR2
    obtain ⟨d, hd⟩ : ∃ q : ByteArray, q = ⟨(x.takeWhile dotC).toArray⟩ := ⟨_, rfl⟩
    have hdl : d.data.toList = x.takeWhile dotC := by rw [hd]
    have h3 := takeWhile_len dotC x
    rw [← hd] at HR2
    have HT := Lib.hid (fun w => strimr_any d w (by rw [Lib.size_eq, hdl]; omega))
    rw [hdl] at HT
    obtain ⟨u, hu⟩ : ∃ q : ByteArray, q = ⟨(undot (x.takeWhile dotC)).toArray⟩ := ⟨_, rfl⟩
    have huz : u.size = (undot (x.takeWhile dotC)).length := by rw [Lib.size_eq, hu]
    rw [← hu] at HT
    have hnm := name_dot hx
    obtain ⟨n, hn⟩ : ∃ n, n = (l.takeWhile dashC).length + 1 + (undot (x.takeWhile dotC)).length := ⟨_, rfl⟩
    rw [← hn] at hnm
    have hnl : n ≤ s.size := by rw [hsz]; exact name_le hnm
    rw [← hpz, ← huz] at hn
    have hni : (n : Int) ≤ s.size := by omega
    have HO := Lib.hid (show wordV l = ((2, l.take n), l.drop n) from by unfold wordV; rw [hnm])
    have HE1 := Lib.hid (show s.extract 0 n = ⟨(l.take n).toArray⟩ from ba_extL (by rw [ext_to, List.drop_zero, Nat.sub_zero, ← hl]))
    have HE2 := Lib.hid (show s.extract n s.size = ⟨(l.drop n).toArray⟩ from ba_extL (by rw [ext_from, ← hl]))
    obtain ⟨m, hm⟩ : ∃ m : Nat, m = p.size + 1 := ⟨_, rfl⟩
    have hm1 : (p.size : Int) + 1 = (m : Int) := by rw [hm]; rfl
    have hm2 : (m : Int) + (u.size : Int) = (n : Int) := by rw [hn, hm]; rfl
    have hmn : m ≤ n := by rw [hn, hm]; exact Nat.le_add_right _ _
    have hn9 : n ≤ 1000000000 := Nat.le_trans hnl (Nat.le_trans hs (by decide))
    have hw1 : wrap64 ((p.size : Int) + 1) = (m : Int) := by rw [hm1]; exact wrap64_nat m (Nat.le_trans hmn hn9)
    have hw2 : wrap64 ((m : Int) + (u.size : Int)) = (n : Int) := by rw [hm2]; exact wrap64_nat n hn9
    clear hl hsz htw hp hr hpz hrl hx hpre htp hx1 hx1l hxl hd hdl h3 hu huz hnm hn hs
    clear hm hm1 hm2 hmn hn9
    go_enter Tryz.func42, Tryz.ntmps42
    go_wp2_with fail
    generalize World.alloc w _ = w0 at hal hb0 ⊢
    refine (HR1.out _).mono ?_
    rintro e w1 ⟨rfl, hb1⟩
    have hB1 : Blk w1 w.heap.size _ _ := (hb1.block _ hb0.lt).trans hb0
    have hbe1 := hal.trans (hb1.mono hal.size)
    clear hb1 hb0 hal HR1
    go_wp2_with fail
    refine (HC.out _).mono ?_
    rintro e w2 ⟨rfl, hw⟩
    obtain rfl := hw.symm
    clear hw
    go_wp2_with fail
    refine (HR2.out _).mono ?_
    rintro e w3 ⟨rfl, hb3⟩
    have hB3 : Blk w3 w.heap.size _ _ := (hb3.block _ hB1.lt).trans hB1
    have hbe3 := hbe1.trans (hb3.mono hbe1.size)
    clear hb3 hB1 hbe1
    go_wp2_with fail
    refine (HT.out _).mono ?_
    rintro e w4 ⟨rfl, hw⟩
    obtain rfl := hw.symm
    clear hw
    have z0 := hB3.cell 0
    have z1 := hB3.cell 1
    have y0 := hB3.frozen 0
    have y1 := hB3.frozen 1
    simp only [List.getElem?_toArray, List.getElem?_cons_zero, List.getElem?_cons_succ] at z0 z1
    go_wp2_with fail
    go_region
    go_wp2_with fail
    have hz := (hB3.set 0 (.int .i64 2)).set 1 (.string (s.extract 0 n))
    simp only [List.setIfInBounds_toArray, List.set_cons_zero, List.set_cons_succ] at hz
    have hbz := (hbe3.setCell (p := ⟨w.heap.size, 0, none⟩) (Nat.le_refl _) (.int .i64 2)).setCell (p := ⟨w.heap.size, 1, none⟩) (Nat.le_refl _) (.string (s.extract 0 n))
    try simp only [Exit.inBlock, Exit.then]
    refine bodyPost_ret (results_cell_tmp_row (p := 2) (u := 3) (ty := 47) (by kernel_rfl) _ _ w.heap.size _ _ _ _ rfl hz.drew Tryz.underlying47 rfl (by kernel_rfl)) rfl ?_
    unfold TokTo
    rw [HO.out]
    exact ⟨_, _, _, rfl, below_drew hbz, rfl, HE1.out, HE2.out⟩
  · have hpre : Lib.hasPrefix (l.dropWhile dashC) [58] = false := by
      cases hd : l.dropWhile dashC with
      | nil => exact pre_nil _
      | cons c y =>
        rw [pre_one]
        exact beq_eq_false_iff_ne.2 (fun e => hx ⟨y, by rw [hd, e]⟩)
    dsimp only at HC
    rw [hpre] at HC
    have hnm := name_other (fun x h => hx ⟨x, h⟩)
    have HO := Lib.hid (show wordV l = ((8, l.takeWhile nameC), l.dropWhile nameC) from by unfold wordV; rw [hnm])
    have HR2 := Lib.hid (fun w => row_named s (by omega) w)
    rw [← hl] at HR2
    obtain ⟨a, ha⟩ : ∃ p : ByteArray, p = ⟨(l.takeWhile nameC).toArray⟩ := ⟨_, rfl⟩
    obtain ⟨b, hb⟩ : ∃ p : ByteArray, p = ⟨(l.dropWhile nameC).toArray⟩ := ⟨_, rfl⟩
    rw [← ha, ← hb] at HR2
    have HAB := Lib.hid (And.intro ha hb)
    clear hl hsz htw hp hr hpz hrl hx hpre hnm hs ha hb
    go_enter Tryz.func42, Tryz.ntmps42
    go_wp2_with fail
    generalize World.alloc w _ = w0 at hal hb0 ⊢
    refine (HR1.out _).mono ?_
    rintro e w1 ⟨rfl, hb1⟩
    have hB1 : Blk w1 w.heap.size _ _ := (hb1.block _ hb0.lt).trans hb0
    have hbe1 := hal.trans (hb1.mono hal.size)
    clear hb1 hb0 hal HR1
    go_wp2_with fail
    refine (HC.out _).mono ?_
    rintro e w2 ⟨rfl, hw⟩
    obtain rfl := hw.symm
    clear hw
    have z0 := hB1.cell 0
    have z1 := hB1.cell 1
    have y0 := hB1.frozen 0
    have y1 := hB1.frozen 1
    simp only [List.getElem?_toArray, List.getElem?_cons_zero, List.getElem?_cons_succ] at z0 z1
    go_wp2_with fail
    have hB2 := hB1.set 0 (.int .i64 8)
    have hbe2 := hbe1.setCell (p := ⟨w.heap.size, 0, none⟩) (Nat.le_refl _) (.int .i64 8)
    simp only [List.setIfInBounds_toArray, List.set_cons_zero, List.set_cons_succ] at hB2
    clear z0 z1 y0 y1 hB1 hbe1
    generalize World.setCell w1 _ _ = w3 at hB2 hbe2 ⊢
    refine (HR2.out _).mono ?_
    rintro e w4 ⟨rfl, hb4⟩
    have hB4 : Blk w4 w.heap.size _ _ := (hb4.block _ hB2.lt).trans hB2
    have hbe4 := hbe2.trans (hb4.mono hbe2.size)
    clear hb4 hB2 hbe2
    have z0 := hB4.cell 0
    have z1 := hB4.cell 1
    have y0 := hB4.frozen 0
    have y1 := hB4.frozen 1
    simp only [List.getElem?_toArray, List.getElem?_cons_zero, List.getElem?_cons_succ] at z0 z1
    go_wp2_with fail
    have hz := ((hB4.set 1 (.string a)).set 0 (.int .i64 8)).set 1 (.string a)
    simp only [List.setIfInBounds_toArray, List.set_cons_zero, List.set_cons_succ] at hz
    have hbz := ((hbe4.setCell (p := ⟨w.heap.size, 1, none⟩) (Nat.le_refl _) (.string a)).setCell (p := ⟨w.heap.size, 0, none⟩) (Nat.le_refl _) (.int .i64 8)).setCell (p := ⟨w.heap.size, 1, none⟩) (Nat.le_refl _) (.string a)
    try simp only [Exit.inBlock, Exit.then]
    refine bodyPost_ret (results_cell_tmp_row (p := 2) (u := 3) (ty := 47) (by kernel_rfl) _ _ w.heap.size _ _ _ _ rfl hz Tryz.underlying47 rfl (by kernel_rfl)) rfl ?_
    unfold TokTo
    rw [HO.out]
    exact ⟨_, _, _, rfl, hbz, rfl, HAB.out.1, HAB.out.2⟩
end Go.Proofs.YtefkppeicmipbaaGreatDoor
