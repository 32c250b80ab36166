/- nt's triple. -/
import Derived.Test.YtbkokckpjmbjhaaDoorNh
import Derived.Deep.CutBlock
import Derived.Deep.DeepCutAuto
namespace Go.Proofs.YtbkokckpjmbjhaaDoor
open Go.RowKit Go.Shelf
set_option maxRecDepth 100000
set_option linter.unusedVariables false
def tripleL (l : List UInt8) : Option (Tm × Tm × Tm) := match wordL (skipL l) with
  | none => none
  | some (a, r1) => match wordL (skipL r1) with
    | none => none
    | some (b, r2) => match wordL (skipL r2) with
      | none => none
      | some (c, r3) => if Lib.hasPrefix (skipL r3) [46] = true ∧ overL (Lib.trimPrefix (skipL r3) [46]) = true then some (a, b, c) else none
/-- A line's error; 0: none. -/
def tripE (l : List UInt8) : Int := match tripleL l with
  | none => 6
  | some (a, b, c) => fitsT a b c
def TripTo (l : List UInt8) (w0 : World) (e : Ending) (w' : World) : Prop := Below w0.heap.size w0 w' ∧
  ((tripE l = 0 ∧ ∃ a b c, tripleL l = some (a, b, c) ∧ e = .returned (.tuple #[tri a b c, .int .i64 0])) ∨ (tripE l ≠ 0 ∧ e = .returned (.tuple #[tri ⟨0, ⟨#[]⟩, ⟨#[]⟩, ⟨#[]⟩⟩ ⟨0, ⟨#[]⟩, ⟨#[]⟩, ⟨#[]⟩⟩ ⟨0, ⟨#[]⟩, ⟨#[]⟩, ⟨#[]⟩⟩, .int .i64 (tripE l)])))
theorem skip_len (l : List UInt8) : (skipL l).length ≤ l.length := (List.dropWhile_sublist _).length_le
theorem results_cell_tmp_row {P : Program} {fn : Func} {p u : Tmp} {ty : TypeId} (h : fn.results = #[.cell p ty, .tmp u]) (tmps : Array Value) (w : World) (g : Nat) (t : TypeId) (cs : Array Value) (fr : Nat × Nat) (d : TypeDesc)
    (hp : tmps.getD p undef = .pointer (some ⟨g, 0, none⟩)) (hg : w.heap[g]? = some (.cells cs t fr))
    (hu : P.underlying ty = some d) (hd : (match d with | .struct _ | .array _ _ => true | _ => false) = true) (hi : (P.info? ty).map (·.size) = some cs.size) :
    (results fn tmps).run P w = .ok (.tuple #[.agg cs, tmps.getD u undef]) w := by
  rw [Array.getD_eq_getD_getElem?] at hp
  unfold results
  rw [h]
  simp [asAddr, Result.andThen, hp, run_loadVar_row w g t ty cs fr d hg hu hd hi]
/-- A term's texts are no longer than this. -/
structure Tm.Ok' (x : Tm) (n : Nat) : Prop where
  k : (Lit.int .i64 x.k).wf = true
  s : x.s.size ≤ n
  l : x.l.size ≤ n
  t : x.t.size ≤ n
theorem Tm.Ok'.mono {x : Tm} {n m : Nat} (h : x.Ok' n) (hn : n ≤ m) : x.Ok' m := ⟨h.k, Nat.le_trans h.s hn, Nat.le_trans h.l hn, Nat.le_trans h.t hn⟩
theorem Tm.Ok'.ok {x : Tm} {n : Nat} (h : x.Ok' n) (hn : n ≤ 1000000) : x.Ok := ⟨h.k, by have := h.s; unfold maxLen; omega, by have := h.l; unfold maxLen; omega, by have := h.t; unfold maxLen; omega⟩
theorem cut_len {c : UInt8} {l : List UInt8} {q : List UInt8 × List UInt8} (h : cutL c l = some q) : q.1.length ≤ l.length ∧ q.2.length ≤ l.length := by
  unfold cutL at h
  split at h
  · simp only [Option.some.injEq] at h
    subst h
    simp only [List.length_take, List.length_drop]
    omega
  · cases h
theorem lit_len {l : List UInt8} {q : Tm × List UInt8} (h : litL l = some q) : q.1.Ok' l.length ∧ q.2.length ≤ l.length := by
  unfold litL at h
  cases hq : quotL l with
  | none => rw [hq] at h; cases h
  | some p =>
    obtain ⟨t, r⟩ := p
    have h1 := quot_len hq
    rw [hq] at h
    dsimp only at h h1
    have hd : ∀ k, (r.drop k).length ≤ r.length := fun k => by rw [List.length_drop]; omega
    split at h
    · simp only [Option.some.injEq] at h
      subst h
      have h2 := (List.takeWhile_sublist spokB (l := r.drop 1)).length_le
      have h3 := (List.dropWhile_sublist spokB (l := r.drop 1)).length_le
      have := hd 1
      exact ⟨⟨rfl, by show t.length ≤ _; omega, by show (List.takeWhile spokB (r.drop 1)).length ≤ _; omega, by show 0 ≤ _; omega⟩, by show (List.dropWhile spokB (r.drop 1)).length ≤ _; omega⟩
    · split at h
      · cases hc : cutL 62 (r.drop 3) with
        | none => rw [hc] at h; cases h
        | some p =>
          rw [hc] at h
          simp only [Option.map_some, Option.some.injEq] at h
          subst h
          have h2 := cut_len hc
          have := hd 3
          exact ⟨⟨rfl, by show t.length ≤ _; omega, by show 0 ≤ _; omega, by show p.1.length ≤ _; omega⟩, by show p.2.length ≤ _; omega⟩
      · simp only [Option.some.injEq] at h
        subst h
        exact ⟨⟨rfl, by show t.length ≤ _; omega, by show 0 ≤ _; omega, by show 0 ≤ _; omega⟩, by show r.length ≤ _; omega⟩
theorem word_len {l : List UInt8} {q : Tm × List UInt8} (h : wordL l = some q) : q.1.Ok' l.length ∧ q.2.length ≤ l.length := by
  unfold wordL at h
  have hd : ∀ k, (l.drop k).length ≤ l.length := fun k => by rw [List.length_drop]; omega
  split at h
  · cases hc : cutL 62 (l.drop 1) with
    | none => rw [hc] at h; cases h
    | some p =>
      rw [hc] at h
      simp only [Option.map_some, Option.some.injEq] at h
      subst h
      have h2 := cut_len hc
      have := hd 1
      exact ⟨⟨rfl, by show p.1.length ≤ _; omega, by show 0 ≤ _; omega, by show 0 ≤ _; omega⟩, by show p.2.length ≤ _; omega⟩
  · split at h
    · simp only [Option.some.injEq] at h
      subst h
      have h2 := (List.takeWhile_sublist nameB (l := l.drop 2)).length_le
      have h3 := (List.dropWhile_sublist nameB (l := l.drop 2)).length_le
      have := hd 2
      exact ⟨⟨rfl, by show (List.takeWhile nameB (l.drop 2)).length ≤ _; omega, by show 0 ≤ _; omega, by show 0 ≤ _; omega⟩, by show (List.dropWhile nameB (l.drop 2)).length ≤ _; omega⟩
    · split at h
      · have h2 := lit_len h
        have := hd 1
        exact ⟨h2.1.mono this, by omega⟩
      · cases h
set_option maxHeartbeats 16000000 in
theorem triple9 (s : ByteArray) (hs : s.size ≤ 1000000) (w : World) : Calls Tryd.prog 20 #[.string s] w (TripTo s.data.toList w) := by
  obtain ⟨l, hl⟩ : ∃ l, l = s.data.toList := ⟨_, rfl⟩
  rw [← hl]
  have HLL0 := Lib.hid (show l.length ≤ 1000000 by rw [hl, ← Lib.size_eq]; exact hs)
  have HCS0 := Lib.hid hl.symm
  clear hl hs
  obtain ⟨cs, hcs⟩ : ∃ x, x = s := ⟨_, rfl⟩
  rw [← hcs] at HCS0
  obtain ⟨E, hE⟩ : ∃ E, E = tripE l := ⟨_, rfl⟩
  have HE := Lib.hid hE
  have HE6 := Lib.hid (show tripleL l = none → E ≠ 0 from fun h => by rw [hE]; unfold tripE; rw [h]; decide)
  clear hE
  rw [← hcs]
  clear hcs s
  have hbel : Below w.heap.size w ((w.alloc (.cells #[.int .i64 0, .string ⟨#[]⟩, .string ⟨#[]⟩, .string ⟨#[]⟩, .int .i64 0, .string ⟨#[]⟩, .string ⟨#[]⟩, .string ⟨#[]⟩, .int .i64 0, .string ⟨#[]⟩, .string ⟨#[]⟩, .string ⟨#[]⟩] 33)).alloc (.cells #[.int .i64 0, .string ⟨#[]⟩, .string ⟨#[]⟩, .string ⟨#[]⟩, .int .i64 0, .string ⟨#[]⟩, .string ⟨#[]⟩, .string ⟨#[]⟩, .int .i64 0, .string ⟨#[]⟩, .string ⟨#[]⟩, .string ⟨#[]⟩] 33)) := ((Below.refl _ w).alloc (Nat.le_refl _) _).alloc (by simp) _
  have hR := (Blk.new w #[.int .i64 0, .string ⟨#[]⟩, .string ⟨#[]⟩, .string ⟨#[]⟩, .int .i64 0, .string ⟨#[]⟩, .string ⟨#[]⟩, .string ⟨#[]⟩, .int .i64 0, .string ⟨#[]⟩, .string ⟨#[]⟩, .string ⟨#[]⟩] 33).alloc (.cells #[.int .i64 0, .string ⟨#[]⟩, .string ⟨#[]⟩, .string ⟨#[]⟩, .int .i64 0, .string ⟨#[]⟩, .string ⟨#[]⟩, .string ⟨#[]⟩, .int .i64 0, .string ⟨#[]⟩, .string ⟨#[]⟩, .string ⟨#[]⟩] 33)
  have hT := Blk.new (w.alloc (.cells #[.int .i64 0, .string ⟨#[]⟩, .string ⟨#[]⟩, .string ⟨#[]⟩, .int .i64 0, .string ⟨#[]⟩, .string ⟨#[]⟩, .string ⟨#[]⟩, .int .i64 0, .string ⟨#[]⟩, .string ⟨#[]⟩, .string ⟨#[]⟩] 33)) #[.int .i64 0, .string ⟨#[]⟩, .string ⟨#[]⟩, .string ⟨#[]⟩, .int .i64 0, .string ⟨#[]⟩, .string ⟨#[]⟩, .string ⟨#[]⟩, .int .i64 0, .string ⟨#[]⟩, .string ⟨#[]⟩, .string ⟨#[]⟩] 33
  rw [show (w.alloc (.cells #[.int .i64 0, .string ⟨#[]⟩, .string ⟨#[]⟩, .string ⟨#[]⟩, .int .i64 0, .string ⟨#[]⟩, .string ⟨#[]⟩, .string ⟨#[]⟩, .int .i64 0, .string ⟨#[]⟩, .string ⟨#[]⟩, .string ⟨#[]⟩] 33)).heap.size = w.heap.size + 1 by simp] at hT
  go_enter Tryd.func20, Tryd.ntmps20
  go_wp2_with fail
  refine wp_scope_jumps 0 (fun a' w' => ∃ u0 u1 u3 u4 u5 u7 u8 u9 u10 u11 u12 u13 u14 u15 u16 u17 u18 u19 u20 u21 u22 u23 u24 u25 u26 u27 u28 u29 u30 u31 u32 u33 u34 u35 u36 u37 u38 u39 u40 u41 u42 : Value, a' = { tmps := #[u0, u1, .pointer (some ⟨w.heap.size, 0, none⟩), u3, u4, u5, .int .i64 E, u7, u8, u9, u10, u11, u12, u13, u14, u15, u16, u17, u18, u19, u20, u21, u22, u23, u24, u25, u26, u27, u28, u29, u30, u31, u32, u33, u34, u35, u36, u37, u38, u39, u40, u41, u42], defers := [] } ∧ Below w.heap.size w w' ∧ Blk w' w.heap.size #[.int .i64 0, .string ⟨#[]⟩, .string ⟨#[]⟩, .string ⟨#[]⟩, .int .i64 0, .string ⟨#[]⟩, .string ⟨#[]⟩, .string ⟨#[]⟩, .int .i64 0, .string ⟨#[]⟩, .string ⟨#[]⟩, .string ⟨#[]⟩] 33 ∧ E = tripE l ∧ E ≠ 0) (fun _ _ => 0) rfl ?_ ?_
  · skip
    go_wp2_with fail
    generalize (w.alloc _).alloc _ = w1 at hbel hR hT ⊢
    refine wp_loop_rounds 4 ?_
    rw [rounds_succ]
    have HS := Lib.hid (fun w => sskip_any cs w)
    obtain ⟨ds, hds⟩ : ∃ x : ByteArray, x = ⟨(skipL l).toArray⟩ := ⟨_, rfl⟩
    have hdl : ds.data.toList = skipL l := by rw [hds]
    have hdz : ds.size ≤ 1000000 := by rw [Lib.size_eq, hdl]; have := skip_len l; have := HLL0.out; omega
    rw [HCS0.out, ← hds] at HS
    have HW := Lib.hid (fun w => word9 ds hdz w)
    rw [hdl] at HW
    clear hdz
    go_wp2_with fail
    refine (HS.out _).mono ?_
    rintro e wA ⟨rfl, hbA⟩
    replace hR : Blk wA w.heap.size _ _ := (hbA.block _ hR.lt).trans hR
    replace hT : Blk wA (w.heap.size + 1) _ _ := (hbA.block _ hT.lt).trans hT
    replace hbel := hbel.trans (hbA.mono hbel.size)
    clear hbA hdl hds HS
    go_wp2_with fail
    refine (HW.out _).mono ?_
    intro e wB h
    unfold ReadTo at h
    obtain ⟨fb, hfb⟩ : ∃ b : Bool, b = (wordL (skipL l)).isSome := ⟨_, rfl⟩
    obtain ⟨tt, rr, he, hbB, hq⟩ := h
    rw [← hfb] at he
    subst he
    obtain ⟨k0, s0, l0, t0⟩ := tt
    unfold Tm.val
    dsimp only
    replace hR : Blk wB w.heap.size _ _ := (hbB.block _ hR.lt).trans hR
    replace hT : Blk wB (w.heap.size + 1) _ _ := (hbB.block _ hT.lt).trans hT
    replace hbel := hbel.trans (hbB.mono hbel.size)
    have HFB := Lib.hid hfb
    have HQ := Lib.hid hq
    clear hfb hq hbB HW
    have z0 := hT.cell 0
    have z1 := hT.cell 1
    have z2 := hT.cell 2
    have z3 := hT.cell 3
    have y0 := hT.frozen 0
    have y1 := hT.frozen 1
    have y2 := hT.frozen 2
    have y3 := hT.frozen 3
    simp only [List.getElem?_toArray, List.getElem?_cons_zero, List.getElem?_cons_succ] at z0 z1 z2 z3
    go_upto_region 8 with fail
    clear z0 z1 z2 z3 y0 y1 y2 y3
    replace hT := ((((hT).set 0 (.int .i64 k0)).set 1 (.string s0)).set 2 (.string l0)).set 3 (.string t0)
    simp only [List.setIfInBounds_toArray, List.set_cons_zero, List.set_cons_succ] at hT
    replace hR := Blk.other (Blk.other (Blk.other (Blk.other (hR) ⟨w.heap.size + 1, 0, none⟩ (.int .i64 k0) (by show w.heap.size ≠ w.heap.size + 1; omega)) ⟨w.heap.size + 1, 1, none⟩ (.string s0) (by show w.heap.size ≠ w.heap.size + 1; omega)) ⟨w.heap.size + 1, 2, none⟩ (.string l0) (by show w.heap.size ≠ w.heap.size + 1; omega)) ⟨w.heap.size + 1, 3, none⟩ (.string t0) (by show w.heap.size ≠ w.heap.size + 1; omega)
    replace hbel := ((((hbel).setCell (p := ⟨w.heap.size + 1, 0, none⟩) (Nat.le_succ _) (.int .i64 k0)).setCell (p := ⟨w.heap.size + 1, 1, none⟩) (Nat.le_succ _) (.string s0)).setCell (p := ⟨w.heap.size + 1, 2, none⟩) (Nat.le_succ _) (.string l0)).setCell (p := ⟨w.heap.size + 1, 3, none⟩) (Nat.le_succ _) (.string t0)
    generalize ((((wB).setCell ⟨w.heap.size + 1, 0, none⟩ (.int .i64 k0)).setCell ⟨w.heap.size + 1, 1, none⟩ (.string s0)).setCell ⟨w.heap.size + 1, 2, none⟩ (.string l0)).setCell ⟨w.heap.size + 1, 3, none⟩ (.string t0) = wC at hT hR hbel ⊢
    cases hw : wordL (skipL l) with
    | none =>
      rw [hw] at HFB
      have HN := Lib.hid (show tripleL l = none from by unfold tripleL; rw [hw])
      obtain rfl : fb = false := HFB.out
      clear hw HFB HQ
      obtain rfl : E = 6 := by rw [HE.out]; unfold tripE; rw [HN.out]
      go_wp2_with fail
      go_step3
      exact ⟨rfl, ⟨_, _, _, _, _, _, _, _, _, _, _, _, _, _, _, _, _, _, _, _, _, _, _, _, _, _, _, _, _, _, _, _, _, _, _, _, _, _, _, _, _, rfl, ⟨hbel, hR, HE.out, by decide⟩⟩⟩
    | some q =>
      obtain ⟨a0, r1⟩ := q
      rw [hw] at HFB
      obtain rfl : fb = true := HFB.out
      obtain ⟨e1, e2⟩ := HQ.out _ hw
      have hlen := word_len hw
      dsimp only at e1 e2 hlen
      have HW0 := Lib.hid hw
      have HA0 := Lib.hid e1.symm
      have HOK0 := Lib.hid (show a0.Ok from hlen.1.ok (by have := skip_len l; have := HLL0.out; omega))
      have HLL1 := Lib.hid (show r1.length ≤ 1000000 from by have := skip_len l; have := HLL0.out; omega)
      have HCS1 := Lib.hid (show rr.data.toList = r1 by rw [e2])
      clear hw HFB HQ e1 e2 hlen
      clear HCS0
      obtain ⟨cs, hcs⟩ : ∃ x, x = rr := ⟨_, rfl⟩
      rw [← hcs]
      rw [← hcs] at HCS1
      clear hcs rr
      go_wp2_with fail
      rw [rounds_succ]
      have HS := Lib.hid (fun w => sskip_any cs w)
      obtain ⟨ds, hds⟩ : ∃ x : ByteArray, x = ⟨(skipL r1).toArray⟩ := ⟨_, rfl⟩
      have hdl : ds.data.toList = skipL r1 := by rw [hds]
      have hdz : ds.size ≤ 1000000 := by rw [Lib.size_eq, hdl]; have := skip_len r1; have := HLL1.out; omega
      rw [HCS1.out, ← hds] at HS
      have HW := Lib.hid (fun w => word9 ds hdz w)
      rw [hdl] at HW
      clear hdz
      go_wp2_with fail
      refine (HS.out _).mono ?_
      rintro e wA ⟨rfl, hbA⟩
      replace hR : Blk wA w.heap.size _ _ := (hbA.block _ hR.lt).trans hR
      replace hT : Blk wA (w.heap.size + 1) _ _ := (hbA.block _ hT.lt).trans hT
      replace hbel := hbel.trans (hbA.mono hbel.size)
      clear hbA hdl hds HS
      go_wp2_with fail
      refine (HW.out _).mono ?_
      intro e wB h
      unfold ReadTo at h
      obtain ⟨fb, hfb⟩ : ∃ b : Bool, b = (wordL (skipL r1)).isSome := ⟨_, rfl⟩
      obtain ⟨tt, rr, he, hbB, hq⟩ := h
      rw [← hfb] at he
      subst he
      obtain ⟨k1, s1, l1, t1⟩ := tt
      unfold Tm.val
      dsimp only
      replace hR : Blk wB w.heap.size _ _ := (hbB.block _ hR.lt).trans hR
      replace hT : Blk wB (w.heap.size + 1) _ _ := (hbB.block _ hT.lt).trans hT
      replace hbel := hbel.trans (hbB.mono hbel.size)
      have HFB := Lib.hid hfb
      have HQ := Lib.hid hq
      clear hfb hq hbB HW
      have z0 := hT.cell 4
      have z1 := hT.cell 5
      have z2 := hT.cell 6
      have z3 := hT.cell 7
      have y0 := hT.frozen 4
      have y1 := hT.frozen 5
      have y2 := hT.frozen 6
      have y3 := hT.frozen 7
      simp only [List.getElem?_toArray, List.getElem?_cons_zero, List.getElem?_cons_succ] at z0 z1 z2 z3
      go_upto_region 8 with fail
      clear z0 z1 z2 z3 y0 y1 y2 y3
      replace hT := ((((hT).set 4 (.int .i64 k1)).set 5 (.string s1)).set 6 (.string l1)).set 7 (.string t1)
      simp only [List.setIfInBounds_toArray, List.set_cons_zero, List.set_cons_succ] at hT
      replace hR := Blk.other (Blk.other (Blk.other (Blk.other (hR) ⟨w.heap.size + 1, 4, none⟩ (.int .i64 k1) (by show w.heap.size ≠ w.heap.size + 1; omega)) ⟨w.heap.size + 1, 5, none⟩ (.string s1) (by show w.heap.size ≠ w.heap.size + 1; omega)) ⟨w.heap.size + 1, 6, none⟩ (.string l1) (by show w.heap.size ≠ w.heap.size + 1; omega)) ⟨w.heap.size + 1, 7, none⟩ (.string t1) (by show w.heap.size ≠ w.heap.size + 1; omega)
      replace hbel := ((((hbel).setCell (p := ⟨w.heap.size + 1, 4, none⟩) (Nat.le_succ _) (.int .i64 k1)).setCell (p := ⟨w.heap.size + 1, 5, none⟩) (Nat.le_succ _) (.string s1)).setCell (p := ⟨w.heap.size + 1, 6, none⟩) (Nat.le_succ _) (.string l1)).setCell (p := ⟨w.heap.size + 1, 7, none⟩) (Nat.le_succ _) (.string t1)
      generalize ((((wB).setCell ⟨w.heap.size + 1, 4, none⟩ (.int .i64 k1)).setCell ⟨w.heap.size + 1, 5, none⟩ (.string s1)).setCell ⟨w.heap.size + 1, 6, none⟩ (.string l1)).setCell ⟨w.heap.size + 1, 7, none⟩ (.string t1) = wC at hT hR hbel ⊢
      cases hw : wordL (skipL r1) with
      | none =>
        rw [hw] at HFB
        have HN := Lib.hid (show tripleL l = none from by unfold tripleL; rw [HW0.out]; dsimp only; rw [hw])
        obtain rfl : fb = false := HFB.out
        clear hw HFB HQ
        obtain rfl : E = 6 := by rw [HE.out]; unfold tripE; rw [HN.out]
        go_wp2_with fail
        go_step3
        exact ⟨rfl, ⟨_, _, _, _, _, _, _, _, _, _, _, _, _, _, _, _, _, _, _, _, _, _, _, _, _, _, _, _, _, _, _, _, _, _, _, _, _, _, _, _, _, rfl, ⟨hbel, hR, HE.out, by decide⟩⟩⟩
      | some q =>
        obtain ⟨a1, r2⟩ := q
        rw [hw] at HFB
        obtain rfl : fb = true := HFB.out
        obtain ⟨e1, e2⟩ := HQ.out _ hw
        have hlen := word_len hw
        dsimp only at e1 e2 hlen
        have HW1 := Lib.hid hw
        have HA1 := Lib.hid e1.symm
        have HOK1 := Lib.hid (show a1.Ok from hlen.1.ok (by have := skip_len r1; have := HLL1.out; omega))
        have HLL2 := Lib.hid (show r2.length ≤ 1000000 from by have := skip_len r1; have := HLL1.out; omega)
        have HCS2 := Lib.hid (show rr.data.toList = r2 by rw [e2])
        clear hw HFB HQ e1 e2 hlen
        clear HCS1
        obtain ⟨cs, hcs⟩ : ∃ x, x = rr := ⟨_, rfl⟩
        rw [← hcs]
        rw [← hcs] at HCS2
        clear hcs rr
        go_wp2_with fail
        rw [rounds_succ]
        have HS := Lib.hid (fun w => sskip_any cs w)
        obtain ⟨ds, hds⟩ : ∃ x : ByteArray, x = ⟨(skipL r2).toArray⟩ := ⟨_, rfl⟩
        have hdl : ds.data.toList = skipL r2 := by rw [hds]
        have hdz : ds.size ≤ 1000000 := by rw [Lib.size_eq, hdl]; have := skip_len r2; have := HLL2.out; omega
        rw [HCS2.out, ← hds] at HS
        have HW := Lib.hid (fun w => word9 ds hdz w)
        rw [hdl] at HW
        clear hdz
        go_wp2_with fail
        refine (HS.out _).mono ?_
        rintro e wA ⟨rfl, hbA⟩
        replace hR : Blk wA w.heap.size _ _ := (hbA.block _ hR.lt).trans hR
        replace hT : Blk wA (w.heap.size + 1) _ _ := (hbA.block _ hT.lt).trans hT
        replace hbel := hbel.trans (hbA.mono hbel.size)
        clear hbA hdl hds HS
        go_wp2_with fail
        refine (HW.out _).mono ?_
        intro e wB h
        unfold ReadTo at h
        obtain ⟨fb, hfb⟩ : ∃ b : Bool, b = (wordL (skipL r2)).isSome := ⟨_, rfl⟩
        obtain ⟨tt, rr, he, hbB, hq⟩ := h
        rw [← hfb] at he
        subst he
        obtain ⟨k2, s2, l2, t2⟩ := tt
        unfold Tm.val
        dsimp only
        replace hR : Blk wB w.heap.size _ _ := (hbB.block _ hR.lt).trans hR
        replace hT : Blk wB (w.heap.size + 1) _ _ := (hbB.block _ hT.lt).trans hT
        replace hbel := hbel.trans (hbB.mono hbel.size)
        have HFB := Lib.hid hfb
        have HQ := Lib.hid hq
        clear hfb hq hbB HW
        have z0 := hT.cell 8
        have z1 := hT.cell 9
        have z2 := hT.cell 10
        have z3 := hT.cell 11
        have y0 := hT.frozen 8
        have y1 := hT.frozen 9
        have y2 := hT.frozen 10
        have y3 := hT.frozen 11
        simp only [List.getElem?_toArray, List.getElem?_cons_zero, List.getElem?_cons_succ] at z0 z1 z2 z3
        go_upto_region 8 with fail
        clear z0 z1 z2 z3 y0 y1 y2 y3
        replace hT := ((((hT).set 8 (.int .i64 k2)).set 9 (.string s2)).set 10 (.string l2)).set 11 (.string t2)
        simp only [List.setIfInBounds_toArray, List.set_cons_zero, List.set_cons_succ] at hT
        replace hR := Blk.other (Blk.other (Blk.other (Blk.other (hR) ⟨w.heap.size + 1, 8, none⟩ (.int .i64 k2) (by show w.heap.size ≠ w.heap.size + 1; omega)) ⟨w.heap.size + 1, 9, none⟩ (.string s2) (by show w.heap.size ≠ w.heap.size + 1; omega)) ⟨w.heap.size + 1, 10, none⟩ (.string l2) (by show w.heap.size ≠ w.heap.size + 1; omega)) ⟨w.heap.size + 1, 11, none⟩ (.string t2) (by show w.heap.size ≠ w.heap.size + 1; omega)
        replace hbel := ((((hbel).setCell (p := ⟨w.heap.size + 1, 8, none⟩) (Nat.le_succ _) (.int .i64 k2)).setCell (p := ⟨w.heap.size + 1, 9, none⟩) (Nat.le_succ _) (.string s2)).setCell (p := ⟨w.heap.size + 1, 10, none⟩) (Nat.le_succ _) (.string l2)).setCell (p := ⟨w.heap.size + 1, 11, none⟩) (Nat.le_succ _) (.string t2)
        generalize ((((wB).setCell ⟨w.heap.size + 1, 8, none⟩ (.int .i64 k2)).setCell ⟨w.heap.size + 1, 9, none⟩ (.string s2)).setCell ⟨w.heap.size + 1, 10, none⟩ (.string l2)).setCell ⟨w.heap.size + 1, 11, none⟩ (.string t2) = wC at hT hR hbel ⊢
        cases hw : wordL (skipL r2) with
        | none =>
          rw [hw] at HFB
          have HN := Lib.hid (show tripleL l = none from by unfold tripleL; rw [HW0.out]; dsimp only; rw [HW1.out]; dsimp only; rw [hw])
          obtain rfl : fb = false := HFB.out
          clear hw HFB HQ
          obtain rfl : E = 6 := by rw [HE.out]; unfold tripE; rw [HN.out]
          go_wp2_with fail
          go_step3
          exact ⟨rfl, ⟨_, _, _, _, _, _, _, _, _, _, _, _, _, _, _, _, _, _, _, _, _, _, _, _, _, _, _, _, _, _, _, _, _, _, _, _, _, _, _, _, _, rfl, ⟨hbel, hR, HE.out, by decide⟩⟩⟩
        | some q =>
          obtain ⟨a2, r3⟩ := q
          rw [hw] at HFB
          obtain rfl : fb = true := HFB.out
          obtain ⟨e1, e2⟩ := HQ.out _ hw
          have hlen := word_len hw
          dsimp only at e1 e2 hlen
          have HW2 := Lib.hid hw
          have HA2 := Lib.hid e1.symm
          have HOK2 := Lib.hid (show a2.Ok from hlen.1.ok (by have := skip_len r2; have := HLL2.out; omega))
          have HLL3 := Lib.hid (show r3.length ≤ 1000000 from by have := skip_len r2; have := HLL2.out; omega)
          have HCS3 := Lib.hid (show rr.data.toList = r3 by rw [e2])
          clear hw HFB HQ e1 e2 hlen
          clear HCS2
          obtain ⟨cs, hcs⟩ : ∃ x, x = rr := ⟨_, rfl⟩
          rw [← hcs]
          rw [← hcs] at HCS3
          clear hcs rr
          go_wp2_with fail
          rw [rounds_succ]
          have HS := Lib.hid (fun w => sskip_any cs w)
          obtain ⟨ds, hds⟩ : ∃ x : ByteArray, x = ⟨(skipL r3).toArray⟩ := ⟨_, rfl⟩
          have hdl : ds.data.toList = skipL r3 := by rw [hds]
          rw [HCS3.out, ← hds] at HS
          have HC := Lib.hid (fun w => scutp_any ds ⟨#[46]⟩ w)
          rw [hdl] at HC
          dsimp only at HC
          obtain ⟨es, hes⟩ : ∃ x : ByteArray, x = ⟨(Lib.trimPrefix (skipL r3) [46]).toArray⟩ := ⟨_, rfl⟩
          rw [← hes] at HC
          have HOV := Lib.hid (fun w => over9 es w)
          rw [show es.data.toList = Lib.trimPrefix (skipL r3) [46] by rw [hes]] at HOV
          have HTL := Lib.hid (show tripleL l = if Lib.hasPrefix (skipL r3) [46] = true ∧ overL (Lib.trimPrefix (skipL r3) [46]) = true then some (a0, a1, a2) else none from by unfold tripleL; rw [HW0.out]; dsimp only; rw [HW1.out]; dsimp only; rw [HW2.out])
          generalize Lib.hasPrefix (skipL r3) [46] = pb at HC HTL
          generalize overL (Lib.trimPrefix (skipL r3) [46]) = ob at HOV HTL
          clear hdl hds hes
          go_wp2_with fail
          refine (HS.out _).mono ?_
          rintro e wA ⟨rfl, hbA⟩
          replace hR : Blk wA w.heap.size _ _ := (hbA.block _ hR.lt).trans hR
          replace hT : Blk wA (w.heap.size + 1) _ _ := (hbA.block _ hT.lt).trans hT
          replace hbel := hbel.trans (hbA.mono hbel.size)
          clear hbA HS
          go_wp2_with fail
          refine (HC.out _).mono ?_
          rintro e wB ⟨rfl, hw⟩
          obtain rfl := hw.symm
          clear HC
          have jump : ∀ (u : World), Below w.heap.size w u → Blk u w.heap.size #[.int .i64 0, .string ⟨#[]⟩, .string ⟨#[]⟩, .string ⟨#[]⟩, .int .i64 0, .string ⟨#[]⟩, .string ⟨#[]⟩, .string ⟨#[]⟩, .int .i64 0, .string ⟨#[]⟩, .string ⟨#[]⟩, .string ⟨#[]⟩] 33 → tripleL l = none → True := fun _ _ _ _ => trivial
          clear jump
          cases pb with
          | false =>
            have HN := Lib.hid (show tripleL l = none from by rw [HTL.out]; simp)
            obtain rfl : E = 6 := by rw [HE.out]; unfold tripE; rw [HN.out]
            go_wp2_with fail
            go_step3
            exact ⟨rfl, ⟨_, _, _, _, _, _, _, _, _, _, _, _, _, _, _, _, _, _, _, _, _, _, _, _, _, _, _, _, _, _, _, _, _, _, _, _, _, _, _, _, _, rfl, ⟨hbel, hR, HE.out, by decide⟩⟩⟩
          | true =>
            go_wp2_with fail
            refine (HOV.out _).mono ?_
            rintro e wD ⟨rfl, hbD⟩
            replace hR : Blk wD w.heap.size _ _ := (hbD.block _ hR.lt).trans hR
            replace hT : Blk wD (w.heap.size + 1) _ _ := (hbD.block _ hT.lt).trans hT
            replace hbel := hbel.trans (hbD.mono hbel.size)
            clear hbD HOV
            cases ob with
            | false =>
              have HN := Lib.hid (show tripleL l = none from by rw [HTL.out]; simp)
              obtain rfl : E = 6 := by rw [HE.out]; unfold tripE; rw [HN.out]
              go_wp2_with fail
              go_step3
              exact ⟨rfl, ⟨_, _, _, _, _, _, _, _, _, _, _, _, _, _, _, _, _, _, _, _, _, _, _, _, _, _, _, _, _, _, _, _, _, _, _, _, _, _, _, _, _, rfl, ⟨hbel, hR, HE.out, by decide⟩⟩⟩
            | true =>
              have HS3 := Lib.hid (show tripleL l = some (a0, a1, a2) from by rw [HTL.out]; simp)
              have HEF := Lib.hid (show E = fitsT ⟨k0, s0, l0, t0⟩ ⟨k1, s1, l1, t1⟩ ⟨k2, s2, l2, t2⟩ from by rw [HE.out]; unfold tripE; rw [HS3.out, HA0.out, HA1.out, HA2.out])
              have hfi := fun w => fits_any ⟨k0, s0, l0, t0⟩ ⟨k1, s1, l1, t1⟩ ⟨k2, s2, l2, t2⟩ (by rw [← HA0.out]; exact HOK0.out) (by rw [← HA1.out]; exact HOK1.out) (by rw [← HA2.out]; exact HOK2.out) w
              rw [← HEF.out] at hfi
              unfold tri at hfi
              dsimp only at hfi
              have HFI := Lib.hid hfi
              clear hfi
              have z0 := hT.cell 0
              have z1 := hT.cell 1
              have z2 := hT.cell 2
              have z3 := hT.cell 3
              have z4 := hT.cell 4
              have z5 := hT.cell 5
              have z6 := hT.cell 6
              have z7 := hT.cell 7
              have z8 := hT.cell 8
              have z9 := hT.cell 9
              have z10 := hT.cell 10
              have z11 := hT.cell 11
              simp only [List.getElem?_toArray, List.getElem?_cons_zero, List.getElem?_cons_succ] at z0 z1 z2 z3 z4 z5 z6 z7 z8 z9 z10 z11
              go_wp2_with fail
              clear z0 z1 z2 z3 z4 z5 z6 z7 z8 z9 z10 z11
              refine (HFI.out _).mono ?_
              rintro e wF ⟨rfl, hbF⟩
              replace hR : Blk wF w.heap.size _ _ := (hbF.block _ hR.lt).trans hR
              replace hT : Blk wF (w.heap.size + 1) _ _ := (hbF.block _ hT.lt).trans hT
              replace hbel := hbel.trans (hbF.mono hbel.size)
              clear hbF HFI
              by_cases hE0 : E = 0
              · obtain rfl := hE0
                have z0 := hT.cell 0
                have z1 := hT.cell 1
                have z2 := hT.cell 2
                have z3 := hT.cell 3
                have z4 := hT.cell 4
                have z5 := hT.cell 5
                have z6 := hT.cell 6
                have z7 := hT.cell 7
                have z8 := hT.cell 8
                have z9 := hT.cell 9
                have z10 := hT.cell 10
                have z11 := hT.cell 11
                simp only [List.getElem?_toArray, List.getElem?_cons_zero, List.getElem?_cons_succ] at z0 z1 z2 z3 z4 z5 z6 z7 z8 z9 z10 z11
                have y0 := hR.frozen 0
                have y1 := hR.frozen 1
                have y2 := hR.frozen 2
                have y3 := hR.frozen 3
                have y4 := hR.frozen 4
                have y5 := hR.frozen 5
                have y6 := hR.frozen 6
                have y7 := hR.frozen 7
                have y8 := hR.frozen 8
                have y9 := hR.frozen 9
                have y10 := hR.frozen 10
                have y11 := hR.frozen 11
                have x0 := hR.cell 0
                have x1 := hR.cell 1
                have x2 := hR.cell 2
                have x3 := hR.cell 3
                have x4 := hR.cell 4
                have x5 := hR.cell 5
                have x6 := hR.cell 6
                have x7 := hR.cell 7
                have x8 := hR.cell 8
                have x9 := hR.cell 9
                have x10 := hR.cell 10
                have x11 := hR.cell 11
                simp only [List.getElem?_toArray, List.getElem?_cons_zero, List.getElem?_cons_succ] at x0 x1 x2 x3 x4 x5 x6 x7 x8 x9 x10 x11
                go_wp2_with fail
                simp only [Exit.jump]
                have hz := ((((((((((((hR).set 0 (.int .i64 k0)).set 1 (.string s0)).set 2 (.string l0)).set 3 (.string t0)).set 4 (.int .i64 k1)).set 5 (.string s1)).set 6 (.string l1)).set 7 (.string t1)).set 8 (.int .i64 k2)).set 9 (.string s2)).set 10 (.string l2)).set 11 (.string t2)
                simp only [List.setIfInBounds_toArray, List.set_cons_zero, List.set_cons_succ] at hz
                have hbz := ((((((((((((hbel).setCell (p := ⟨w.heap.size, 0, none⟩) (Nat.le_refl _) (.int .i64 k0)).setCell (p := ⟨w.heap.size, 1, none⟩) (Nat.le_refl _) (.string s0)).setCell (p := ⟨w.heap.size, 2, none⟩) (Nat.le_refl _) (.string l0)).setCell (p := ⟨w.heap.size, 3, none⟩) (Nat.le_refl _) (.string t0)).setCell (p := ⟨w.heap.size, 4, none⟩) (Nat.le_refl _) (.int .i64 k1)).setCell (p := ⟨w.heap.size, 5, none⟩) (Nat.le_refl _) (.string s1)).setCell (p := ⟨w.heap.size, 6, none⟩) (Nat.le_refl _) (.string l1)).setCell (p := ⟨w.heap.size, 7, none⟩) (Nat.le_refl _) (.string t1)).setCell (p := ⟨w.heap.size, 8, none⟩) (Nat.le_refl _) (.int .i64 k2)).setCell (p := ⟨w.heap.size, 9, none⟩) (Nat.le_refl _) (.string s2)).setCell (p := ⟨w.heap.size, 10, none⟩) (Nat.le_refl _) (.string l2)).setCell (p := ⟨w.heap.size, 11, none⟩) (Nat.le_refl _) (.string t2)
                exact bodyPost_ret (results_cell_tmp_row (p := 2) (u := 3) (ty := 33) (by kernel_rfl) _ _ w.heap.size _ _ _ _ rfl hz Tryd.underlying33 rfl (by kernel_rfl)) rfl ⟨hbz, .inl ⟨HE.out.symm, a0, a1, a2, HS3.out, by rw [HA0.out, HA1.out, HA2.out]; rfl⟩⟩
              · have hE1 : (E == 0) = false := by simpa using hE0
                have HE0 := Lib.hid hE0
                clear hE0
                have y0 := hR.frozen 0
                have y1 := hR.frozen 1
                have y2 := hR.frozen 2
                have y3 := hR.frozen 3
                have y4 := hR.frozen 4
                have y5 := hR.frozen 5
                have y6 := hR.frozen 6
                have y7 := hR.frozen 7
                have y8 := hR.frozen 8
                have y9 := hR.frozen 9
                have y10 := hR.frozen 10
                have y11 := hR.frozen 11
                have x0 := hR.cell 0
                have x1 := hR.cell 1
                have x2 := hR.cell 2
                have x3 := hR.cell 3
                have x4 := hR.cell 4
                have x5 := hR.cell 5
                have x6 := hR.cell 6
                have x7 := hR.cell 7
                have x8 := hR.cell 8
                have x9 := hR.cell 9
                have x10 := hR.cell 10
                have x11 := hR.cell 11
                simp only [List.getElem?_toArray, List.getElem?_cons_zero, List.getElem?_cons_succ] at x0 x1 x2 x3 x4 x5 x6 x7 x8 x9 x10 x11
                go_wp2_with fail
                go_step3
                go_wp2_with fail
                simp only [Exit.jump]
                have hz := ((((((((((((hR).set 0 (.int .i64 0)).set 1 (.string ⟨#[]⟩)).set 2 (.string ⟨#[]⟩)).set 3 (.string ⟨#[]⟩)).set 4 (.int .i64 0)).set 5 (.string ⟨#[]⟩)).set 6 (.string ⟨#[]⟩)).set 7 (.string ⟨#[]⟩)).set 8 (.int .i64 0)).set 9 (.string ⟨#[]⟩)).set 10 (.string ⟨#[]⟩)).set 11 (.string ⟨#[]⟩)
                simp only [List.setIfInBounds_toArray, List.set_cons_zero, List.set_cons_succ] at hz
                have hbz := ((((((((((((hbel).setCell (p := ⟨w.heap.size, 0, none⟩) (Nat.le_refl _) (.int .i64 0)).setCell (p := ⟨w.heap.size, 1, none⟩) (Nat.le_refl _) (.string ⟨#[]⟩)).setCell (p := ⟨w.heap.size, 2, none⟩) (Nat.le_refl _) (.string ⟨#[]⟩)).setCell (p := ⟨w.heap.size, 3, none⟩) (Nat.le_refl _) (.string ⟨#[]⟩)).setCell (p := ⟨w.heap.size, 4, none⟩) (Nat.le_refl _) (.int .i64 0)).setCell (p := ⟨w.heap.size, 5, none⟩) (Nat.le_refl _) (.string ⟨#[]⟩)).setCell (p := ⟨w.heap.size, 6, none⟩) (Nat.le_refl _) (.string ⟨#[]⟩)).setCell (p := ⟨w.heap.size, 7, none⟩) (Nat.le_refl _) (.string ⟨#[]⟩)).setCell (p := ⟨w.heap.size, 8, none⟩) (Nat.le_refl _) (.int .i64 0)).setCell (p := ⟨w.heap.size, 9, none⟩) (Nat.le_refl _) (.string ⟨#[]⟩)).setCell (p := ⟨w.heap.size, 10, none⟩) (Nat.le_refl _) (.string ⟨#[]⟩)).setCell (p := ⟨w.heap.size, 11, none⟩) (Nat.le_refl _) (.string ⟨#[]⟩)
                exact bodyPost_ret (results_cell_tmp_row (p := 2) (u := 3) (ty := 33) (by kernel_rfl) _ _ w.heap.size _ _ _ _ rfl hz Tryd.underlying33 rfl (by kernel_rfl)) rfl ⟨hbz, .inr ⟨by rw [← HE.out]; exact HE0.out, by rw [← HE.out]; rfl⟩⟩
  · rintro a' w' ⟨u0, u1, u3, u4, u5, u7, u8, u9, u10, u11, u12, u13, u14, u15, u16, u17, u18, u19, u20, u21, u22, u23, u24, u25, u26, u27, u28, u29, u30, u31, u32, u33, u34, u35, u36, u37, u38, u39, u40, u41, u42, rfl, ⟨hbel, hR, hE, hE0⟩⟩
    have y0 := hR.frozen 0
    have y1 := hR.frozen 1
    have y2 := hR.frozen 2
    have y3 := hR.frozen 3
    have y4 := hR.frozen 4
    have y5 := hR.frozen 5
    have y6 := hR.frozen 6
    have y7 := hR.frozen 7
    have y8 := hR.frozen 8
    have y9 := hR.frozen 9
    have y10 := hR.frozen 10
    have y11 := hR.frozen 11
    have x0 := hR.cell 0
    have x1 := hR.cell 1
    have x2 := hR.cell 2
    have x3 := hR.cell 3
    have x4 := hR.cell 4
    have x5 := hR.cell 5
    have x6 := hR.cell 6
    have x7 := hR.cell 7
    have x8 := hR.cell 8
    have x9 := hR.cell 9
    have x10 := hR.cell 10
    have x11 := hR.cell 11
    simp only [List.getElem?_toArray, List.getElem?_cons_zero, List.getElem?_cons_succ] at x0 x1 x2 x3 x4 x5 x6 x7 x8 x9 x10 x11
    go_wp2_with fail
    simp only [Exit.jump]
    have hz := ((((((((((((hR).set 0 (.int .i64 0)).set 1 (.string ⟨#[]⟩)).set 2 (.string ⟨#[]⟩)).set 3 (.string ⟨#[]⟩)).set 4 (.int .i64 0)).set 5 (.string ⟨#[]⟩)).set 6 (.string ⟨#[]⟩)).set 7 (.string ⟨#[]⟩)).set 8 (.int .i64 0)).set 9 (.string ⟨#[]⟩)).set 10 (.string ⟨#[]⟩)).set 11 (.string ⟨#[]⟩)
    simp only [List.setIfInBounds_toArray, List.set_cons_zero, List.set_cons_succ] at hz
    have hbz := ((((((((((((hbel).setCell (p := ⟨w.heap.size, 0, none⟩) (Nat.le_refl _) (.int .i64 0)).setCell (p := ⟨w.heap.size, 1, none⟩) (Nat.le_refl _) (.string ⟨#[]⟩)).setCell (p := ⟨w.heap.size, 2, none⟩) (Nat.le_refl _) (.string ⟨#[]⟩)).setCell (p := ⟨w.heap.size, 3, none⟩) (Nat.le_refl _) (.string ⟨#[]⟩)).setCell (p := ⟨w.heap.size, 4, none⟩) (Nat.le_refl _) (.int .i64 0)).setCell (p := ⟨w.heap.size, 5, none⟩) (Nat.le_refl _) (.string ⟨#[]⟩)).setCell (p := ⟨w.heap.size, 6, none⟩) (Nat.le_refl _) (.string ⟨#[]⟩)).setCell (p := ⟨w.heap.size, 7, none⟩) (Nat.le_refl _) (.string ⟨#[]⟩)).setCell (p := ⟨w.heap.size, 8, none⟩) (Nat.le_refl _) (.int .i64 0)).setCell (p := ⟨w.heap.size, 9, none⟩) (Nat.le_refl _) (.string ⟨#[]⟩)).setCell (p := ⟨w.heap.size, 10, none⟩) (Nat.le_refl _) (.string ⟨#[]⟩)).setCell (p := ⟨w.heap.size, 11, none⟩) (Nat.le_refl _) (.string ⟨#[]⟩)
    exact bodyPost_ret (results_cell_tmp_row (p := 2) (u := 3) (ty := 33) (by kernel_rfl) _ _ w.heap.size _ _ _ _ rfl hz Tryd.underlying33 rfl (by kernel_rfl)) rfl ⟨hbz, .inr ⟨by rw [← hE]; exact hE0, by rw [← hE]; rfl⟩⟩
end Go.Proofs.YtbkokckpjmbjhaaDoor
