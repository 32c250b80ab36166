/- References: the walk of IriSplits. -/
import Derived.Test.YtbkokckpjmbjhaaKi
import Derived.Test.YtbkokckpjmbjhaaKl
import Derived.Test.YtbkokckpjmbjhaaKo
import Derived.Test.YtbkokckpjmbjhaaKr
import Derived.Deep.RegionLaw
namespace Go.Proofs.Ytbkokckpjmbjhaa
open Go.RowKit Go.Shelf
set_option maxRecDepth 100000
set_option linter.unusedVariables false
theorem equal5 (a b c d e : ByteArray) (w : World) : (Op.equalIn 10000 26 (.agg #[.string a, .string b, .string c, .string d, .string e]) (.agg #[.string a, .string b, .string c, .string d, .string e])).run Try.prog w = .ok true w := by
  obtain ⟨i, hi⟩ : ∃ i, Try.prog.info? 9 = some i := Option.isSome_iff_exists.1 (by kernel_rfl)
  have hc : Try.prog.cellsOf 9 = 1 := by kernel_rfl
  rw [run_equalIn_array w 9999 _ _ Try.underlying26 hi, hc, show List.range 5 = [0, 1, 2, 3, 4] from rfl]
  have h1 : (a.toList == a.toList) = true := beq_self_eq_true _
  have h2 : (b.toList == b.toList) = true := beq_self_eq_true _
  have h3 : (c.toList == c.toList) = true := beq_self_eq_true _
  have h4 : (d.toList == d.toList) = true := beq_self_eq_true _
  have h5 : (e.toList == e.toList) = true := beq_self_eq_true _
  simp only [Op.eqItems, Nat.zero_mul, Nat.one_mul]
  go_simp
set_option maxHeartbeats 16000000 in
theorem isplits_walk (v0 : Value) (l0 : List Int) (raw : ByteArray) (w : World) (h0 : Nl w v0 l0) :
    Calls Try.prog 3 #[v0, .string raw] w fun e w' => e = .returned (.bool true) ∧ Below w.heap.size w w' := by
  have HK := Lib.hid (fun w => known10_any w)
  have b0 := h0.le
  obtain ⟨x0, hx0⟩ := exists_ba (refL l0)
  have hxs : x0.size ≤ 50 := by rw [Lib.size_eq, hx0]; exact ref_len _
  have HF0 := Lib.hid (fun w h => ref10_any v0 l0 b0 w h x0 hx0)
  have HN0 := Lib.hid h0
  clear h0 hx0 b0
  go_enter Try.func3, Try.ntmps3
  go_wp2_with fail
  refine (HK.out _).mono ?_
  rintro e w1 ⟨rfl, hb1⟩
  by_cases hlen : (100 : Int) < raw.size
  · go_wp2_with fail
    go_ret
    exact ⟨rfl, hb1⟩
  have HB1 := Lib.hid hb1
  have hraw : raw.size ≤ 100 := by omega
  have hri : (raw.size : Int) ≤ 100 := by omega
  clear hb1 hlen
  go_wp2_with fail
  refine (HF0.out _ (HN0.out.below HB1.out)).mono ?_
  rintro e w2 ⟨rfl, hb2⟩
  have hbel := HB1.out.trans (hb2.mono HB1.out.size)
  clear hb2
  go_wp2_with fail
  have hL := Blk.new w2 #[.string x0, .string raw] 9
  replace hbel := hbel.alloc hbel.size (.cells #[.string x0, .string raw] 9)
  generalize w2.heap.size = gl at hL ⊢
  generalize w2.alloc _ = w3 at hL hbel ⊢
  have HL3 := Lib.hid hL
  have HB3 := Lib.hid hbel
  clear hL hbel
  go_loopg [6, 7] 2 (fun g s6 _ wx => ∃ i : Nat, i + g = 2 ∧ s6 = .int .i64 i ∧ Blk wx gl #[.string x0, .string raw] 9 ∧ Below w.heap.size w wx)
  case atStart => exact ⟨0, rfl, rfl, HL3.out, HB3.out⟩
  case round =>
    obtain ⟨i, hig, rfl, hL, hbel⟩ := hrel
    by_cases hi2 : i = 2
    · subst hi2
      go_wp2_with fail
      go_ret
      exact ⟨rfl, hbel⟩
    have hi : i < 2 := by omega
    obtain ⟨cur, hcur, hcs⟩ : ∃ cur : ByteArray, (#[.string x0, .string raw] : Array Value)[i]? = some (.string cur) ∧ cur.size ≤ 100 := by
      obtain rfl | rfl : i = 0 ∨ i = 1 := by omega
      · exact ⟨x0, rfl, by omega⟩
      · exact ⟨raw, rfl, hraw⟩
    have hcl := hL.cell i
    rw [hcur] at hcl
    have hii : (i : Int) < 2 := by omega
    have HIG := Lib.hid hig
    clear hcur hi2 hig
    obtain ⟨p0, hp0⟩ := exists_ba (splitL cur.data.toList).s
    obtain ⟨p1, hp1⟩ := exists_ba (splitL cur.data.toList).a
    obtain ⟨p2, hp2⟩ := exists_ba (splitL cur.data.toList).p
    obtain ⟨p3, hp3⟩ := exists_ba (splitL cur.data.toList).q
    obtain ⟨p4, hp4⟩ := exists_ba (splitL cur.data.toList).f
    have hv : ptV (splitL cur.data.toList) = .agg #[.string p0, .string p1, .string p2, .string p3, .string p4] := by unfold ptV; rw [← hp0, ← hp1, ← hp2, ← hp3, ← hp4]
    have HIS := Lib.hid (fun w => isplit_any cur (by omega) (marksAt_any _) w)
    have HRS := Lib.hid (fun w => rsplit_any cur (by omega) w)
    rw [hv] at HIS HRS
    have hcat := cat5 cur p0 p1 p2 p3 p4 (by rw [hp0, hp1, hp2, hp3, hp4]; exact (split_whole _).symm)
    have hpt := pt_sizes cur.data.toList
    rw [← hp0, ← hp1, ← hp2, ← hp3, ← hp4, ← Lib.size_eq, ← Lib.size_eq, ← Lib.size_eq, ← Lib.size_eq, ← Lib.size_eq, ← Lib.size_eq] at hpt
    have t2 : ¬ 9223372036854775807 < p0.size + p1.size := by omega
    have t3 : ¬ 9223372036854775807 < p0.size + p1.size + p2.size := by omega
    have t4 : ¬ 9223372036854775807 < p0.size + p1.size + p2.size + p3.size := by omega
    have t5 : ¬ 9223372036854775807 < p0.size + p1.size + p2.size + p3.size + p4.size := by omega
    clear hv hp0 hp1 hp2 hp3 hp4 hpt hcs
    go_wp2_with fail
    refine (HIS.out _).mono ?_
    rintro e w4 ⟨rfl, hb4⟩
    replace hcl := (hb4.cell (p := ⟨gl, i, none⟩) hL.lt).trans hcl
    replace hL : Blk w4 gl _ _ := (hb4.block _ hL.lt).trans hL
    replace hbel := hbel.trans (hb4.mono hbel.size)
    clear hb4
    go_upto_region 10 with fail
    have hB := Blk.new w4 #[.string p0, .string p1, .string p2, .string p3, .string p4] 26
    have hal : Below w4.heap.size w4 (w4.alloc (.cells #[.string p0, .string p1, .string p2, .string p3, .string p4] 26)) := (Below.refl _ _).alloc (Nat.le_refl _) _
    replace hcl := (hal.cell (p := ⟨gl, i, none⟩) hL.lt).trans hcl
    replace hL := hL.alloc (.cells #[.string p0, .string p1, .string p2, .string p3, .string p4] 26)
    replace hbel := hbel.alloc hbel.size (.cells #[.string p0, .string p1, .string p2, .string p3, .string p4] 26)
    clear hal
    generalize w4.heap.size = G at hB ⊢
    generalize w4.alloc _ = w5 at hB hbel hL hcl ⊢
    refine wp_region_any (by kernel_rfl) ?_
    change wpAny _ _ _ _ _ _ _ (World.drew _)
    refine wpAny_of_held (S := fun W => Below w.heap.size w W ∧ Blk W G #[.string p0, .string p1, .string p2, .string p3, .string p4] 26 ∧ W.cell? ⟨gl, i, none⟩ = some (.string cur) ∧ Blk W gl #[.string x0, .string raw] 9) _ _ _ _ ?_
    have hS : (fun W => Below w.heap.size w W ∧ Blk W G #[.string p0, .string p1, .string p2, .string p3, .string p4] 26 ∧ W.cell? ⟨gl, i, none⟩ = some (.string cur) ∧ Blk W gl #[.string x0, .string raw] 9) (World.drew w5) := ⟨below_drew hbel, hB.drew, hcl, hL.drew⟩
    refine wpAnyH_take (i := 0) (oi := ⟨some 26, _, _, _, _, _⟩) (v := ?_) rfl (by kernel_rfl) (by kernel_rfl) (by kernel_rfl) (fun _ _ _ h => h) (Or.inl ⟨by first | rfl | (simp [Region.wanted, yielded]; done), ?_⟩) hS ?_
    rotate_left
    · intro wz hSw
      have z0 := hSw.2.1.cell 0
      have z1 := hSw.2.1.cell 1
      have z2 := hSw.2.1.cell 2
      have z3 := hSw.2.1.cell 3
      have z4 := hSw.2.1.cell 4
      simp only [List.getElem?_toArray, List.getElem?_cons_zero, List.getElem?_cons_succ] at z0 z1 z2 z3 z4
      clear hSw
      go_simp
      first | done | with_reducible rfl
    try simp only [Act.put, List.setIfInBounds_toArray, List.set_cons_zero, List.set_cons_succ]
    refine wpAnyH_take (i := 1) (oi := ⟨some 27, _, _, _, _, _⟩) (v := ?_) rfl (by kernel_rfl) (by kernel_rfl) (by kernel_rfl) (fun _ _ _ h => h) (Or.inl ⟨by first | rfl | (simp [Region.wanted, yielded]; done), ?_⟩) hS ?_
    rotate_left
    · intro wz hSw
      clear hSw
      go_simp
      first | done | with_reducible rfl
    try simp only [Act.put, List.setIfInBounds_toArray, List.set_cons_zero, List.set_cons_succ]
    refine wpAnyH_take (i := 2) (oi := ⟨some 28, _, _, _, _, _⟩) (v := ?_) rfl (by kernel_rfl) (by kernel_rfl) (by kernel_rfl) (fun _ _ _ h => h) (Or.inl ⟨by first | rfl | (simp [Region.wanted, yielded]; done), ?_⟩) hS ?_
    rotate_left
    · intro wz hSw
      clear hSw
      go_simp
      first | done | with_reducible rfl
    try simp only [Act.put, List.setIfInBounds_toArray, List.set_cons_zero, List.set_cons_succ]
    refine wpAnyH_take (i := 3) (oi := ⟨some 29, _, _, _, _, _⟩) (v := ?_) rfl (by kernel_rfl) (by kernel_rfl) (by kernel_rfl) (fun _ _ _ h => h) (Or.inl ⟨by first | rfl | (simp [Region.wanted, yielded]; done), ?_⟩) hS ?_
    rotate_left
    · intro wz hSw
      clear hSw
      go_simp
      first | done | with_reducible rfl
    try simp only [Act.put, List.setIfInBounds_toArray, List.set_cons_zero, List.set_cons_succ]
    refine wpAnyH_take (i := 4) (oi := ⟨some 30, _, _, _, _, _⟩) (v := ?_) rfl (by kernel_rfl) (by kernel_rfl) (by kernel_rfl) (fun _ _ _ h => h) (Or.inl ⟨by first | rfl | (simp [Region.wanted, yielded]; done), ?_⟩) hS ?_
    rotate_left
    · intro wz hSw
      have zc := hSw.2.2.1
      clear hSw
      go_simp
      first | done | with_reducible rfl
    try simp only [Act.put, List.setIfInBounds_toArray, List.set_cons_zero, List.set_cons_succ]
    refine wpAnyH_ready (rs := [5]) (by kernel_rfl) (by simp) ?_
    refine AllReadyH.cons (o := ⟨some 31, _, _, _, _, _⟩) rfl (fun K hK => ?_) AllReadyH.nil
    go_simp
    refine (HRS.out _).mono ?_
    rintro e wq5 ⟨rfl, hbq⟩
    go_wp2_with fail
    refine hK.out _ _ (⟨hS.1.trans (hbq.mono hS.1.size), (hbq.block _ hS.2.1.lt).trans hS.2.1, (hbq.cell (p := ⟨gl, i, none⟩) hS.2.2.2.lt).trans hS.2.2.1, (hbq.block _ hS.2.2.2.lt).trans hS.2.2.2⟩) (fun hS => ?_)
    clear hK K
    try simp only [Act.put, List.setIfInBounds_toArray, List.set_cons_zero, List.set_cons_succ]
    refine wpAnyH_take (i := 6) (oi := ⟨some 32, _, _, _, _, _⟩) (v := ?_) rfl (by kernel_rfl) (by kernel_rfl) (by kernel_rfl) (fun _ _ _ h => h) (Or.inl ⟨by first | rfl | (simp [Region.wanted, yielded]; done), ?_⟩) hS ?_
    rotate_left
    · intro wz hSw
      have zq := equal5 p0 p1 p2 p3 p4 wz
      clear hSw
      go_simp
      first | done | with_reducible rfl
    try simp only [Act.put, List.setIfInBounds_toArray, List.set_cons_zero, List.set_cons_succ]
    refine wpAnyH_take (i := 7) (oi := ⟨some 33, _, _, _, _, _⟩) (v := ?_) rfl (by kernel_rfl) (by kernel_rfl) (by kernel_rfl) (fun _ _ _ h => h) (Or.inl ⟨by first | rfl | (simp [Region.wanted, yielded]; done), ?_⟩) hS ?_
    rotate_left
    · intro wz hSw
      clear hSw
      go_simp
      first | done | with_reducible rfl
    try simp only [Act.put, List.setIfInBounds_toArray, List.set_cons_zero, List.set_cons_succ]
    refine wpAnyH_take (i := 8) (oi := ⟨some 34, _, _, _, _, _⟩) (v := ?_) rfl (by kernel_rfl) (by kernel_rfl) (by kernel_rfl) (fun _ _ _ h => h) (Or.inl ⟨by first | rfl | (simp [Region.wanted, yielded]; done), ?_⟩) hS ?_
    rotate_left
    · intro wz hSw
      clear hSw
      go_simp
      first | done | with_reducible rfl
    try simp only [Act.put, List.setIfInBounds_toArray, List.set_cons_zero, List.set_cons_succ]
    refine wpAnyH_take (i := 9) (oi := ⟨some 35, _, _, _, _, _⟩) (v := ?_) rfl (by kernel_rfl) (by kernel_rfl) (by kernel_rfl) (fun _ _ _ h => h) (Or.inl ⟨by first | rfl | (simp [Region.wanted, yielded]; done), ?_⟩) hS ?_
    rotate_left
    · intro wz hSw
      have zc := hSw.2.1.cell 0
      simp only [List.getElem?_toArray, List.getElem?_cons_zero] at zc
      clear hSw
      go_simp
      first | done | with_reducible rfl
    try simp only [Act.put, List.setIfInBounds_toArray, List.set_cons_zero, List.set_cons_succ]
    refine wpAnyH_take (i := 10) (oi := ⟨some 36, _, _, _, _, _⟩) (v := ?_) rfl (by kernel_rfl) (by kernel_rfl) (by kernel_rfl) (fun _ _ _ h => h) (Or.inl ⟨by first | rfl | (simp [Region.wanted, yielded]; done), ?_⟩) hS ?_
    rotate_left
    · intro wz hSw
      clear hSw
      go_simp
      first | done | with_reducible rfl
    try simp only [Act.put, List.setIfInBounds_toArray, List.set_cons_zero, List.set_cons_succ]
    refine wpAnyH_take (i := 11) (oi := ⟨some 37, _, _, _, _, _⟩) (v := ?_) rfl (by kernel_rfl) (by kernel_rfl) (by kernel_rfl) (fun _ _ _ h => h) (Or.inl ⟨by first | rfl | (simp [Region.wanted, yielded]; done), ?_⟩) hS ?_
    rotate_left
    · intro wz hSw
      have zc := hSw.2.1.cell 1
      simp only [List.getElem?_toArray, List.getElem?_cons_zero, List.getElem?_cons_succ] at zc
      clear hSw
      go_simp
      first | done | with_reducible rfl
    try simp only [Act.put, List.setIfInBounds_toArray, List.set_cons_zero, List.set_cons_succ]
    refine wpAnyH_take (i := 12) (oi := ⟨some 38, _, _, _, _, _⟩) (v := ?_) rfl (by kernel_rfl) (by kernel_rfl) (by kernel_rfl) (fun _ _ _ h => h) (Or.inl ⟨by first | rfl | (simp [Region.wanted, yielded]; done), ?_⟩) hS ?_
    rotate_left
    · intro wz hSw
      clear hSw
      go_simp
      first | done | with_reducible rfl
    try simp only [Act.put, List.setIfInBounds_toArray, List.set_cons_zero, List.set_cons_succ]
    refine wpAnyH_take (i := 13) (oi := ⟨some 39, _, _, _, _, _⟩) (v := ?_) rfl (by kernel_rfl) (by kernel_rfl) (by kernel_rfl) (fun _ _ _ h => h) (Or.inl ⟨by first | rfl | (simp [Region.wanted, yielded]; done), ?_⟩) hS ?_
    rotate_left
    · intro wz hSw
      clear hSw
      go_simp
      first | done | with_reducible rfl
    try simp only [Act.put, List.setIfInBounds_toArray, List.set_cons_zero, List.set_cons_succ]
    refine wpAnyH_take (i := 14) (oi := ⟨some 40, _, _, _, _, _⟩) (v := ?_) rfl (by kernel_rfl) (by kernel_rfl) (by kernel_rfl) (fun _ _ _ h => h) (Or.inl ⟨by first | rfl | (simp [Region.wanted, yielded]; done), ?_⟩) hS ?_
    rotate_left
    · intro wz hSw
      have zc := hSw.2.1.cell 2
      simp only [List.getElem?_toArray, List.getElem?_cons_zero, List.getElem?_cons_succ] at zc
      clear hSw
      go_simp
      first | done | with_reducible rfl
    try simp only [Act.put, List.setIfInBounds_toArray, List.set_cons_zero, List.set_cons_succ]
    refine wpAnyH_take (i := 15) (oi := ⟨some 41, _, _, _, _, _⟩) (v := ?_) rfl (by kernel_rfl) (by kernel_rfl) (by kernel_rfl) (fun _ _ _ h => h) (Or.inl ⟨by first | rfl | (simp [Region.wanted, yielded]; done), ?_⟩) hS ?_
    rotate_left
    · intro wz hSw
      clear hSw
      go_simp
      first | done | with_reducible rfl
    try simp only [Act.put, List.setIfInBounds_toArray, List.set_cons_zero, List.set_cons_succ]
    refine wpAnyH_take (i := 16) (oi := ⟨some 42, _, _, _, _, _⟩) (v := ?_) rfl (by kernel_rfl) (by kernel_rfl) (by kernel_rfl) (fun _ _ _ h => h) (Or.inl ⟨by first | rfl | (simp [Region.wanted, yielded]; done), ?_⟩) hS ?_
    rotate_left
    · intro wz hSw
      clear hSw
      go_simp
      first | done | with_reducible rfl
    try simp only [Act.put, List.setIfInBounds_toArray, List.set_cons_zero, List.set_cons_succ]
    refine wpAnyH_take (i := 17) (oi := ⟨some 43, _, _, _, _, _⟩) (v := ?_) rfl (by kernel_rfl) (by kernel_rfl) (by kernel_rfl) (fun _ _ _ h => h) (Or.inl ⟨by first | rfl | (simp [Region.wanted, yielded]; done), ?_⟩) hS ?_
    rotate_left
    · intro wz hSw
      have zc := hSw.2.1.cell 3
      simp only [List.getElem?_toArray, List.getElem?_cons_zero, List.getElem?_cons_succ] at zc
      clear hSw
      go_simp
      first | done | with_reducible rfl
    try simp only [Act.put, List.setIfInBounds_toArray, List.set_cons_zero, List.set_cons_succ]
    refine wpAnyH_take (i := 18) (oi := ⟨some 44, _, _, _, _, _⟩) (v := ?_) rfl (by kernel_rfl) (by kernel_rfl) (by kernel_rfl) (fun _ _ _ h => h) (Or.inl ⟨by first | rfl | (simp [Region.wanted, yielded]; done), ?_⟩) hS ?_
    rotate_left
    · intro wz hSw
      clear hSw
      go_simp
      first | done | with_reducible rfl
    try simp only [Act.put, List.setIfInBounds_toArray, List.set_cons_zero, List.set_cons_succ]
    refine wpAnyH_take (i := 19) (oi := ⟨some 45, _, _, _, _, _⟩) (v := ?_) rfl (by kernel_rfl) (by kernel_rfl) (by kernel_rfl) (fun _ _ _ h => h) (Or.inl ⟨by first | rfl | (simp [Region.wanted, yielded]; done), ?_⟩) hS ?_
    rotate_left
    · intro wz hSw
      clear hSw
      go_simp
      first | done | with_reducible rfl
    try simp only [Act.put, List.setIfInBounds_toArray, List.set_cons_zero, List.set_cons_succ]
    refine wpAnyH_take (i := 20) (oi := ⟨some 46, _, _, _, _, _⟩) (v := ?_) rfl (by kernel_rfl) (by kernel_rfl) (by kernel_rfl) (fun _ _ _ h => h) (Or.inl ⟨by first | rfl | (simp [Region.wanted, yielded]; done), ?_⟩) hS ?_
    rotate_left
    · intro wz hSw
      have zc := hSw.2.1.cell 4
      simp only [List.getElem?_toArray, List.getElem?_cons_zero, List.getElem?_cons_succ] at zc
      clear hSw
      go_simp
      first | done | with_reducible rfl
    try simp only [Act.put, List.setIfInBounds_toArray, List.set_cons_zero, List.set_cons_succ]
    refine wpAnyH_take (i := 21) (oi := ⟨some 47, _, _, _, _, _⟩) (v := ?_) rfl (by kernel_rfl) (by kernel_rfl) (by kernel_rfl) (fun _ _ _ h => h) (Or.inl ⟨by first | rfl | (simp [Region.wanted, yielded]; done), ?_⟩) hS ?_
    rotate_left
    · intro wz hSw
      clear hSw
      go_simp
      first | done | with_reducible rfl
    try simp only [Act.put, List.setIfInBounds_toArray, List.set_cons_zero, List.set_cons_succ]
    refine wpAnyH_take (i := 22) (oi := ⟨some 48, _, _, _, _, _⟩) (v := ?_) rfl (by kernel_rfl) (by kernel_rfl) (by kernel_rfl) (fun _ _ _ h => h) (Or.inl ⟨by first | rfl | (simp [Region.wanted, yielded]; done), ?_⟩) hS ?_
    rotate_left
    · intro wz hSw
      clear hSw
      go_simp
      first | done | with_reducible rfl
    try simp only [Act.put, List.setIfInBounds_toArray, List.set_cons_zero, List.set_cons_succ]
    refine wpAnyH_take (i := 23) (oi := ⟨some 49, _, _, _, _, _⟩) (v := ?_) rfl (by kernel_rfl) (by kernel_rfl) (by kernel_rfl) (fun _ _ _ h => h) (Or.inl ⟨by first | rfl | (simp [Region.wanted, yielded]; done), ?_⟩) hS ?_
    rotate_left
    · intro wz hSw
      clear hSw
      go_simp
      first | done | with_reducible rfl
    try simp only [Act.put, List.setIfInBounds_toArray, List.set_cons_zero, List.set_cons_succ]
    refine wpAnyH_take (i := 24) (oi := ⟨some 50, _, _, _, _, _⟩) (v := ?_) rfl (by kernel_rfl) (by kernel_rfl) (by kernel_rfl) (fun _ _ _ h => h) (Or.inl ⟨by first | rfl | (simp [Region.wanted, yielded]; done), ?_⟩) hS ?_
    rotate_left
    · intro wz hSw
      clear hSw
      go_simp
      first | done | with_reducible rfl
    try simp only [Act.put, List.setIfInBounds_toArray, List.set_cons_zero, List.set_cons_succ]
    refine wpAnyH_take (i := 25) (oi := ⟨some 51, _, _, _, _, _⟩) (v := ?_) rfl (by kernel_rfl) (by kernel_rfl) (by kernel_rfl) (fun _ _ _ h => h) (Or.inl ⟨by first | rfl | (simp [Region.wanted, yielded]; done), ?_⟩) hS ?_
    rotate_left
    · intro wz hSw
      have zc := hSw.2.2.1
      clear hSw
      go_simp
      first | done | with_reducible rfl
    try simp only [Act.put, List.setIfInBounds_toArray, List.set_cons_zero, List.set_cons_succ]
    refine wpAnyH_take (i := 26) (oi := ⟨some 52, _, _, _, _, _⟩) (v := ?_) rfl (by kernel_rfl) (by kernel_rfl) (by kernel_rfl) (fun _ _ _ h => h) (Or.inl ⟨by first | rfl | (simp [Region.wanted, yielded]; done), ?_⟩) hS ?_
    rotate_left
    · intro wz hSw
      clear hSw
      go_simp
      first | done | with_reducible rfl
    try simp only [Act.put, List.setIfInBounds_toArray, List.set_cons_zero, List.set_cons_succ]
    refine wpAnyH_take (i := 27) (oi := ⟨some 53, _, _, _, _, _⟩) (v := ?_) rfl (by kernel_rfl) (by kernel_rfl) (by kernel_rfl) (fun _ _ _ h => h) (Or.inl ⟨by first | rfl | (simp [Region.wanted, yielded]; done), ?_⟩) hS ?_
    rotate_left
    · intro wz hSw
      clear hSw
      go_simp
      first | done | with_reducible rfl
    try simp only [Act.put, List.setIfInBounds_toArray, List.set_cons_zero, List.set_cons_succ]
    refine wpAnyH_done (by kernel_rfl) ?_ _
    go_wp2_with fail
    cases gk with
    | zero => have := HIG.out; omega
    | succ g =>
      go_roundg g
      case measure => omega
      case rel => exact ⟨i + 1, by have := HIG.out; omega, by go_num, hS.2.2.2, hS.1⟩
end Go.Proofs.Ytbkokckpjmbjhaa
