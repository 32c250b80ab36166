/- The walk of the law RedoCommits. -/
import Derived.Test.YtkhdahipnfloeaaPx
namespace Go.Proofs.Ytkhdahipnfloeaa
open Go.RowKit
set_option maxRecDepth 100000

def Len (A : Ab) (n : Nat) : Prop := A.now.length = n ∧ A.kept.length = n
theorem Len.write {A : Ab} {n : Nat} (h : Len A n) (i : Int) (b : List UInt8) : Len (A.write i b) n := by
  unfold Ab.write
  split
  · exact ⟨by show (A.now.set _ _).length = n; rw [List.length_set]; exact h.1, h.2⟩
  · exact h
theorem Len.sync {A : Ab} {n : Nat} (h : Len A n) : Len A.sync n := by
  unfold Ab.sync
  split
  · exact h
  · split
    · exact h
    · exact ⟨h.1, h.1⟩
theorem Len.run (ops : List Dop) : ∀ {A : Ab} {n : Nat}, Len A n → Len (A.run ops).2 n := by
  induction ops with
  | nil => intro A n h; exact h
  | cons o t ih =>
    intro A n h
    cases o with
    | W i b =>
      simp only [Ab.run]
      split
      · exact ih (h.write i b)
      · exact h.write i b
    | S =>
      simp only [Ab.run]
      split
      · exact ih h.sync
      · exact h.sync
theorem Len.commit {A : Ab} {n : Nat} (h : Len A n) (l : Pages) : Len (A.commit l).2 n := by
  unfold Ab.commit
  split
  · exact h.run _
  · exact h
theorem Len.stop {A : Ab} {n : Nat} (h : Len A n) (m : Int) : Len (A.stopAt m) n := h
theorem Len.crash0 {A : Ab} {n : Nat} (h : Len A n) : Len (A.crash []) n := by
  have e : ∀ n, lay A.kept A.since [] n = A.kept := by
    intro n
    induction n with
    | zero => rfl
    | succ n ih => simp [lay, ih]
  unfold Ab.crash
  rw [e]
  exact ⟨h.2, h.2⟩
theorem Len.new (n : Nat) : Len (Ab.new n) n := ⟨by simp [Ab.new], by simp [Ab.new]⟩

theorem Mx.trans {w0 a b c : World} {X : Nat → Prop} (h : Mx w0 X a b) (k : Mx w0 X b c) : Mx w0 X a c := Moved.trans h k (fun _ hj => .inl hj)
theorem Mx.refl (w0 : World) (X : Nat → Prop) (a : World) : Mx w0 X a a := Moved.refl _ _
theorem Mx.of {w0 a b : World} {X : Nat → Prop} (h : Below a.heap.size a b) : Mx w0 X a b := Moved.of_below h _
/-- One of the rows: a slice in a cell of the block b. -/
def RowAt (w0 w : World) (X : Nat → Prop) (b k : Nat) (l : Pages) : Prop := ∃ ao cap, w.cell? ⟨b, k, none⟩ = some (.slice ao l.length cap) ∧ Pus w (fun g => g < w0.heap.size ∨ X g) (.slice ao l.length cap) l ∧ X b
theorem RowAt.mx {w0 w w' : World} {X : Nat → Prop} {b k : Nat} {l : Pages} (h : RowAt w0 w X b k l) (hm : Mx w0 X w w') : RowAt w0 w' X b k l := by
  obtain ⟨ao, cap, h1, h2, h3⟩ := h
  have hlt := World.block_lt_of_cell? w _ h1
  exact ⟨ao, cap, (World.cell?_of_block (a := ⟨b, k, none⟩) (hm.block b hlt (fun hj => hj.2 h3))).trans h1, hm.pus h2 (fun g hg => hg), h3⟩

set_option maxHeartbeats 8000000 in
theorem commits_walk (v1 v2 : Value) (l raw : Pages) (stop : Int) (w : World) (hp : Pus w (fun g => g < w.heap.size) v1 l) (hq : Pus w (fun g => g < w.heap.size) v2 raw) :
    Calls Try.prog 3 #[v1, v2, .int .i64 stop] w fun e w' => e = .returned (.bool true) ∧ Below w.heap.size w w' := by
  obtain ⟨ao, cap, rfl, -⟩ := id hp
  obtain ⟨bo, bcap, rfl, -⟩ := id hq
  have HP := Lib.hid hp
  have HQ := Lib.hid hq
  clear hp hq
  have hwi := within_range stop 40 (by decide)
  have hw40 := within3_any stop 40 (by decide) (by decide)
  obtain ⟨s, hs⟩ : ∃ s, s = withinOf stop 40 := ⟨_, rfl⟩
  rw [← hs] at hwi hw40
  obtain ⟨hwi1, hwi2⟩ := hwi
  have HW := Lib.hid hw40
  clear hw40 hs
  go_enter Try.func3, Try.ntmps3
  go_wp2_with fail
  refine (l3_known _).mono ?_
  rintro e w1 ⟨rfl, hb1⟩
  have HB1 := Lib.hid hb1
  clear hb1
  go_wp2_with fail
  refine (pfew_any _ l _ w1 (HP.out.below HB1.out)).mono ?_
  rintro e w2 (⟨rfl, hw2⟩ | ⟨rfl, hw2, hf1⟩)
  · replace hw2 := hw2.symm
    subst hw2
    go_wp2_with fail
    go_ret
    exact ⟨rfl, HB1.out⟩
  replace hw2 := hw2.symm
  subst hw2
  have HF1 := Lib.hid hf1.2
  clear hf1
  go_wp2_with fail
  refine (pfew_any _ raw _ w1 (HQ.out.below HB1.out)).mono ?_
  rintro e w2 (⟨rfl, hw2⟩ | ⟨rfl, hw2, hf2⟩)
  · replace hw2 := hw2.symm
    subst hw2
    go_wp2_with fail
    go_ret
    exact ⟨rfl, HB1.out⟩
  replace hw2 := hw2.symm
  subst hw2
  have HF2 := Lib.hid hf2.2
  clear hf2
  go_wp2_with fail
  refine (sx_new (w0 := w) (X := fun _ => False) 420 HB1.out (fun _ h => h.elim)).mono ?_
  rintro e w2 ⟨r, rfl, h2, -⟩
  rw [show sizeOf' 420 = 420 from rfl] at h2
  have H2 := Lib.hid h2
  clear h2
  go_wp2_with fail
  refine (px_new 420 H2.out).mono ?_
  rintro e w3 ⟨x, rfl, h3, -⟩
  rw [show sizeOf' 420 = 420 from rfl] at h3
  have H3 := Lib.hid h3
  clear h3 H2
  go_wp2_with fail
  refine (good_any _ l _ w3 (HP.out.below H3.out.below) (fun g hg => Nat.lt_of_lt_of_le hg H3.out.size)).mono ?_
  rintro e w4 ⟨gv, rfl, hrow, hb4⟩
  have hpu := hrow.pus
  have hg8 := good_short l
  obtain ⟨so, cg, rfl, hcg1, hcg2⟩ := hrow.form
  have hcg2' : cg ≤ 9223372036854775807 := hcg2
  have HPU := Lib.hid hpu
  have HB4 := Lib.hid hb4
  clear hrow hpu hcg2 hb4
  obtain ⟨g, hg⟩ : ∃ g, g = goodOf l := ⟨_, rfl⟩
  rw [← hg] at HPU hcg1 hg8 ⊢
  clear hg
  go_wp2_with fail
  obtain ⟨cells, hcells⟩ : ∃ cells : Array Value, cells = #[.slice so g.length cg, .slice bo raw.length bcap, .slice ao l.length cap] := ⟨_, rfl⟩
  have hal : Below w3.heap.size w3 (w4.alloc (.cells cells 22)) := HB4.out.alloc HB4.out.size _
  have h5 := H3.out.take hal
  have hbk := Blk.new w4 cells 22
  have hpg := HPU.out.below ((Below.refl _ w4).alloc (Nat.le_refl _) (.cells cells 22))
  have hpl := HP.out.below (H3.out.below.trans (hal.mono H3.out.size))
  have hpr := HQ.out.below (H3.out.below.trans (hal.mono H3.out.size))
  have hsz : w4.heap.size < (w4.alloc (.cells cells 22)).heap.size := by simp
  have hs4 := HB4.out.size
  rw [← hcells]
  obtain ⟨X, hX⟩ : ∃ X : Nat → Prop, X = fun k => False ∨ (w3.heap.size ≤ k ∧ k < (w4.alloc (.cells cells 22)).heap.size) := ⟨_, rfl⟩
  rw [← hX] at h5
  have hXb : X w4.heap.size := by rw [hX]; exact .inr ⟨hs4, hsz⟩
  have c0 : (w4.alloc (.cells cells 22)).cell? ⟨w4.heap.size, 0, none⟩ = some (.slice so g.length cg) := by rw [hbk.cell, hcells]; rfl
  have c1 : (w4.alloc (.cells cells 22)).cell? ⟨w4.heap.size, 1, none⟩ = some (.slice bo raw.length bcap) := by rw [hbk.cell, hcells]; rfl
  have c2 : (w4.alloc (.cells cells 22)).cell? ⟨w4.heap.size, 2, none⟩ = some (.slice ao l.length cap) := by rw [hbk.cell, hcells]; rfl
  have r0 : RowAt w (w4.alloc (.cells cells 22)) X w4.heap.size 0 g := ⟨_, _, c0, hpg.mono (fun q hq => by rcases hq with h | h; exact .inl h; exact .inr (by rw [hX]; exact .inr ⟨h.1, by omega⟩)), hXb⟩
  have r1 : RowAt w (w4.alloc (.cells cells 22)) X w4.heap.size 1 raw := ⟨_, _, c1, hpr.mono (fun q hq => .inl hq), hXb⟩
  have r2 : RowAt w (w4.alloc (.cells cells 22)) X w4.heap.size 2 l := ⟨_, _, c2, hpl.mono (fun q hq => .inl hq), hXb⟩
  have rows : ∀ k, k < 3 → ∃ lk : Pages, lk.length ≤ 410 ∧ RowAt w (w4.alloc (.cells cells 22)) X w4.heap.size k lk := by
    intro k hk
    match k, hk with
    | 0, _ => exact ⟨g, by omega, r0⟩
    | 1, _ => exact ⟨raw, HF2.out, r1⟩
    | 2, _ => exact ⟨l, HF1.out, r2⟩
  have H5 := Lib.hid h5
  have ROWS := Lib.hid rows
  clear r0 r1 r2 c0 c1 c2 hXb hs4 hsz hpr hpl hpg hbk h5 hal hcells hX rows HPU HB4 H3 hcg1 hg8 HF1 HF2 HP HQ HB1
  generalize hw5 : w4.alloc (.cells cells 22) = w5 at H5 ROWS ⊢
  clear hw5
  generalize w4.heap.size = bi at ROWS ⊢
  go_wp2_with fail
  go_loopw [10] (fun i wr => ∃ k : Nat, k ≤ 3 ∧ i = .int .i64 k ∧ Mx w X w5 wr ∧ ∃ A, Px w wr X r x A A ∧ Small A (1000 * k) ∧ Len A 420) (fun i _ => 3 - (intOf i).toNat)
  case atStart => exact ⟨0, Nat.zero_le _, rfl, Mx.refl _ _ _, _, H5.out, new_small _ _, Len.new 420⟩
  case round =>
    obtain ⟨k, hk, rfl, hm, A, hP, hsm, hlen⟩ := hrel
    have HM := Lib.hid hm
    have HPX := Lib.hid hP
    have HSM := Lib.hid hsm
    have HL := Lib.hid hlen
    clear hm hP hsm hlen
    by_cases hlt : k < 3
    · obtain ⟨lk, hlk, hrow⟩ := ROWS.out k hlt
      have hrow' := hrow.mx HM.out
      have HROW := Lib.hid hrow'
      clear hrow hrow'
      go_wp2_with fail
      refine (HW.out _).mono ?_
      rintro e wz ⟨rfl, hwz⟩
      replace hwz := hwz.symm
      subst hwz
      go_wp2_with fail
      refine (px_stopD s HPX.out).mono ?_
      rintro e wa ⟨rfl, ha, hma⟩
      go_wp2_with fail
      refine (HW.out _).mono ?_
      rintro e wz ⟨rfl, hwz⟩
      replace hwz := hwz.symm
      subst hwz
      go_wp2_with fail
      refine (px_stopR s ha).mono ?_
      rintro e wb ⟨rfl, hb, hmb⟩
      have hrowb := (HROW.out.mx hma).mx hmb
      have hmx := (HM.out.trans hma).trans hmb
      have hsb : Small (A.stopAt s) (1000 * k) := stop_small HSM.out (by omega)
      obtain ⟨B, hB⟩ : ∃ B, B = A.stopAt s := ⟨_, rfl⟩
      have hbl : Len B 420 := by rw [hB]; exact HL.out.stop s
      rw [← hB] at hb hsb
      have hPB := hb.grow (drewBelow wb)
      have hrd := hrowb.mx (Mx.of (drewBelow wb))
      obtain ⟨lo, lcap, q0, hpb, hXb⟩ := hrd
      obtain ⟨q0', -, -⟩ : wb.cell? ⟨bi, k, none⟩ = some (.slice lo lk.length lcap) ∧ True ∧ True := ⟨q0, trivial, trivial⟩
      obtain ⟨er, her⟩ : ∃ e, e = (B.commit lk).1 := ⟨_, rfl⟩
      obtain ⟨C, hC⟩ : ∃ C, C = (B.commit lk).2 := ⟨_, rfl⟩
      have hCs : Small C (1000 * (k + 1)) := by rw [hC]; exact (commit_small lk hsb).mono (by omega)
      have hCl : Len C 420 := by rw [hC]; exact hbl.commit lk
      have hD := px_commitD _ lk _ hPB hpb (fun q hq => hq) (hsb.mono (by omega))
      rw [← her, ← hC] at hD
      have hee : (er != er) = false := by simp
      have HD := Lib.hid hD
      have HROWB := Lib.hid (show RowAt w wb.drew X bi k lk from ⟨lo, lcap, q0, hpb, hXb⟩)
      have HMX := Lib.hid (hmx.trans (Mx.of (drewBelow wb)))
      have hRR : ∀ w', Px w w' X r x C B → Mx w X wb.drew w' → Calls Try.prog 19 #[.pointer (some ⟨x, 0, none⟩), .slice lo lk.length lcap] w' fun e w'' => e = .returned (.int .i64 er) ∧ Px w w'' X r x C C ∧ Mx w X w' w'' := fun w' h1 h2 => by
        have := px_commitR _ lk _ h1 (h2.pus hpb (fun q hq => hq)) (fun q hq => hq) (hsb.mono (by omega))
        rw [← her, ← hC] at this
        exact this
      have HRR := Lib.hid hRR
      have hq1 : ∀ w', Mx w X wb.drew w' → w'.cell? ⟨bi, k, none⟩ = some (.slice lo lk.length lcap) := fun w' h => by
        have hlt := World.block_lt_of_cell? _ _ q0
        exact (World.cell?_of_block (a := ⟨bi, k, none⟩) (h.block bi hlt (fun hj => hj.2 hXb))).trans q0
      have HQ1 := Lib.hid hq1
      have HCS := Lib.hid hCs
      have HCL := Lib.hid hCl
      clear hb ha hma hmb hrowb hmx hsb hB hbl hPB hD hpb hXb her hC hCs hCl hRR hq1 HROW HPX HSM HL HM
      have hk0 : (0 : Int) ≤ k := by omega
      have hk3 : (k : Int) < 3 := by omega
      go_wp2_with fail
      go_region_held3 (fun w' => w'.cell? ⟨bi, k, none⟩ = some (.slice lo lk.length lcap)) (first | exact q0 | exact q1 | exact q2 | exact q3)
        (first
          | (go_at_call 18; refine HD.out.mono ?_; rintro e wc ⟨rfl, hc1, hc2⟩; have q1 := HQ1.out _ hc2; have HC1 := Lib.hid hc1; have HC2 := Lib.hid hc2)
          | (go_at_call 19; refine (HRR.out _ HC1.out HC2.out).mono ?_; rintro e wd ⟨rfl, hd1, hd2⟩; have HD1 := Lib.hid hd1; have HD2 := Lib.hid (HC2.out.trans hd2); have q2 := HQ1.out _ HD2.out)
          | (go_at_call 20; refine (psame_any w _ X r x C HD1.out (HCS.out.mono (by omega)) (by rw [HCL.out.1]; omega)).mono ?_; rintro e we ⟨rfl, hbe⟩; have HE1 := Lib.hid (HD1.out.grow hbe); have HE2 := Lib.hid (HD2.out.trans (Mx.of hbe)); have q3 := HQ1.out _ HE2.out))
      clear q0 q0' q1 q2 q3 hc1 hc2 hd1 hd2 hbe HD HRR HQ1 HC1 HC2 HD1 HD2 HROWB
      go_wp2_with fail
      refine (px_crashD HE1.out (HCS.out.mono (by omega))).mono ?_
      rintro e wf ⟨rfl, hf1, hf2⟩
      have HFF1 := Lib.hid hf1
      have HFF2 := Lib.hid hf2
      clear hf1 hf2
      go_wp2_with fail
      refine (px_crashR HFF1.out (HCS.out.mono (by omega))).mono ?_
      rintro e wg ⟨rfl, hg1, hg2⟩
      have HG1 := Lib.hid hg1
      have HG2 := Lib.hid hg2
      clear hg1 hg2
      go_wp2_with fail
      go_roundw
      case rel => exact ⟨k + 1, by omega, by go_num, ((HMX.out.trans HE2.out).trans HFF2.out).trans HG2.out, _, HG1.out, crash_small [] HCS.out, HCL.out.crash0⟩
      case measure => simp [intOf]; omega
    · obtain rfl : k = 3 := by omega
      go_wp2_with fail
      go_ret
      exact ⟨rfl, HPX.out.below⟩
end Go.Proofs.Ytkhdahipnfloeaa
