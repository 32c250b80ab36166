/- redo.unlogged. -/
import Derived.Test.YtkhdahipnfloeaaCount
import Derived.Laws.ResultCell
namespace Go.Proofs.Ytkhdahipnfloeaa
open Go.RowKit
set_option maxRecDepth 100000

theorem Blk.pu {w : World} {b : Nat} {a : Int} {v : Value} (h : Blk w b #[.int .i64 a, v] 56) : w.cell? ⟨b, 0, none⟩ = some (.int .i64 a) ∧ w.cell? ⟨b, 1, none⟩ = some v ∧ (∀ j, w.frozen? ⟨b, j, none⟩ = false) := ⟨h.cell 0, h.cell 1, fun j => h.frozen j⟩

set_option maxHeartbeats 2000000 in
theorem unlogged_any (w w1 : World) (P : Nat → Prop) (r : Nat) (A : Ab) (at0 : Int) (h : DkTo w P w1 r A) (hF : Full A) (hf : A.fault at0 = 0) :
    Calls Try.prog 64 #[.pointer (some ⟨r, 0, none⟩), .int .i64 at0] w1 fun e w' => ∃ a v er, e = .returned (.tuple #[.agg #[.int .i64 a, v], .int .i64 er]) ∧ Below w1.heap.size w1 w' ∧
      (401 ≤ atOf (A.read at0) ∧ atOf (A.read at0) < A.now.length → a = atOf (A.read at0) ∧ er = 0 ∧ ∃ g cap, v = .slice (some ⟨g, 8, none⟩) 504 cap ∧ w1.heap.size ≤ g ∧ Bs w' v ((A.read at0).drop 8)) ∧
      (¬ (401 ≤ atOf (A.read at0) ∧ atOf (A.read at0) < A.now.length) → er = 9 ∧ v = .slice none 0 0) := by
  have hlen := hF at0 hf
  obtain ⟨wa, hwa⟩ : ∃ wa, wa = (w1.alloc (.cells #[.int .i64 0, .slice none 0 0] 56)).alloc (.cells #[.int .i64 0, .slice none 0 0] 56) := ⟨_, rfl⟩
  have hal : Below w1.heap.size w1 wa := by rw [hwa]; exact ((Below.refl _ w1).alloc (Nat.le_refl _) _).alloc (by simp) _
  have b1 : Blk wa w1.heap.size #[.int .i64 0, .slice none 0 0] 56 := by rw [hwa]; exact (Blk.new w1 _ _).alloc _
  have b2 : Blk wa (w1.heap.size + 1) #[.int .i64 0, .slice none 0 0] 56 := by
    rw [hwa]
    have := Blk.new (w1.alloc (.cells #[.int .i64 0, .slice none 0 0] 56)) #[.int .i64 0, .slice none 0 0] 56
    rw [show (w1.alloc (.cells #[.int .i64 0, .slice none 0 0] 56)).heap.size = w1.heap.size + 1 by simp] at this
    exact this
  have hread := to_read at0 (h.grow hal)
  obtain ⟨hd, hhd⟩ : ∃ hd, hd = A.read at0 := ⟨_, rfl⟩
  rw [← hhd] at hlen hread ⊢
  rw [hf] at hread
  obtain ⟨N, hN⟩ : ∃ N, N = A.now.length := ⟨_, rfl⟩
  obtain ⟨a, ha⟩ : ∃ a, a = atOf hd := ⟨_, rfl⟩
  rw [← hN, ← ha]
  have HN := Lib.hid hN
  have HA := Lib.hid ha
  have HR := Lib.hid hread
  have HDK := Lib.hid h
  have HAL := Lib.hid hal
  have HB1 := Lib.hid b1
  have HB2 := Lib.hid b2
  have HWA := Lib.hid hwa
  clear hread h hhd hf hF b1 b2 hal hwa hN ha
  go_enter Try.func64, Try.ntmps64
  go_wp2_with fail
  refine wp_scope_jumps 0 (fun _ _ => False) (fun _ _ => 0) rfl ?_ (fun _ _ h => h.elim)
  go_wp2_with fail
  rw [← HWA.out]
  refine HR.out.mono ?_
  rintro e w2 ⟨v, rfl, hown, hb1, -⟩
  obtain ⟨g, cap, rfl, hc1, hc2, hg1, hg2, -⟩ := hown.word hlen
  have hc2' : cap ≤ 9223372036854775807 := hc2
  have hbs := hown.bs
  have hbd := hbs
  rw [← hlen] at hbd
  replace hbd := hbd.drops 8 (by omega)
  rw [hlen, if_neg (by omega)] at hbd
  replace hbd : Bs w2 (.slice (some ⟨g, 8, none⟩) 504 (cap - 8)) (hd.drop 8) := hbd
  have HBD := Lib.hid hbd
  have HBS := Lib.hid hbs
  have HBW := Lib.hid (HAL.out.trans (hb1.mono HAL.out.size))
  have hm : Moved (fun _ => False) wa w2 := Moved.of_below hb1 _
  have b1 := Lib.hid (HB1.out.moved hm (fun h => h))
  have b2 := Lib.hid (HB2.out.moved hm (fun h => h))
  clear hown hb1 hbs hbd hm HR HB1 HB2
  generalize hp1 : w1.heap.size + 1 = p1 at b2 ⊢
  have hc8 : ¬ cap = 8 := by omega
  go_wp2_with fail
  go_region_with (first
      | (go_at_call 67; refine (new_any _ hd (by omega) _ HBS.out.drew).mono ?_; rintro e w3 ⟨q, rfl, hrd, hq, hb3⟩)
      | (go_at_call 68; refine (rint_any _ _ _ _ hrd).mono ?_; rintro e w4 ⟨rfl, -, hg4⟩; obtain ⟨d0, d1, df⟩ := (b2.out.drew.moved (Moved.of_below (hb3.grown hg4 hb3.size (fun x hx => by simp at hx; omega)) (fun _ => False)) (fun h => h)).pu))
  have hcnt : wrap64 (num (tookOf hd 0 8)) = atOf hd := by
    rw [took_ok (by rw [hlen]; omega)]; rfl
  rw [hcnt]
  have hb4 := Lib.hid (hb3.grown hg4 hb3.size (fun x hx => by simp at hx; omega))
  have hm4 : Moved (fun _ => False) w2 w4 := (Moved.refl (fun _ => False) w2).drew.trans (Moved.of_below hb4.out (fun _ => False)) (fun _ h => h.elim)
  have e1 := b1.out.moved hm4 (fun h => h)
  have e2 := b2.out.moved hm4 (fun h => h)
  have e3 := HBD.out.moved hm4 (fun _ _ h => h)
  have hbw := HBW.out.trans (hm4.below (fun _ h => h.elim) HBW.out.size)
  rw [← HA.out]
  have hgs : w1.heap.size + 2 ≤ g := by have := HWA.out; rw [this] at hg1; simp at hg1; omega
  have hcp : w1.heap.size ≠ p1 := by omega
  have hcl : w1.heap.size < p1 := by omega
  have hgp : p1 < g := by omega
  have f2 := (e2.set 0 (.int .i64 a)).set 1 (.slice (some ⟨g, 8, none⟩) 504 (cap - 8))
  have f1 := (e1.other ⟨p1, 0, none⟩ (.int .i64 a) hcp).other ⟨p1, 1, none⟩ (.slice (some ⟨g, 8, none⟩) 504 (cap - 8)) hcp
  have hmv : Moved (· = p1) w4 ((w4.setCell ⟨p1, 0, none⟩ (.int .i64 a)).setCell ⟨p1, 1, none⟩ (.slice (some ⟨g, 8, none⟩) 504 (cap - 8))) := ((Moved.refl (· = p1) w4).setCell ⟨p1, 0, none⟩ _ (.inl rfl)).setCell ⟨p1, 1, none⟩ _ (.inl rfl)
  have f3 := e3.moved hmv (fun k hk e => by simp [Value.ownBlock] at hk; omega)
  have hbw5 := hbw.trans (hmv.below (B := w1.heap.size) (fun j hj => by omega) hbw.size)
  have hhm := home_any w _ P r A a (HDK.out.grow hbw5)
  rw [← HN.out] at hhm
  have HH := Lib.hid hhm
  have HBW5 := Lib.hid hbw5
  have F1 := Lib.hid f1
  have F3 := Lib.hid f3
  obtain ⟨x0, x1, xf⟩ := Blk.pu f2
  clear hhm hbw5 hbw f1 f2 f3 hmv e1 e2 e3 hm4 hb4 hcnt hg4 hb3 hq hrd d0 d1 df b1 b2 HDK HBD HBS HBW HAL HWA hp1
  generalize hw5 : (World.setCell (World.setCell w4 _ _) _ _) = w5 at HH HBW5 F1 F3 x0 x1 xf ⊢
  clear hw5
  by_cases hok : 401 ≤ a ∧ a < N
  · have dd : decide (401 ≤ a ∧ a < (N : Int)) = true := by simpa using hok
    rw [dd] at HH
    obtain ⟨y0, y1, yf⟩ := Blk.pu F1.out
    go_wp2_with (go_at_call 58; refine HH.out.mono ?_; rintro e wz ⟨rfl, hwz⟩; replace hwz := hwz.symm; subst hwz)
    go_step3
    go_wp2
    simp only [Exit.jump]
    have hblk := (F1.out.set 0 (.int .i64 a)).set 1 (.slice (some ⟨g, 8, none⟩) 504 (cap - 8))
    have hm6 : Moved (· = w1.heap.size) w5 ((w5.setCell ⟨w1.heap.size, 0, none⟩ (.int .i64 a)).setCell ⟨w1.heap.size, 1, none⟩ (.slice (some ⟨g, 8, none⟩) 504 (cap - 8))) := ((Moved.refl (· = w1.heap.size) w5).setCell ⟨w1.heap.size, 0, none⟩ _ (.inl rfl)).setCell ⟨w1.heap.size, 1, none⟩ _ (.inl rfl)
    clear y0 y1 yf x0 x1 xf F1
    generalize hw6 : World.setCell (World.setCell w5 _ _) _ _ = w6 at hblk hm6 ⊢
    clear hw6
    obtain ⟨z0, z1, -⟩ := Blk.pu hblk
    refine bodyPost_ret (v := .tuple #[.agg #[.int .i64 a, .slice (some ⟨g, 8, none⟩) 504 (cap - 8)], .int .i64 0]) (by rw [results_cell_tmp rfl]; go_simp) rfl ⟨a, _, 0, rfl, ?_, fun _ => ⟨rfl, rfl, g, cap - 8, rfl, by omega, ?_⟩, fun h => absurd hok h⟩
    · exact HBW5.out.trans (hm6.below (fun j hj => by omega) HBW5.out.size)
    · exact F3.out.moved hm6 (fun k hk e => by simp [Value.ownBlock] at hk; omega)
  · have dd : decide (401 ≤ a ∧ a < (N : Int)) = false := by simpa using hok
    rw [dd] at HH
    go_wp2_with (go_at_call 58; refine HH.out.mono ?_; rintro e wz ⟨rfl, hwz⟩; replace hwz := hwz.symm; subst hwz)
    have hm6 : Moved (· = p1) w5 ((w5.setCell ⟨p1, 0, none⟩ (.int .i64 0)).setCell ⟨p1, 1, none⟩ (.slice none 0 0)) := ((Moved.refl (· = p1) w5).setCell ⟨p1, 0, none⟩ _ (.inl rfl)).setCell ⟨p1, 1, none⟩ _ (.inl rfl)
    have f1 := F1.out.moved hm6 hcp
    have z0 : ((w5.setCell ⟨p1, 0, none⟩ (.int .i64 0)).setCell ⟨p1, 1, none⟩ (.slice none 0 0)).cell? ⟨p1, 0, none⟩ = some (.int .i64 0) := by
      rw [World.cell?_setCell_other _ _ _ _ (by simp)]
      exact World.cell?_setCell_same _ _ _ x0
    have z1 : ((w5.setCell ⟨p1, 0, none⟩ (.int .i64 0)).setCell ⟨p1, 1, none⟩ (.slice none 0 0)).cell? ⟨p1, 1, none⟩ = some (.slice none 0 0) := by
      have zz : (w5.setCell ⟨p1, 0, none⟩ (.int .i64 0)).cell? ⟨p1, 1, none⟩ = some (.slice (some ⟨g, 8, none⟩) 504 (cap - 8)) := by
        rw [World.cell?_setCell_other _ _ _ _ (by simp)]
        exact x1
      exact World.cell?_setCell_same _ _ _ zz
    have hb6 := HBW5.out.trans (hm6.below (B := w1.heap.size) (fun j hj => by omega) HBW5.out.size)
    obtain ⟨y0, y1, yf⟩ := Blk.pu f1
    have F1' := Lib.hid f1
    have HB6 := Lib.hid hb6
    clear x0 x1 xf f1 hb6 hm6 F1
    generalize hw6 : World.setCell (World.setCell w5 _ _) _ _ = w6 at F1' HB6 z0 z1 y0 y1 yf ⊢
    clear hw6
    go_step3
    go_wp2
    simp only [Exit.jump]
    have hblk := (F1'.out.set 0 (.int .i64 0)).set 1 (.slice none 0 0)
    have hm7 : Moved (· = w1.heap.size) w6 ((w6.setCell ⟨w1.heap.size, 0, none⟩ (.int .i64 0)).setCell ⟨w1.heap.size, 1, none⟩ (.slice none 0 0)) := ((Moved.refl (· = w1.heap.size) w6).setCell ⟨w1.heap.size, 0, none⟩ _ (.inl rfl)).setCell ⟨w1.heap.size, 1, none⟩ _ (.inl rfl)
    clear y0 y1 yf z0 z1 F1'
    generalize hw7 : World.setCell (World.setCell w6 _ _) _ _ = w7 at hblk hm7 ⊢
    clear hw7
    obtain ⟨z0, z1, -⟩ := Blk.pu hblk
    refine bodyPost_ret (v := .tuple #[.agg #[.int .i64 0, .slice none 0 0], .int .i64 9]) (by rw [results_cell_tmp rfl]; go_simp) rfl ⟨0, _, 9, rfl, ?_, fun h => absurd h hok, fun _ => ⟨rfl, rfl⟩⟩
    exact HB6.out.trans (hm7.below (fun j hj => by omega) HB6.out.size)
end Go.Proofs.Ytkhdahipnfloeaa
