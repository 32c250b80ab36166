/- redo.pending. -/
import Derived.Test.YtkhdahipnfloeaaUnlog
namespace Go.Proofs.Ytkhdahipnfloeaa
open Go.RowKit
set_option maxRecDepth 100000

theorem countOf_spec (A : Ab) : 0 ≤ countOf A ∧ countOf A ≤ 400 ∧ (countOf A = 0 ∨ countOf A < A.now.length) := by
  unfold countOf
  split
  · rename_i h
    have := h.2
    unfold isLog at this
    omega
  · omega
/-- What pending answers. -/
def pendOf (A : Ab) : Pages × Int := if A.fault 0 ≠ 0 then ([], A.fault 0) else match pagesOf A.now (countOf A).toNat with
  | none => ([], 9)
  | some l => (l, 0)
theorem Bs.lt {w : World} {g o n cap : Nat} {l : List UInt8} (h : Bs w (.slice (some ⟨g, o, none⟩) n cap) l) (hl : 0 < l.length) : g < w.heap.size := by
  obtain ⟨b, off, c, e, -, -, hc⟩ := h.at hl
  simp only [Value.slice.injEq, Option.some.injEq, Addr.mk.injEq] at e
  obtain ⟨⟨rfl, rfl, -⟩, -, -⟩ := e
  exact World.block_lt_of_cell? _ _ (hc 0 hl)
theorem PuAt.new {w : World} {b : Nat} {a : Int} {v : Value} (h : Blk w b #[.int .i64 0, .slice none 0 0] 56) :
    Blk ((w.setCell ⟨b, 0, none⟩ (.int .i64 a)).setCell ⟨b, 1, none⟩ v) b #[.int .i64 a, v] 56 := (h.set 0 (.int .i64 a)).set 1 v
theorem moved_two {w : World} {b : Nat} {x y : Value} : Moved (· = b) w ((w.setCell ⟨b, 0, none⟩ x).setCell ⟨b, 1, none⟩ y) := ((Moved.refl (· = b) w).setCell ⟨b, 0, none⟩ _ (.inl rfl)).setCell ⟨b, 1, none⟩ _ (.inl rfl)

/-- The frame of Pend at its label. -/
def PendOut (lv : Value) (e : Int) (a' : Act) : Prop := ∃ u0 u1 u2 u3 u5 u7 u8 u9 u10 u11 u12 u13 u14 u15 u16 u17 u18 u19 u20 u21 u22 u23 u24 u25 u26 u27 u28 u29 u30 u31 u32 u33 : Value, a' = { tmps := #[u0, u1, u2, u3, lv, u5, .int .i64 e, u7, u8, u9, u10, u11, u12, u13, u14, u15, u16, u17, u18, u19, u20, u21, u22, u23, u24, u25, u26, u27, u28, u29, u30, u31, u32, u33], defers := [] }

set_option maxHeartbeats 2000000 in
theorem pending_any (w w1 : World) (P : Nat → Prop) (r : Nat) (A : Ab) (h : DkTo w P w1 r A) (hF : Full A) :
    Calls Try.prog 53 #[.pointer (some ⟨r, 0, none⟩)] w1 fun e w' => ∃ lv, e = .returned (.tuple #[lv, .int .i64 (pendOf A).2]) ∧ PRow (fun _ => False) w1.heap.size w' lv (pendOf A).1 ∧ (∀ p ∈ (pendOf A).1, p.2.length ≤ 504) ∧ Below w1.heap.size w1 w' := by
  have hct := count_any w w1 P r A h hF
  have hsp := countOf_spec A
  obtain ⟨cn, hcn⟩ : ∃ cn, cn = countOf A := ⟨_, rfl⟩
  obtain ⟨f0, hf0⟩ : ∃ f0, f0 = A.fault 0 := ⟨_, rfl⟩
  rw [← hcn, ← hf0] at hct
  rw [← hcn] at hsp
  have HC := Lib.hid hct
  have HDK := Lib.hid h
  have HF := Lib.hid hF
  clear hct h hF
  by_cases hz : f0 = 0
  · subst hz
    obtain ⟨n, rfl⟩ : ∃ n : Nat, cn = n := ⟨cn.toNat, by omega⟩
    have hpd : pendOf A = match pagesOf A.now n with | none => ([], 9) | some l => (l, 0) := by
      unfold pendOf
      rw [if_neg (by rw [← hf0]; decide), ← hcn, Int.toNat_natCast]
    have hdead : A.dead = false := by
      unfold Ab.fault at hf0
      split at hf0
      · simp at hf0
      · rename_i hc; simpa using hc
    have hfz : ∀ k : Nat, k < n → A.fault ((1 + k : Nat) : Int) = 0 := fun k hk => by
      unfold Ab.fault
      rw [hdead, if_neg (by decide), if_pos (by omega)]
    have HFZ := Lib.hid hfz
    have HPD := Lib.hid hpd
    have hn4 : n ≤ 400 := by omega
    clear hfz hpd hdead hf0 hcn hsp
    go_enter Try.func53, Try.ntmps53
    go_wp2_with fail
    refine wp_scope_jumps 0 (fun a' w' => ∃ lv, PendOut lv (pendOf A).2 a' ∧ PRow (fun _ => False) w1.heap.size w' lv (pendOf A).1 ∧ (∀ p ∈ (pendOf A).1, p.2.length ≤ 504) ∧ Below w1.heap.size w1 w') (fun _ _ => 0) rfl ?_ ?_
    · go_wp2_with fail
      refine HC.out.mono ?_
      rintro e w2 ⟨rfl, hb2⟩
      go_wp2_with fail
      go_loopw [4, 6, 7, 8, 15] (fun lv e _ _ i wr => ∃ k : Nat, k ≤ n ∧ i = .int .i64 k ∧ e = .int .i64 0 ∧ Below w1.heap.size w1 wr ∧ ∃ l, pagesOf A.now k = some l ∧ PRow (fun _ => False) w1.heap.size wr lv l ∧ ∀ p ∈ l, p.2.length ≤ 504) (fun _ _ _ _ i _ => n - (intOf i).toNat)
      case atStart => exact ⟨0, Nat.zero_le _, rfl, rfl, hb2, [], rfl, PRow.nil _ _ _, fun p hp => by simp at hp⟩
      case round =>
        obtain ⟨k, hk, rfl, rfl, hb, l, hpg, hrow, hshort⟩ := hrel
        have HBr := Lib.hid hb
        have HPG := Lib.hid hpg
        have HROW := Lib.hid hrow
        have HSH := Lib.hid hshort
        have hlen1 := (pagesOf_length k l hpg).1
        clear hb hpg hrow hshort hb2
        by_cases hlt : k < n
        · have hal : Below wr.heap.size wr (wr.alloc (.cells #[.int .i64 0, .slice none 0 0] 56)) := (Below.refl _ wr).alloc (Nat.le_refl _) _
          have hbk := Blk.new wr #[.int .i64 0, .slice none 0 0] 56
          have hbw := HBr.out.trans (hal.mono HBr.out.size)
          have hun := unlogged_any w _ P r A ((1 + k : Nat) : Int) (HDK.out.grow hbw) HF.out (HFZ.out k hlt)
          have hf1 := HFZ.out k hlt
          obtain ⟨bb, hbb⟩ : ∃ bb, bb = A.read ((1 + k : Nat) : Int) := ⟨_, rfl⟩
          have hbl : bb.length = 512 := by rw [hbb]; exact HF.out _ hf1
          have hb2 : A.now.getD (1 + k) [] = bb := by rw [hbb, Ab.read, if_pos hf1, Int.toNat_natCast]
          rw [← hbb] at hun
          obtain ⟨at1, hat⟩ : ∃ at1, at1 = atOf bb := ⟨_, rfl⟩
          obtain ⟨N, hN⟩ : ∃ N, N = A.now.length := ⟨_, rfl⟩
          have hstep : pagesOf A.now (k + 1) = if 401 ≤ at1 ∧ at1 < N then some (l ++ [(at1, bb.drop 8)]) else none := by
            unfold pagesOf
            rw [HPG.out]
            simp only [hb2, ← hat, hN]
          rw [← hat, ← hN] at hun
          obtain ⟨i1, hi1⟩ : ∃ i1 : Int, i1 = ((1 + k : Nat) : Int) := ⟨_, rfl⟩
          have hwr : IntKind.i64.wrap (1 + (k : Int)) = i1 := by rw [IntKind.wrap_i64]; omega
          rw [← hi1] at hun
          have HUN := Lib.hid hun
          have HST := Lib.hid hstep
          have HBK := Lib.hid hbk
          have HAL := Lib.hid hal
          have HI1 := Lib.hid hi1
          clear hun hstep hbk hal hi1 hbw hf1 hbb hb2 hat hN
          have hi1' : 1 + (k : Int) = i1 := by have := HI1.out; omega
          go_wp2_with fail
          try rw [hi1']
          refine HUN.out.mono ?_
          rintro e w3 ⟨a, v, er, rfl, hb3, hok, hbad⟩
          have hm3 : Moved (fun _ => False) (wr.alloc (.cells #[.int .i64 0, .slice none 0 0] 56)) w3 := Moved.of_below hb3 _
          have hb3' := HBK.out.moved hm3 (fun h => h)
          have hbel := HAL.out.trans (hb3.mono HAL.out.size)
          obtain ⟨x0, x1, xf⟩ := Blk.pu hb3'
          have HB3 := Lib.hid hb3'
          have HBEL := Lib.hid hbel
          have HHS := Lib.hid (hb3.size)
          clear hm3 hb3' hbel hb3 HUN HBK HAL
          by_cases hh : 401 ≤ at1 ∧ at1 < N
          · obtain ⟨rfl, rfl, g5, cap5, rfl, hg5, hbs⟩ := hok hh
            have hm4 := moved_two (w := w3) (b := wr.heap.size) (x := .int .i64 a) (y := .slice (some ⟨g5, 8, none⟩) 504 cap5)
            have hb4 := PuAt.new (a := a) (v := .slice (some ⟨g5, 8, none⟩) 504 cap5) HB3.out
            have hbel4 := HBEL.out.trans (hm4.below (B := wr.heap.size) (fun j hj => by omega) HBEL.out.size)
            have hg5' : wr.heap.size < g5 := by simp at hg5; omega
            have hbs4 := hbs.moved hm4 (fun k hk e => by simp [Value.ownBlock] at hk; omega)
            have hlt5 := hbs4.lt (by rw [List.length_drop, hbl]; omega)
            have hrow4 := HROW.out.below hbel4
            have hst := HST.out
            rw [if_pos hh] at hst
            have HST2 := Lib.hid hst
            have HM4 := Lib.hid hm4
            have HB4 := Lib.hid hb4
            have HBEL4 := Lib.hid hbel4
            have HBS4 := Lib.hid hbs4
            have HROW4 := Lib.hid hrow4
            have HLT5 := Lib.hid hlt5
            obtain ⟨so, cp, rfl, hcp1, hcp2⟩ := HROW.out.form
            have hcp2' : cp ≤ 9223372036854775807 := hcp2
            have HLR := Lib.hid (fun q hq => (HROW.out.lt q hq))
            have hala := (Below.refl ((w3.setCell ⟨wr.heap.size, 0, none⟩ (.int .i64 a)).setCell ⟨wr.heap.size, 1, none⟩ (.slice (some ⟨g5, 8, none⟩) 504 cap5)).heap.size _).alloc (Nat.le_refl _) (.cells #[.int .i64 a, .slice (some ⟨g5, 8, none⟩) 504 cap5] 56)
            have hrowa := HROW4.out.below hala
            have hbsa := HBS4.out.below hala
            have hbla : Blk (((w3.setCell ⟨wr.heap.size, 0, none⟩ (.int .i64 a)).setCell ⟨wr.heap.size, 1, none⟩ (.slice (some ⟨g5, 8, none⟩) 504 cap5)).alloc (.cells #[.int .i64 a, .slice (some ⟨g5, 8, none⟩) 504 cap5] 56)) w3.heap.size #[.int .i64 a, .slice (some ⟨g5, 8, none⟩) 504 cap5] 56 := by
              have := Blk.new ((w3.setCell ⟨wr.heap.size, 0, none⟩ (.int .i64 a)).setCell ⟨wr.heap.size, 1, none⟩ (.slice (some ⟨g5, 8, none⟩) 504 cap5)) #[.int .i64 a, .slice (some ⟨g5, 8, none⟩) 504 cap5] 56
              simpa [World.setCell] using this
            have hba := HBr.out.trans ((hbel4.trans (hala.mono hbel4.size)).mono HBr.out.size)
            have HROWA := Lib.hid hrowa
            have HBSA := Lib.hid hbsa
            have HBLA := Lib.hid hbla
            have HBA := Lib.hid hba
            have hlt6 : g5 < w3.heap.size := by simpa [World.setCell] using hlt5
            have hl30 : l.length ≤ 1073741824 := by omega
            rw [hlen1] at HROWA HLR
            have HLEN := Lib.hid hlen1
            have hbr1 := HBr.out.size
            clear hm4 hb4 hbel4 hbs4 hlt5 hrow4 hst hok hbad hbs HST hg5 HBEL hcp2 HHS hala hrowa hbsa hbla hba HROW4 HBS4 HB4 HM4 HBEL4 HLT5 HROW
            rw [hlen1]
            rw [hlen1] at hcp1
            clear hlen1
            go_wp2_with (at_builtin; refine wpList_append_pu rfl _ _ rfl (fun _ => False) w1.heap.size (fun _ h => h.elim) ?s1 (.slice so k cp) l rfl HROWA.out _ rfl a _ (bb.drop 8) HBSA.out ?s2 HBLA.out hl30 ?_)
            case s1 => exact HBA.out.size
            case s2 =>
              intro _ q hq
              simp [Value.ownBlock] at hq
              subst hq
              refine .inr ⟨by omega, by simp [World.setCell]; omega, fun e => ?_⟩
              have := (HLR.out _ e).2
              omega
            intro v8 w8 hv8 hg8 hq8
            have HB8 := Lib.hid (HBA.out.grown hg8 HBA.out.size hq8)
            have HV8 := Lib.hid hv8
            clear hv8 hg8 hq8 HROWA HBSA HBLA HBA HLR
            go_wp2_with fail
            go_roundw
            case rel =>
              refine ⟨k + 1, by omega, by go_num, rfl, HB8.out, _, HST2.out, HV8.out, fun p hp => ?_⟩
              rcases List.mem_append.1 hp with hp | hp
              · exact HSH.out p hp
              · simp at hp; subst hp; show (bb.drop 8).length ≤ 504; rw [List.length_drop]; omega
            case measure => simp [intOf]; omega
          · obtain ⟨rfl, rfl⟩ := hbad hh
            have hst := HST.out
            rw [if_neg hh] at hst
            have hpd := HPD.out
            rw [pagesOf_none hst n hlt] at hpd
            have HPD2 := Lib.hid hpd
            have hm4 := moved_two (w := w3) (b := wr.heap.size) (x := .int .i64 a) (y := .slice none 0 0)
            have hbel4 := HBr.out.trans ((HBEL.out.trans (hm4.below (B := wr.heap.size) (fun j hj => by omega) HBEL.out.size)).mono HBr.out.size)
            have HB4 := Lib.hid hbel4
            clear hm4 hbel4 hst hpd hok hbad HBEL HPD HST HROW HSH HPG
            go_wp2_with fail
            go_step3
            refine ⟨rfl, .slice none 0 0, ?_, ?_, ?_, HB4.out⟩
            · rw [HPD2.out]; exact ⟨_, _, _, _, _, _, _, _, _, _, _, _, _, _, _, _, _, _, _, _, _, _, _, _, _, _, _, _, _, _, _, _, rfl⟩
            · rw [HPD2.out]; exact PRow.nil _ _ _
            · rw [HPD2.out]; exact fun p hp => by simp at hp
        · obtain rfl : k = n := by omega
          have hpd := HPD.out
          rw [HPG.out] at hpd
          have HPD2 := Lib.hid hpd
          clear hpd HPD HPG
          go_wp2_with fail
          go_step3
          go_wp2
          simp only [Exit.jump]
          go_ret2
          rw [HPD2.out]
          exact ⟨_, rfl, HROW.out, HSH.out, HBr.out⟩
    · rintro a' w' ⟨lv, ⟨u0, u1, u2, u3, u5, u7, u8, u9, u10, u11, u12, u13, u14, u15, u16, u17, u18, u19, u20, u21, u22, u23, u24, u25, u26, u27, u28, u29, u30, u31, u32, u33, rfl⟩, hw3⟩
      go_wp2
      simp only [Exit.jump]
      go_ret2
      exact ⟨lv, rfl, hw3⟩
  · have hne : (f0 != 0) = true := by simpa using hz
    have hpd : pendOf A = ([], f0) := by
      unfold pendOf
      rw [if_pos (by rw [← hf0]; exact hz), ← hf0]
    rw [hpd]
    obtain rfl : cn = 0 := by rw [hcn]; unfold countOf; rw [if_neg (fun h => hz (hf0.trans h.1))]
    clear hpd hf0 hz hcn hsp
    go_enter Try.func53, Try.ntmps53
    go_wp2_with fail
    refine wp_scope_jumps 0 (fun _ _ => False) (fun _ _ => 0) rfl ?_ (fun _ _ h => h.elim)
    go_wp2_with fail
    refine HC.out.mono ?_
    rintro e w2 ⟨rfl, hb2⟩
    go_wp2_with fail
    refine wp_loop_rounds 1 ?_
    rw [rounds_succ]
    go_wp2_with fail
    go_step3
    go_wp2
    simp only [Exit.jump]
    go_ret2
    exact ⟨_, rfl, PRow.nil _ _ _, fun p hp => by simp at hp, hb2⟩
end Go.Proofs.Ytkhdahipnfloeaa
