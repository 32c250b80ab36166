/- What redo writes: the closures of Commit and settle. -/
import Derived.Test.YtkhdahipnfloeaaCommit
import Derived.Test.YtkhdahipnfloeaaBase
namespace Go.Proofs.Ytkhdahipnfloeaa
open Go.RowKit
set_option maxRecDepth 100000

theorem logged_any (at1 : Int) (u : Value) (b : List UInt8) (w : World) (hb : Bs w u b) (hl : b.length ≤ 504) :
    Calls Try.prog 36 #[.agg #[.int .i64 at1, u]] w fun e w' => ∃ v, e = .returned v ∧ Bs w' v (le at1 8 ++ b) ∧ Below w.heap.size w w' := by
  obtain ⟨bo, bc, rfl, hb1, hb2, -⟩ := id hb
  have hb2' : bc ≤ 9223372036854775807 := hb2
  obtain ⟨m1, hm1⟩ : ∃ m, m = b.length := ⟨_, rfl⟩
  have hal : Below w.heap.size w (w.alloc (.cells #[.int .i64 at1, .slice bo b.length bc] 56)) := (Below.refl _ w).alloc (Nat.le_refl _) _
  have hbk := Blk.new w #[.int .i64 at1, .slice bo b.length bc] 56
  have c0 := hbk.cell 0
  have c1 := hbk.cell 1
  have HBS := Lib.hid (hb.below hal)
  have HAL := Lib.hid hal
  rw [← hm1] at hb1 c0 c1 HBS HAL ⊢
  have hlt : w.heap.size < (w.alloc (.cells #[.int .i64 at1, .slice bo m1 bc] 56)).heap.size := by simp
  have HLT := Lib.hid hlt
  clear hbk hb hal hb2 hm1 hlt
  go_enter Try.func36, Try.ntmps36
  go_wp2_with fail
  generalize hw1 : w.alloc _ = w1 at c0 c1 HBS HAL HLT ⊢
  have HW1 := Lib.hid hw1
  replace c0 : w1.cell? ⟨w.heap.size, 0, none⟩ = some (.int .i64 at1) := c0
  replace c1 : w1.cell? ⟨w.heap.size, 1, none⟩ = some (.slice bo m1 bc) := c1
  clear hw1
  go_region_held3 (fun w' => w'.cell? ⟨w.heap.size, 0, none⟩ = some (.int .i64 at1) ∧ w'.cell? ⟨w.heap.size, 1, none⟩ = some (.slice bo m1 bc)) (first | exact ⟨c0, c1⟩ | exact q1 | exact q2)
    (first
      | (go_at_call 38; refine (int_any (.slice none 0 0) [] at1 (by decide) _ (Bs.nil _)).mono ?_; rintro e wi ⟨vi, rfl, hi, hbd⟩; have hbi := (Below.refl w1.heap.size w1).drew.trans hbd; have bi := Lib.hid (HAL.out.trans (hbi.mono HAL.out.size)); have HBI := Lib.hid (HBS.out.below hbi); have HI := Lib.hid (show Own wi w1.heap.size vi ([] ++ le at1 8) from hi); have q1 : wi.cell? ⟨w.heap.size, 0, none⟩ = some (.int .i64 at1) ∧ wi.cell? ⟨w.heap.size, 1, none⟩ = some (.slice bo m1 bc) := ⟨(hbi.cell HLT.out).trans c0, (hbi.cell HLT.out).trans c1⟩)
      | (refine step_append_bytes rfl (.tmp 5) (.tmp 7) rfl w1.heap.size vi _ rfl HI.out _ b rfl HBI.out ?_ ?_ ?_; (rw [List.nil_append, le_length]; omega); (exact hbi.size); intro va wa hva hga; have ba := Lib.hid (bi.out.grown hga bi.out.size (fun q hq => Nat.le_trans HAL.out.size (HI.out.out.lt q hq).1)); have hlk := hga.block w.heap.size (Nat.lt_of_lt_of_le HLT.out hbi.size) (fun e => by have := (HI.out.out.lt _ e.symm).1; have := HLT.out; omega); have q2 : wa.cell? ⟨w.heap.size, 0, none⟩ = some (.int .i64 at1) ∧ wa.cell? ⟨w.heap.size, 1, none⟩ = some (.slice bo m1 bc) := ⟨(World.cell?_of_block (a := ⟨w.heap.size, 0, none⟩) hlk).trans q1.1, (World.cell?_of_block (a := ⟨w.heap.size, 1, none⟩) hlk).trans q1.2⟩))
  go_wp2_with fail
  go_ret
  exact ⟨_, rfl, hva.bs, ba.out⟩

theorem zeros_add (a b : Nat) : zeros a ++ zeros b = zeros (a + b) := by simp [zeros]
theorem sec_page (b : List UInt8) (h : b.length ≤ 504) : sec (page b) = sec b := by
  unfold sec
  rw [page_length b h, page, List.append_assoc, zeros_add]
  congr 2
  omega
theorem sec_body (a : Int) (b : List UInt8) (h : b.length ≤ 504) : sec (le a 8 ++ page b) = sec (le a 8 ++ b) := by
  unfold sec
  rw [List.length_append, List.length_append, le_length, page_length b h, page, List.append_assoc, List.append_assoc, List.append_assoc, zeros_add]
  congr 3
  omega

/-- The first closure of Commit: a body's sector. -/
theorem bodyClo_any (lv : Value) (l : Pages) (S : Nat → Prop) (tb i : Nat) (hi : i < l.length) (w : World) (hp : Pus w S lv l) (hc : w.cell? ⟨tb, 0, none⟩ = some lv) (h5 : l[i].2.length ≤ 504) (hl : l.length ≤ 1000) :
    Calls Try.prog 35 #[.int .i64 i, .pointer (some ⟨tb, 0, none⟩)] w fun e w' => ∃ v, e = .returned (.tuple #[.int .i64 ((1 + i : Nat) : Int), v]) ∧ Bs w' v (le l[i].1 8 ++ l[i].2) ∧ Below w.heap.size w w' := by
  obtain ⟨ao, cap, rfl, hc1, hc2, hE⟩ := hp
  have hc2' : cap ≤ 9223372036854775807 := hc2
  obtain ⟨b, off, rfl, hSb, c0, u, c1, hbs, -⟩ := hE i hi
  have hlog := logged_any l[i].1 u l[i].2 w hbs h5
  obtain ⟨bo, bc, rfl, -⟩ := id hbs
  obtain ⟨n, hn⟩ : ∃ n, n = l.length := ⟨_, rfl⟩
  obtain ⟨at1, hat⟩ : ∃ m : Int, m = l[i].1 := ⟨_, rfl⟩
  obtain ⟨bs, hbb⟩ : ∃ m, m = l[i].2 := ⟨_, rfl⟩
  obtain ⟨m1, hm1⟩ : ∃ m, m = bs.length := ⟨_, rfl⟩
  rw [← hat] at c0 hlog ⊢
  rw [← hbb] at c1 hlog ⊢
  rw [← hm1] at c1 hlog
  rw [← hn] at hc hc1 hl hi
  have HLOG := Lib.hid hlog
  clear hE hbs hn hat hbb hm1 hSb hlog h5 hc2
  go_enter Try.func35, Try.ntmps35
  go_wp2_with fail
  refine HLOG.out.mono ?_
  rintro e w2 ⟨v, rfl, hv, hb⟩
  go_wp2_with fail
  go_ret2
  exact ⟨_, rfl, hv, hb⟩

/-- The second: the head. -/
theorem headClo_any (ao : Option Addr) (n cap : Nat) (tb : Nat) (w : World) (hc : w.cell? ⟨tb, 0, none⟩ = some (.slice ao n cap)) (i : Int) :
    Calls Try.prog 37 #[.int .i64 i, .pointer (some ⟨tb, 0, none⟩)] w fun e w' => ∃ v, e = .returned (.tuple #[.int .i64 0, v]) ∧ Bs w' v (headOf n) ∧ Below w.heap.size w w' := by
  have kc := fun (w : World) (C : Array Value) (n c : Nat) => Lib.run_convert_bytes_const (P := Try.prog) w 41 5 C n c Try.underlying41 Try.underlying5
  have hlt := World.block_lt_of_cell? w _ hc
  have hal := fun (C : Array Value) (fr : Nat × Nat) => (Below.refl w.heap.size w).alloc (Nat.le_refl _) (.cells C 5 fr)
  have hc2 := fun (C : Array Value) (fr : Nat × Nat) => ((hal C fr).cell (p := ⟨tb, 0, none⟩) hlt).trans hc
  have HAL := Lib.hid hal
  clear hlt hal
  go_enter Try.func37, Try.ntmps37
  go_wp2_with fail
  refine (int_any _ magic n (by decide) _ (bs_magic _ _)).mono ?_
  rintro e w2 ⟨v, rfl, hv, hb⟩
  have HB := Lib.hid ((HAL.out _ _).trans (hb.mono (HAL.out _ _).size))
  have HV := Lib.hid hv.bs
  clear hv hb hc2
  go_wp2_with fail
  go_ret2
  exact ⟨_, rfl, HV.out, HB.out⟩

/-- The first closure of settle: a home. -/
theorem homeClo_any (lv : Value) (l : Pages) (S : Nat → Prop) (tb i : Nat) (hi : i < l.length) (w : World) (hp : Pus w S lv l) (hc : w.cell? ⟨tb, 0, none⟩ = some lv) :
    Calls Try.prog 61 #[.int .i64 i, .pointer (some ⟨tb, 0, none⟩)] w fun e w' => ∃ v, e = .returned (.tuple #[.int .i64 l[i].1, v]) ∧ Bs w' v l[i].2 ∧ Below w.heap.size w w' := by
  obtain ⟨ao, cap, rfl, hc1, hc2, hE⟩ := hp
  have hc2' : cap ≤ 9223372036854775807 := hc2
  obtain ⟨b, off, rfl, hSb, c0, u, c1, hbs, -⟩ := hE i hi
  have HBS := Lib.hid hbs
  obtain ⟨bo, bc, rfl, -⟩ := hbs
  obtain ⟨n, hn⟩ : ∃ n, n = l.length := ⟨_, rfl⟩
  obtain ⟨at1, hat⟩ : ∃ m : Int, m = l[i].1 := ⟨_, rfl⟩
  obtain ⟨bs, hbb⟩ : ∃ m, m = l[i].2 := ⟨_, rfl⟩
  obtain ⟨m1, hm1⟩ : ∃ m, m = bs.length := ⟨_, rfl⟩
  rw [← hat] at c0 ⊢
  rw [← hbb] at c1 HBS ⊢
  rw [← hm1] at c1 HBS
  rw [← hn] at hc hc1 hi
  clear hE hn hat hbb hm1 hSb hc2
  go_enter Try.func61, Try.ntmps61
  go_wp2_with fail
  go_quiet (fail)
  go_wp2_with fail
  go_ret2
  exact ⟨_, rfl, HBS.out, draws (Below.refl _ _) _⟩

/-- The second: the head, made noughts. -/
theorem noHeadClo_any (w : World) (i : Int) :
    Calls Try.prog 62 #[.int .i64 i] w fun e w' => ∃ v, e = .returned (.tuple #[.int .i64 0, v]) ∧ Bs w' v [] ∧ Below w.heap.size w w' := by
  go_enter Try.func62, Try.ntmps62
  go_wp2_with fail
  go_ret2
  exact ⟨_, rfl, Bs.nil _, Below.refl _ _⟩
end Go.Proofs.Ytkhdahipnfloeaa
