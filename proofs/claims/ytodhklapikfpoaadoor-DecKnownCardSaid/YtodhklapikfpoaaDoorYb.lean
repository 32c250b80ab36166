/- DecKnown: the walk. -/
import Derived.Test.YtodhklapikfpoaaDoorYa
import Derived.Deep.DeepCutAuto
namespace Go.Proofs.YtodhklapikfpoaaDoor
open Go.RowKit Go.Shelf Flo
set_option maxRecDepth 100000
set_option linter.unusedVariables false
set_option linter.unusedSimpArgs false

/-- ten decimals, ten texts, one behind the other. -/
def RoD (w : World) (b : Nat) (f : Nat → Int × Nat) : Prop := b < w.heap.size ∧ ∀ j, j < 10 → w.cell? ⟨b, j * 2, none⟩ = some (.int .i64 (f j).1) ∧ w.cell? ⟨b, j * 2 + 1, none⟩ = some (.int .i64 ((f j).2 : Int))
theorem RoD.below {w w' : World} {b : Nat} {f : Nat → Int × Nat} (h : RoD w b f) (hb : Below w.heap.size w w') : RoD w' b f :=
  ⟨Nat.lt_of_lt_of_le h.1 hb.size, fun j hj => ⟨cellB hb h.1 (h.2 j hj).1, cellB hb h.1 (h.2 j hj).2⟩⟩
def RoS (w : World) (b : Nat) (f : Nat → List UInt8) : Prop := b < w.heap.size ∧ ∀ j, j < 10 → w.cell? ⟨b, j, none⟩ = some (.string ⟨(f j).toArray⟩)
theorem RoS.below {w w' : World} {b : Nat} {f : Nat → List UInt8} (h : RoS w b f) (hb : Below w.heap.size w w') : RoS w' b f :=
  ⟨Nat.lt_of_lt_of_le h.1 hb.size, fun j hj => cellB hb h.1 (h.2 j hj)⟩
theorem RoD.newX (w : World) (t : TypeId) : RoD (w.alloc (.cells #[.int .i64 1, .int .i64 1, .int .i64 5, .int .i64 1, .int .i64 999999999999999, .int .i64 0, .int .i64 999999999999999, .int .i64 1, .int .i64 1, .int .i64 3, .int .i64 (-7), .int .i64 0, .int .i64 1000000, .int .i64 0, .int .i64 999999999, .int .i64 0, .int .i64 1, .int .i64 6, .int .i64 125, .int .i64 1] t)) w.heap.size xAt := by
  refine ⟨by simp, fun j hj => ?_⟩
  have : j = 0 ∨ j = 1 ∨ j = 2 ∨ j = 3 ∨ j = 4 ∨ j = 5 ∨ j = 6 ∨ j = 7 ∨ j = 8 ∨ j = 9 := by omega
  rcases this with rfl | rfl | rfl | rfl | rfl | rfl | rfl | rfl | rfl | rfl <;> exact ⟨by rw [World.cell?_alloc_new]; rfl, by rw [World.cell?_alloc_new]; rfl⟩
theorem RoD.newY (w : World) (t : TypeId) : RoD (w.alloc (.cells #[.int .i64 2, .int .i64 1, .int .i64 (-5), .int .i64 1, .int .i64 1, .int .i64 0, .int .i64 1, .int .i64 1, .int .i64 1, .int .i64 3, .int .i64 (-7), .int .i64 0, .int .i64 1000000, .int .i64 0, .int .i64 1000001, .int .i64 0, .int .i64 1, .int .i64 1, .int .i64 8, .int .i64 0] t)) w.heap.size yAt := by
  refine ⟨by simp, fun j hj => ?_⟩
  have : j = 0 ∨ j = 1 ∨ j = 2 ∨ j = 3 ∨ j = 4 ∨ j = 5 ∨ j = 6 ∨ j = 7 ∨ j = 8 ∨ j = 9 := by omega
  rcases this with rfl | rfl | rfl | rfl | rfl | rfl | rfl | rfl | rfl | rfl <;> exact ⟨by rw [World.cell?_alloc_new]; rfl, by rw [World.cell?_alloc_new]; rfl⟩
theorem RoS.new1 (w : World) (t : TypeId) : RoS (w.alloc (.cells #[.string ⟨#[48, 46, 51]⟩, .string ⟨#[48]⟩, .string ⟨#[]⟩, .string ⟨#[49, 48, 48, 48, 48, 48, 48, 48, 48, 48, 48, 48, 48, 48, 48]⟩, .string ⟨#[48, 46, 48, 48, 50]⟩, .string ⟨#[45, 49, 52]⟩, .string ⟨#[50, 48, 48, 48, 48, 48, 48]⟩, .string ⟨#[49, 48, 48, 49, 48, 48, 48, 48, 48, 48]⟩, .string ⟨#[48, 46, 49, 48, 48, 48, 48, 49]⟩, .string ⟨#[50, 48, 46, 53]⟩] t)) w.heap.size s1At := by
  refine ⟨by simp, fun j hj => ?_⟩
  have : j = 0 ∨ j = 1 ∨ j = 2 ∨ j = 3 ∨ j = 4 ∨ j = 5 ∨ j = 6 ∨ j = 7 ∨ j = 8 ∨ j = 9 := by omega
  rcases this with rfl | rfl | rfl | rfl | rfl | rfl | rfl | rfl | rfl | rfl <;> (rw [World.cell?_alloc_new]; rfl)
theorem RoS.new2 (w : World) (t : TypeId) : RoS (w.alloc (.cells #[.string ⟨#[48, 46, 48, 50]⟩, .string ⟨#[45, 48, 46, 50, 53]⟩, .string ⟨#[57, 57, 57, 57, 57, 57, 57, 57, 57, 57, 57, 57, 57, 57, 57]⟩, .string ⟨#[57, 57, 57, 57, 57, 57, 57, 57, 57, 57, 57, 57, 57, 46, 57, 57]⟩, .string ⟨#[48, 46, 48, 48, 48, 48, 48, 49]⟩, .string ⟨#[52, 57]⟩, .string ⟨#[49, 48, 48, 48, 48, 48, 48, 48, 48, 48, 48, 48, 48]⟩, .string ⟨#[]⟩, .string ⟨#[]⟩, .string ⟨#[49, 48, 48]⟩] t)) w.heap.size s2At := by
  refine ⟨by simp, fun j hj => ?_⟩
  have : j = 0 ∨ j = 1 ∨ j = 2 ∨ j = 3 ∨ j = 4 ∨ j = 5 ∨ j = 6 ∨ j = 7 ∨ j = 8 ∨ j = 9 := by omega
  rcases this with rfl | rfl | rfl | rfl | rfl | rfl | rfl | rfl | rfl | rfl <;> (rw [World.cell?_alloc_new]; rfl)
theorem RoS.new3 (w : World) (t : TypeId) : RoS (w.alloc (.cells #[.string ⟨#[48, 46, 48, 51, 51, 51, 51, 51]⟩, .string ⟨#[48, 46, 49, 54, 54, 54, 54, 54]⟩, .string ⟨#[51, 51, 51, 51, 51, 51, 51, 51, 51, 51, 51, 51, 51, 51, 51]⟩, .string ⟨#[51, 51, 51, 51, 51, 51, 51, 51, 51, 51, 51, 51, 51, 51, 46, 51]⟩, .string ⟨#[48, 46, 48, 48, 48, 51, 51, 51]⟩, .string ⟨#[45, 50, 46, 51, 51, 51, 51, 51, 51]⟩, .string ⟨#[51, 51, 51, 51, 51, 51, 46, 51, 51, 51, 51, 51, 51]⟩, .string ⟨#[51, 51, 51, 51, 51, 51, 51, 51, 51]⟩, .string ⟨#[48]⟩, .string ⟨#[52, 46, 49, 54, 54, 54, 54, 54]⟩] t)) w.heap.size s3At := by
  refine ⟨by simp, fun j hj => ?_⟩
  have : j = 0 ∨ j = 1 ∨ j = 2 ∨ j = 3 ∨ j = 4 ∨ j = 5 ∨ j = 6 ∨ j = 7 ∨ j = 8 ∨ j = 9 := by omega
  rcases this with rfl | rfl | rfl | rfl | rfl | rfl | rfl | rfl | rfl | rfl <;> (rw [World.cell?_alloc_new]; rfl)
theorem of0 (w : World) : Calls Tryd.prog 16 #[.string ⟨#[48, 46, 49]⟩] w fun e w' => e = .returned (.agg #[.int .i64 1, .int .i64 1]) ∧ Below w.heap.size w w' :=
  of_read ⟨#[48, 46, 49]⟩ false 1 1 (1) 1 w (by decide) (by decide +kernel) (by decide +kernel) (by kernel_rfl)
theorem of1 (w : World) : Calls Tryd.prog 16 #[.string ⟨#[48, 46, 53]⟩] w fun e w' => e = .returned (.agg #[.int .i64 5, .int .i64 1]) ∧ Below w.heap.size w w' :=
  of_read ⟨#[48, 46, 53]⟩ false 5 1 (5) 1 w (by decide) (by decide +kernel) (by decide +kernel) (by kernel_rfl)
theorem of2 (w : World) : Calls Tryd.prog 16 #[.string ⟨#[57, 57, 57, 57, 57, 57, 57, 57, 57, 57, 57, 57, 57, 57, 57]⟩] w fun e w' => e = .returned (.agg #[.int .i64 999999999999999, .int .i64 0]) ∧ Below w.heap.size w w' :=
  of_read ⟨#[57, 57, 57, 57, 57, 57, 57, 57, 57, 57, 57, 57, 57, 57, 57]⟩ false 999999999999999 0 (999999999999999) 0 w (by decide) (by decide +kernel) (by decide +kernel) (by kernel_rfl)
theorem of3 (w : World) : Calls Tryd.prog 16 #[.string ⟨#[57, 57, 57, 57, 57, 57, 57, 57, 57, 57, 57, 57, 57, 57, 46, 57]⟩] w fun e w' => e = .returned (.agg #[.int .i64 999999999999999, .int .i64 1]) ∧ Below w.heap.size w w' :=
  of_read ⟨#[57, 57, 57, 57, 57, 57, 57, 57, 57, 57, 57, 57, 57, 57, 46, 57]⟩ false 999999999999999 1 (999999999999999) 1 w (by decide) (by decide +kernel) (by decide +kernel) (by kernel_rfl)
theorem of4 (w : World) : Calls Tryd.prog 16 #[.string ⟨#[48, 46, 48, 48, 49]⟩] w fun e w' => e = .returned (.agg #[.int .i64 1, .int .i64 3]) ∧ Below w.heap.size w w' :=
  of_read ⟨#[48, 46, 48, 48, 49]⟩ false 1 3 (1) 3 w (by decide) (by decide +kernel) (by decide +kernel) (by kernel_rfl)
theorem of5 (w : World) : Calls Tryd.prog 16 #[.string ⟨#[45, 55]⟩] w fun e w' => e = .returned (.agg #[.int .i64 (-7), .int .i64 0]) ∧ Below w.heap.size w w' :=
  of_read ⟨#[45, 55]⟩ true 7 0 (-7) 0 w (by decide) (by decide +kernel) (by decide +kernel) (by kernel_rfl)
theorem of6 (w : World) : Calls Tryd.prog 16 #[.string ⟨#[49, 48, 48, 48, 48, 48, 48]⟩] w fun e w' => e = .returned (.agg #[.int .i64 1000000, .int .i64 0]) ∧ Below w.heap.size w w' :=
  of_read ⟨#[49, 48, 48, 48, 48, 48, 48]⟩ false 1000000 0 (1000000) 0 w (by decide) (by decide +kernel) (by decide +kernel) (by kernel_rfl)
theorem of7 (w : World) : Calls Tryd.prog 16 #[.string ⟨#[57, 57, 57, 57, 57, 57, 57, 57, 57]⟩] w fun e w' => e = .returned (.agg #[.int .i64 999999999, .int .i64 0]) ∧ Below w.heap.size w w' :=
  of_read ⟨#[57, 57, 57, 57, 57, 57, 57, 57, 57]⟩ false 999999999 0 (999999999) 0 w (by decide) (by decide +kernel) (by decide +kernel) (by kernel_rfl)
theorem of8 (w : World) : Calls Tryd.prog 16 #[.string ⟨#[48, 46, 48, 48, 48, 48, 48, 49]⟩] w fun e w' => e = .returned (.agg #[.int .i64 1, .int .i64 6]) ∧ Below w.heap.size w w' :=
  of_read ⟨#[48, 46, 48, 48, 48, 48, 48, 49]⟩ false 1 6 (1) 6 w (by decide) (by decide +kernel) (by decide +kernel) (by kernel_rfl)
theorem of9 (w : World) : Calls Tryd.prog 16 #[.string ⟨#[49, 50, 46, 53]⟩] w fun e w' => e = .returned (.agg #[.int .i64 125, .int .i64 1]) ∧ Below w.heap.size w w' :=
  of_read ⟨#[49, 50, 46, 53]⟩ false 125 1 (125) 1 w (by decide) (by decide +kernel) (by decide +kernel) (by kernel_rfl)
theorem of10 (w : World) : Calls Tryd.prog 16 #[.string ⟨#[48, 46, 50]⟩] w fun e w' => e = .returned (.agg #[.int .i64 2, .int .i64 1]) ∧ Below w.heap.size w w' :=
  of_read ⟨#[48, 46, 50]⟩ false 2 1 (2) 1 w (by decide) (by decide +kernel) (by decide +kernel) (by kernel_rfl)
theorem of11 (w : World) : Calls Tryd.prog 16 #[.string ⟨#[45, 48, 46, 53]⟩] w fun e w' => e = .returned (.agg #[.int .i64 (-5), .int .i64 1]) ∧ Below w.heap.size w w' :=
  of_read ⟨#[45, 48, 46, 53]⟩ true 5 1 (-5) 1 w (by decide) (by decide +kernel) (by decide +kernel) (by kernel_rfl)
theorem of12 (w : World) : Calls Tryd.prog 16 #[.string ⟨#[49]⟩] w fun e w' => e = .returned (.agg #[.int .i64 1, .int .i64 0]) ∧ Below w.heap.size w w' :=
  of_read ⟨#[49]⟩ false 1 0 (1) 0 w (by decide) (by decide +kernel) (by decide +kernel) (by kernel_rfl)
theorem of13 (w : World) : Calls Tryd.prog 16 #[.string ⟨#[49, 48, 48, 48, 48, 48, 49]⟩] w fun e w' => e = .returned (.agg #[.int .i64 1000001, .int .i64 0]) ∧ Below w.heap.size w w' :=
  of_read ⟨#[49, 48, 48, 48, 48, 48, 49]⟩ false 1000001 0 (1000001) 0 w (by decide) (by decide +kernel) (by decide +kernel) (by kernel_rfl)
theorem of14 (w : World) : Calls Tryd.prog 16 #[.string ⟨#[56]⟩] w fun e w' => e = .returned (.agg #[.int .i64 8, .int .i64 0]) ∧ Below w.heap.size w w' :=
  of_read ⟨#[56]⟩ false 8 0 (8) 0 w (by decide) (by decide +kernel) (by decide +kernel) (by kernel_rfl)

set_option maxHeartbeats 4000000 in
theorem known13_walk (n : Int) (w : World) (hn : In64 n) (hX : PowAt w) (hT : TabP w) :
    Calls Tryd.prog 5 #[.int .i64 n] w fun e w' => e = .returned (.bool true) ∧ Below w.heap.size w w' := by
  have HK := Lib.hid (known13_any w)
  have HW := Lib.hid (fun w => within_any n 10 w (by omega) (by omega) hn.1 hn.2)
  obtain ⟨k, hk⟩ : ∃ x : Nat, (x : Int) = n % 10 := ⟨(n % 10).toNat, by omega⟩
  have h10 : k < 10 := by omega
  have h10i : (k : Int) < 10 := by omega
  rw [← hk] at HW
  have HX := Lib.hid (And.intro hX hT)
  clear hk hn hX hT
  obtain ⟨xm, hxm⟩ : ∃ x, x = (xAt k).1 := ⟨_, rfl⟩
  obtain ⟨xc, hxc⟩ : ∃ x, x = (xAt k).2 := ⟨_, rfl⟩
  obtain ⟨ym, hym⟩ : ∃ x, x = (yAt k).1 := ⟨_, rfl⟩
  obtain ⟨yc, hyc⟩ : ∃ x, x = (yAt k).2 := ⟨_, rfl⟩
  have htab := List.all_eq_true.1 known_table k (List.mem_range.2 h10)
  simp only [Bool.and_eq_true] at htab
  obtain ⟨⟨⟨⟨⟨⟨t1, t2⟩, t3⟩, t4⟩, t5⟩, t6⟩, t7⟩ := htab
  have gx := good_of t1
  have gy := good_of t2
  obtain ⟨am, ac, ab, a1, a2, a3, a4⟩ := tell_of t3
  obtain ⟨bm, bc, bb, b1, b2, b3, b4⟩ := tell_of t4
  obtain ⟨cm, cc, cb, c1, c2, c3, c4⟩ := tell_of t5
  rw [t6] at c2
  rw [← a2, ← b2] at t7
  subst c2
  have HA := Lib.hid (fun w hP => add_six w (xAt k).1 (xAt k).2 (yAt k).1 (yAt k).2 gx gy hP)
  have HM := Lib.hid (fun w => mul_any w (xAt k).1 (xAt k).2 (yAt k).1 (yAt k).2 gx gy)
  have HD := Lib.hid (fun w hP => (show Calls Tryd.prog 11 #[.agg #[.int .i64 (xAt k).1, .int .i64 ((xAt k).2 : Int)], .int .i64 3] w _ from ddiv_some w (xAt k).1 (xAt k).2 3 gx (by decide) (by decide) hP))
  simp only [Int.toNat_natCast] at HA HM
  rw [show nrm (sixI (xAt k).1 (xAt k).2 + sixI (yAt k).1 (yAt k).2) 6 = sumK k from rfl, a1] at HA
  rw [show nrm ((xAt k).1 * (yAt k).1) ((xAt k).2 + (yAt k).2) = mulK k from rfl, b1] at HM
  rw [show nrm (sgnI (decide ((xAt k).1 < 0)) (divQ (xAt k).1 (xAt k).2 3)) 6 = divK k from rfl, c1] at HD
  rw [← hxm, ← hxc, ← hym, ← hyc] at HA HM
  rw [← hxm, ← hxc] at HD
  obtain ⟨S1, hS1⟩ : ∃ S : ByteArray, S = ⟨(s1At k).toArray⟩ := ⟨_, rfl⟩
  obtain ⟨S2, hS2⟩ : ∃ S : ByteArray, S = ⟨(s2At k).toArray⟩ := ⟨_, rfl⟩
  obtain ⟨S3, hS3⟩ : ∃ S : ByteArray, S = ⟨(s3At k).toArray⟩ := ⟨_, rfl⟩
  have HPA : Hid (ab = true → ∀ w, TabP w → Calls Tryd.prog 17 #[.agg #[.int .i64 am, .int .i64 ac]] w fun e w' => e = .returned (.string S1) ∧ Below w.heap.size w w') := Lib.hid (fun h w ht => by
    have := print_any am ac w (a3 h).1 ht
    rw [(a3 h).2.1, ← hS1] at this; exact this)
  have HPB : Hid (bb = true → ∀ w, TabP w → Calls Tryd.prog 17 #[.agg #[.int .i64 bm, .int .i64 bc]] w fun e w' => e = .returned (.string S2) ∧ Below w.heap.size w w') := Lib.hid (fun h w ht => by
    have := print_any bm bc w (b3 h).1 ht
    rw [(b3 h).2.1, ← hS2] at this; exact this)
  have HPC : Hid (∀ w, TabP w → Calls Tryd.prog 17 #[.agg #[.int .i64 cm, .int .i64 cc]] w fun e w' => e = .returned (.string S3) ∧ Below w.heap.size w w') := Lib.hid (fun w ht => by
    have := print_any cm cc w (c3 rfl).1 ht
    rw [(c3 rfl).2.1, ← hS3] at this; exact this)
  have HE1 : Hid ((ab = true → ¬ S1.toList = []) ∧ (ab = false → S1 = ⟨#[]⟩)) := Lib.hid ⟨fun h e => (a3 h).2.2 (by rw [hS1, Lib.toList_data] at e; exact e), fun h => by rw [hS1, a4 h]⟩
  have HE2 : Hid ((bb = true → ¬ S2.toList = []) ∧ (bb = false → S2 = ⟨#[]⟩)) := Lib.hid ⟨fun h e => (b3 h).2.2 (by rw [hS2, Lib.toList_data] at e; exact e), fun h => by rw [hS2, b4 h]⟩
  have HTT := Lib.hid t7
  have HXY := Lib.hid (And.intro hxm (And.intro hxc (And.intro hym hyc)))
  have HSS := Lib.hid (And.intro hS1 (And.intro hS2 hS3))
  clear t1 t2 t3 t4 t5 t6 t7 gx gy a1 a2 a3 a4 b1 b2 b3 b4 c1 c3 c4 hxm hxc hym hyc hS1 hS2 hS3
  go_enter Tryd.func5, Tryd.ntmps5
  go_wp2_with fail
  refine HK.out.mono ?_
  rintro e wn ⟨rfl, hb1⟩
  have HBB := Lib.hid hb1
  clear hb1
  go_wp2_with fail
  (with_reducible refine (of0 _).mono ?_)
  rintro e wn ⟨rfl, hb⟩
  have HBB := Lib.hid (HBB.out.trans (hb.mono HBB.out.size))
  clear hb
  rename World => wq0
  go_wp2_with fail
  (with_reducible refine (of1 _).mono ?_)
  rintro e wn ⟨rfl, hb⟩
  have HBB := Lib.hid (HBB.out.trans (hb.mono HBB.out.size))
  clear hb
  rename World => wq1
  go_wp2_with fail
  (with_reducible refine (of2 _).mono ?_)
  rintro e wn ⟨rfl, hb⟩
  have HBB := Lib.hid (HBB.out.trans (hb.mono HBB.out.size))
  clear hb
  rename World => wq2
  go_wp2_with fail
  (with_reducible refine (of3 _).mono ?_)
  rintro e wn ⟨rfl, hb⟩
  have HBB := Lib.hid (HBB.out.trans (hb.mono HBB.out.size))
  clear hb
  rename World => wq3
  go_wp2_with fail
  (with_reducible refine (of4 _).mono ?_)
  rintro e wn ⟨rfl, hb⟩
  have HBB := Lib.hid (HBB.out.trans (hb.mono HBB.out.size))
  clear hb
  rename World => wq4
  go_wp2_with fail
  (with_reducible refine (of5 _).mono ?_)
  rintro e wn ⟨rfl, hb⟩
  have HBB := Lib.hid (HBB.out.trans (hb.mono HBB.out.size))
  clear hb
  rename World => wq5
  go_wp2_with fail
  (with_reducible refine (of6 _).mono ?_)
  rintro e wn ⟨rfl, hb⟩
  have HBB := Lib.hid (HBB.out.trans (hb.mono HBB.out.size))
  clear hb
  rename World => wq6
  go_wp2_with fail
  (with_reducible refine (of7 _).mono ?_)
  rintro e wn ⟨rfl, hb⟩
  have HBB := Lib.hid (HBB.out.trans (hb.mono HBB.out.size))
  clear hb
  rename World => wq7
  go_wp2_with fail
  (with_reducible refine (of8 _).mono ?_)
  rintro e wn ⟨rfl, hb⟩
  have HBB := Lib.hid (HBB.out.trans (hb.mono HBB.out.size))
  clear hb
  rename World => wq8
  go_wp2_with fail
  (with_reducible refine (of9 _).mono ?_)
  rintro e wn ⟨rfl, hb⟩
  have HBB := Lib.hid (HBB.out.trans (hb.mono HBB.out.size))
  clear hb
  rename World => wq9
  go_upto_region 4 with fail
  have HRX := Lib.hid (RoD.newX wq9 24)
  have HBB := Lib.hid (HBB.out.alloc HBB.out.size (.cells #[.int .i64 1, .int .i64 1, .int .i64 5, .int .i64 1, .int .i64 999999999999999, .int .i64 0, .int .i64 999999999999999, .int .i64 1, .int .i64 1, .int .i64 3, .int .i64 (-7), .int .i64 0, .int .i64 1000000, .int .i64 0, .int .i64 999999999, .int .i64 0, .int .i64 1, .int .i64 6, .int .i64 125, .int .i64 1] 24))
  generalize World.alloc wq9 _ = wra at HRX HBB ⊢
  generalize wq9.heap.size = p3 at HRX ⊢
  go_wp2_with fail
  (with_reducible refine (of10 _).mono ?_)
  rintro e wn ⟨rfl, hb⟩
  have HBB := Lib.hid (HBB.out.trans (hb.mono HBB.out.size))
  have HRX := Lib.hid (HRX.out.below hb)
  clear hb
  rename World => wq10
  go_wp2_with fail
  (with_reducible refine (of11 _).mono ?_)
  rintro e wn ⟨rfl, hb⟩
  have HBB := Lib.hid (HBB.out.trans (hb.mono HBB.out.size))
  have HRX := Lib.hid (HRX.out.below hb)
  clear hb
  rename World => wq11
  go_wp2_with fail
  (with_reducible refine (of12 _).mono ?_)
  rintro e wn ⟨rfl, hb⟩
  have HBB := Lib.hid (HBB.out.trans (hb.mono HBB.out.size))
  have HRX := Lib.hid (HRX.out.below hb)
  clear hb
  rename World => wq12
  go_wp2_with fail
  (with_reducible refine (of0 _).mono ?_)
  rintro e wn ⟨rfl, hb⟩
  have HBB := Lib.hid (HBB.out.trans (hb.mono HBB.out.size))
  have HRX := Lib.hid (HRX.out.below hb)
  clear hb
  rename World => wq13
  go_wp2_with fail
  (with_reducible refine (of4 _).mono ?_)
  rintro e wn ⟨rfl, hb⟩
  have HBB := Lib.hid (HBB.out.trans (hb.mono HBB.out.size))
  have HRX := Lib.hid (HRX.out.below hb)
  clear hb
  rename World => wq14
  go_wp2_with fail
  (with_reducible refine (of5 _).mono ?_)
  rintro e wn ⟨rfl, hb⟩
  have HBB := Lib.hid (HBB.out.trans (hb.mono HBB.out.size))
  have HRX := Lib.hid (HRX.out.below hb)
  clear hb
  rename World => wq15
  go_wp2_with fail
  (with_reducible refine (of6 _).mono ?_)
  rintro e wn ⟨rfl, hb⟩
  have HBB := Lib.hid (HBB.out.trans (hb.mono HBB.out.size))
  have HRX := Lib.hid (HRX.out.below hb)
  clear hb
  rename World => wq16
  go_wp2_with fail
  (with_reducible refine (of13 _).mono ?_)
  rintro e wn ⟨rfl, hb⟩
  have HBB := Lib.hid (HBB.out.trans (hb.mono HBB.out.size))
  have HRX := Lib.hid (HRX.out.below hb)
  clear hb
  rename World => wq17
  go_wp2_with fail
  (with_reducible refine (of0 _).mono ?_)
  rintro e wn ⟨rfl, hb⟩
  have HBB := Lib.hid (HBB.out.trans (hb.mono HBB.out.size))
  have HRX := Lib.hid (HRX.out.below hb)
  clear hb
  rename World => wq18
  go_wp2_with fail
  (with_reducible refine (of14 _).mono ?_)
  rintro e wn ⟨rfl, hb⟩
  have HBB := Lib.hid (HBB.out.trans (hb.mono HBB.out.size))
  have HRX := Lib.hid (HRX.out.below hb)
  clear hb
  rename World => wq19
  go_upto_region 5 with fail
  have hal := (Below.refl wq19.heap.size wq19).alloc (Nat.le_refl _) (.cells #[.int .i64 2, .int .i64 1, .int .i64 (-5), .int .i64 1, .int .i64 1, .int .i64 0, .int .i64 1, .int .i64 1, .int .i64 1, .int .i64 3, .int .i64 (-7), .int .i64 0, .int .i64 1000000, .int .i64 0, .int .i64 1000001, .int .i64 0, .int .i64 1, .int .i64 1, .int .i64 8, .int .i64 0] 24)
  have HRX := Lib.hid (HRX.out.below hal)
  have HRY := Lib.hid (RoD.newY wq19 24)
  have HBB := Lib.hid (HBB.out.alloc HBB.out.size (.cells #[.int .i64 2, .int .i64 1, .int .i64 (-5), .int .i64 1, .int .i64 1, .int .i64 0, .int .i64 1, .int .i64 1, .int .i64 1, .int .i64 3, .int .i64 (-7), .int .i64 0, .int .i64 1000000, .int .i64 0, .int .i64 1000001, .int .i64 0, .int .i64 1, .int .i64 1, .int .i64 8, .int .i64 0] 24))
  clear hal
  generalize World.alloc wq19 _ = wrb at HRX HRY HBB ⊢
  generalize wq19.heap.size = p4 at HRY ⊢
  go_upto_region 6 with fail
  have hal := (Below.refl wrb.heap.size wrb).alloc (Nat.le_refl _) (.cells #[.string ⟨#[48, 46, 51]⟩, .string ⟨#[48]⟩, .string ⟨#[]⟩, .string ⟨#[49, 48, 48, 48, 48, 48, 48, 48, 48, 48, 48, 48, 48, 48, 48]⟩, .string ⟨#[48, 46, 48, 48, 50]⟩, .string ⟨#[45, 49, 52]⟩, .string ⟨#[50, 48, 48, 48, 48, 48, 48]⟩, .string ⟨#[49, 48, 48, 49, 48, 48, 48, 48, 48, 48]⟩, .string ⟨#[48, 46, 49, 48, 48, 48, 48, 49]⟩, .string ⟨#[50, 48, 46, 53]⟩] 9)
  have HRX := Lib.hid (HRX.out.below hal)
  have HRY := Lib.hid (HRY.out.below hal)
  have HR1 := Lib.hid (RoS.new1 wrb 9)
  have HBB := Lib.hid (HBB.out.alloc HBB.out.size (.cells #[.string ⟨#[48, 46, 51]⟩, .string ⟨#[48]⟩, .string ⟨#[]⟩, .string ⟨#[49, 48, 48, 48, 48, 48, 48, 48, 48, 48, 48, 48, 48, 48, 48]⟩, .string ⟨#[48, 46, 48, 48, 50]⟩, .string ⟨#[45, 49, 52]⟩, .string ⟨#[50, 48, 48, 48, 48, 48, 48]⟩, .string ⟨#[49, 48, 48, 49, 48, 48, 48, 48, 48, 48]⟩, .string ⟨#[48, 46, 49, 48, 48, 48, 48, 49]⟩, .string ⟨#[50, 48, 46, 53]⟩] 9))
  clear hal
  generalize World.alloc wrb _ = wrc at HRX HRY HR1 HBB ⊢
  generalize wrb.heap.size = p5 at HR1 ⊢
  go_upto_region 7 with fail
  have hal := (Below.refl wrc.heap.size wrc).alloc (Nat.le_refl _) (.cells #[.string ⟨#[48, 46, 48, 50]⟩, .string ⟨#[45, 48, 46, 50, 53]⟩, .string ⟨#[57, 57, 57, 57, 57, 57, 57, 57, 57, 57, 57, 57, 57, 57, 57]⟩, .string ⟨#[57, 57, 57, 57, 57, 57, 57, 57, 57, 57, 57, 57, 57, 46, 57, 57]⟩, .string ⟨#[48, 46, 48, 48, 48, 48, 48, 49]⟩, .string ⟨#[52, 57]⟩, .string ⟨#[49, 48, 48, 48, 48, 48, 48, 48, 48, 48, 48, 48, 48]⟩, .string ⟨#[]⟩, .string ⟨#[]⟩, .string ⟨#[49, 48, 48]⟩] 9)
  have HRX := Lib.hid (HRX.out.below hal)
  have HRY := Lib.hid (HRY.out.below hal)
  have HR1 := Lib.hid (HR1.out.below hal)
  have HR2 := Lib.hid (RoS.new2 wrc 9)
  have HBB := Lib.hid (HBB.out.alloc HBB.out.size (.cells #[.string ⟨#[48, 46, 48, 50]⟩, .string ⟨#[45, 48, 46, 50, 53]⟩, .string ⟨#[57, 57, 57, 57, 57, 57, 57, 57, 57, 57, 57, 57, 57, 57, 57]⟩, .string ⟨#[57, 57, 57, 57, 57, 57, 57, 57, 57, 57, 57, 57, 57, 46, 57, 57]⟩, .string ⟨#[48, 46, 48, 48, 48, 48, 48, 49]⟩, .string ⟨#[52, 57]⟩, .string ⟨#[49, 48, 48, 48, 48, 48, 48, 48, 48, 48, 48, 48, 48]⟩, .string ⟨#[]⟩, .string ⟨#[]⟩, .string ⟨#[49, 48, 48]⟩] 9))
  clear hal
  generalize World.alloc wrc _ = wrd at HRX HRY HR1 HR2 HBB ⊢
  generalize wrc.heap.size = p6 at HR2 ⊢
  go_upto_region 8 with fail
  have hal := (Below.refl wrd.heap.size wrd).alloc (Nat.le_refl _) (.cells #[.string ⟨#[48, 46, 48, 51, 51, 51, 51, 51]⟩, .string ⟨#[48, 46, 49, 54, 54, 54, 54, 54]⟩, .string ⟨#[51, 51, 51, 51, 51, 51, 51, 51, 51, 51, 51, 51, 51, 51, 51]⟩, .string ⟨#[51, 51, 51, 51, 51, 51, 51, 51, 51, 51, 51, 51, 51, 51, 46, 51]⟩, .string ⟨#[48, 46, 48, 48, 48, 51, 51, 51]⟩, .string ⟨#[45, 50, 46, 51, 51, 51, 51, 51, 51]⟩, .string ⟨#[51, 51, 51, 51, 51, 51, 46, 51, 51, 51, 51, 51, 51]⟩, .string ⟨#[51, 51, 51, 51, 51, 51, 51, 51, 51]⟩, .string ⟨#[48]⟩, .string ⟨#[52, 46, 49, 54, 54, 54, 54, 54]⟩] 9)
  have HRX := Lib.hid (HRX.out.below hal)
  have HRY := Lib.hid (HRY.out.below hal)
  have HR1 := Lib.hid (HR1.out.below hal)
  have HR2 := Lib.hid (HR2.out.below hal)
  have HR3 := Lib.hid (RoS.new3 wrd 9)
  have HBB := Lib.hid (HBB.out.alloc HBB.out.size (.cells #[.string ⟨#[48, 46, 48, 51, 51, 51, 51, 51]⟩, .string ⟨#[48, 46, 49, 54, 54, 54, 54, 54]⟩, .string ⟨#[51, 51, 51, 51, 51, 51, 51, 51, 51, 51, 51, 51, 51, 51, 51]⟩, .string ⟨#[51, 51, 51, 51, 51, 51, 51, 51, 51, 51, 51, 51, 51, 51, 46, 51]⟩, .string ⟨#[48, 46, 48, 48, 48, 51, 51, 51]⟩, .string ⟨#[45, 50, 46, 51, 51, 51, 51, 51, 51]⟩, .string ⟨#[51, 51, 51, 51, 51, 51, 46, 51, 51, 51, 51, 51, 51]⟩, .string ⟨#[51, 51, 51, 51, 51, 51, 51, 51, 51]⟩, .string ⟨#[48]⟩, .string ⟨#[52, 46, 49, 54, 54, 54, 54, 54]⟩] 9))
  clear hal
  generalize World.alloc wrd _ = wr at HRX HRY HR1 HR2 HR3 HBB ⊢
  generalize wrd.heap.size = p7 at HR3 ⊢
  have FX : ∀ wz, Below wr.heap.size wr wz → wz.cell? ⟨p3, k * 2, none⟩ = some (.int .i64 xm) ∧ wz.cell? ⟨p3, k * 2 + 1, none⟩ = some (.int .i64 (xc : Int)) ∧ wz.cell? ⟨p4, k * 2, none⟩ = some (.int .i64 ym) ∧ wz.cell? ⟨p4, k * 2 + 1, none⟩ = some (.int .i64 (yc : Int)) ∧
      wz.cell? ⟨p5, k, none⟩ = some (.string S1) ∧ wz.cell? ⟨p6, k, none⟩ = some (.string S2) ∧ wz.cell? ⟨p7, k, none⟩ = some (.string S3) := by
    intro wz hz
    have h1 := (HRX.out.below hz).2 k h10
    have h2 := (HRY.out.below hz).2 k h10
    have h3 := (HR1.out.below hz).2 k h10
    have h4 := (HR2.out.below hz).2 k h10
    have h5 := (HR3.out.below hz).2 k h10
    obtain ⟨e1, e2, e3, e4⟩ := HXY.out
    obtain ⟨e5, e6, e7⟩ := HSS.out
    rw [← e1, ← e2] at h1
    rw [← e3, ← e4] at h2
    rw [← e5] at h3
    rw [← e6] at h4
    rw [← e7] at h5
    exact ⟨h1.1, h1.2, h2.1, h2.2, h3, h4, h5⟩
  have HF := Lib.hid FX
  clear FX HRX HRY HR1 HR2 HR3 HXY HSS
  go_wp2_with fail
  (with_reducible refine (HW.out _).mono ?_)
  rintro e w' ⟨rfl, rfl⟩
  go_upto_region 9 with fail
  go_cut [9, 10] from 46 to 57 (fun s15 s16 wx => ∃ bk : Nat, s15 = .pointer (some ⟨bk, 0, none⟩) ∧ s16 = .bool ab ∧ DecB wx bk am ac ∧ Below wr.heap.size wr wx)
  case first =>
    refine wp_region_any (by kernel_rfl) ?_
    change wpAny _ _ _ _ _ _ _ (World.drew _)
    refine wpAny_of_held (S := fun v => Below wr.heap.size wr v) _ _ _ _ ?_
    have hS : (fun v => Below wr.heap.size wr v) _ := (Below.refl _ wr).drew
    refine wpAnyH_take (i := 0) (oi := ⟨some 47, _, _, _, _, _⟩) (v := ?_) rfl (by kernel_rfl) (by kernel_rfl) (by kernel_rfl) (fun _ _ _ h => h) (Or.inl ⟨by simp only [Region.wanted], ?_⟩) hS ?_
    rotate_left
    · intro wz hSw
      clear hSw
      go_simp
      first | done | with_reducible rfl
    try simp only [Act.put, List.setIfInBounds_toArray, List.set_cons_zero, List.set_cons_succ]
    refine wpAnyH_take (i := 1) (oi := ⟨some 48, _, _, _, _, _⟩) (v := ?_) rfl (by kernel_rfl) (by kernel_rfl) (by kernel_rfl) (fun _ _ _ h => h) (Or.inl ⟨by simp only [Region.wanted], ?_⟩) hS ?_
    rotate_left
    · intro wz hSw
      clear hSw
      go_simp
      first | done | with_reducible rfl
    try simp only [Act.put, List.setIfInBounds_toArray, List.set_cons_zero, List.set_cons_succ]
    refine wpAnyH_take (i := 2) (oi := ⟨some 49, _, _, _, _, _⟩) (v := ?_) rfl (by kernel_rfl) (by kernel_rfl) (by kernel_rfl) (fun _ _ _ h => h) (Or.inl ⟨by simp only [Region.wanted], ?_⟩) hS ?_
    rotate_left
    · intro wz hSw
      clear hSw
      go_simp
      first | done | with_reducible rfl
    try simp only [Act.put, List.setIfInBounds_toArray, List.set_cons_zero, List.set_cons_succ]
    refine wpAnyH_take (i := 3) (oi := ⟨some 50, _, _, _, _, _⟩) (v := ?_) rfl (by kernel_rfl) (by kernel_rfl) (by kernel_rfl) (fun _ _ _ h => h) (Or.inl ⟨by simp only [Region.wanted], ?_⟩) hS ?_
    rotate_left
    · intro wz hSw; obtain ⟨f0, f1, f2, f3, -, -, -⟩ := HF.out _ hSw
      clear hSw
      go_simp
      first | done | with_reducible rfl
    try simp only [Act.put, List.setIfInBounds_toArray, List.set_cons_zero, List.set_cons_succ]
    refine wpAnyH_take (i := 4) (oi := ⟨some 51, _, _, _, _, _⟩) (v := ?_) rfl (by kernel_rfl) (by kernel_rfl) (by kernel_rfl) (fun _ _ _ h => h) (Or.inl ⟨by simp only [Region.wanted], ?_⟩) hS ?_
    rotate_left
    · intro wz hSw
      clear hSw
      go_simp
      first | done | with_reducible rfl
    try simp only [Act.put, List.setIfInBounds_toArray, List.set_cons_zero, List.set_cons_succ]
    refine wpAnyH_take (i := 5) (oi := ⟨some 52, _, _, _, _, _⟩) (v := ?_) rfl (by kernel_rfl) (by kernel_rfl) (by kernel_rfl) (fun _ _ _ h => h) (Or.inl ⟨by simp only [Region.wanted], ?_⟩) hS ?_
    rotate_left
    · intro wz hSw
      clear hSw
      go_simp
      first | done | with_reducible rfl
    try simp only [Act.put, List.setIfInBounds_toArray, List.set_cons_zero, List.set_cons_succ]
    refine wpAnyH_take (i := 6) (oi := ⟨some 53, _, _, _, _, _⟩) (v := ?_) rfl (by kernel_rfl) (by kernel_rfl) (by kernel_rfl) (fun _ _ _ h => h) (Or.inl ⟨by simp only [Region.wanted], ?_⟩) hS ?_
    rotate_left
    · intro wz hSw
      clear hSw
      go_simp
      first | done | with_reducible rfl
    try simp only [Act.put, List.setIfInBounds_toArray, List.set_cons_zero, List.set_cons_succ]
    refine wpAnyH_take (i := 7) (oi := ⟨some 54, _, _, _, _, _⟩) (v := ?_) rfl (by kernel_rfl) (by kernel_rfl) (by kernel_rfl) (fun _ _ _ h => h) (Or.inl ⟨by simp only [Region.wanted], ?_⟩) hS ?_
    rotate_left
    · intro wz hSw; obtain ⟨f0, f1, f2, f3, -, -, -⟩ := HF.out _ hSw
      clear hSw
      go_simp
      first | done | with_reducible rfl
    try simp only [Act.put, List.setIfInBounds_toArray, List.set_cons_zero, List.set_cons_succ]
    refine wpAnyH_ready (rs := [8, 12]) (by kernel_rfl) (by simp) ?_
    refine AllReadyH.cons (o := ⟨some 55, _, _, _, _, _⟩) rfl (fun K hK => ?_) (AllReadyH.cons (o := ⟨some 9, _, _, _, _, _⟩) rfl (fun K hK => ?_) AllReadyH.nil)
    · go_simp
      (with_reducible refine (HA.out _ (HX.out.1.below (HBB.out.trans (hS.mono HBB.out.size)))).mono ?_)
      rintro e wn ⟨rfl, hbn⟩
      have hS1 := hS.trans (hbn.mono hS.size)
      clear hbn
      go_wp2_with fail
      refine hK.out _ _ (hS1) (fun hS => ?_)
      clear hK K
      try simp only [Act.put, List.setIfInBounds_toArray, List.set_cons_zero, List.set_cons_succ]
      refine wpAnyH_take (i := 9) (oi := ⟨some 46, _, _, _, _, _⟩) (v := ?_) rfl (by kernel_rfl) (by kernel_rfl) (by kernel_rfl) (fun _ _ _ h => h) (Or.inl ⟨by simp only [Region.wanted], ?_⟩) hS ?_
      rotate_left
      · intro wz hSw
        clear hSw
        go_simp
        first | done | with_reducible rfl
      try simp only [Act.put, List.setIfInBounds_toArray, List.set_cons_zero, List.set_cons_succ]
      refine wpAnyH_take (i := 10) (oi := ⟨some 56, _, _, _, _, _⟩) (v := ?_) rfl (by kernel_rfl) (by kernel_rfl) (by kernel_rfl) (fun _ _ _ h => h) (Or.inl ⟨by simp only [Region.wanted], ?_⟩) hS ?_
      rotate_left
      · intro wz hSw
        clear hSw
        go_simp
        first | done | with_reducible rfl
      try simp only [Act.put, List.setIfInBounds_toArray, List.set_cons_zero, List.set_cons_succ]
      refine wpAnyH_take (i := 11) (oi := ⟨some 57, _, _, _, _, _⟩) (v := ?_) rfl (by kernel_rfl) (by kernel_rfl) (by kernel_rfl) (fun _ _ _ h => h) (Or.inl ⟨by simp only [Region.wanted], ?_⟩) hS ?_
      rotate_left
      · intro wz hSw
        clear hSw
        go_simp
        first | done | with_reducible rfl
      try simp only [Act.put, List.setIfInBounds_toArray, List.set_cons_zero, List.set_cons_succ]
      refine wpAnyH_ready (rs := [12]) (by kernel_rfl) (by simp) ?_
      refine AllReadyH.cons (o := ⟨some 9, _, _, _, _, _⟩) rfl (fun K hK => ?_) AllReadyH.nil
      go_simp
      have HLE := Lib.hid hS.size
      have hSa := hS.alloc hS.size (.cells #[.int .i64 0, .int .i64 0] 24)
      have hSa : Below wr.heap.size wr (World.alloc wn (.cells #[.int .i64 0, .int .i64 0] 24)) := hSa
      have HKB := Lib.hid (DecB.new wn 0 0 24)
      have HKB : Hid (DecB (World.alloc wn (.cells #[.int .i64 0, .int .i64 0] 24)) wn.heap.size 0 0) := HKB
      generalize World.alloc wn _ = wa at hSa HKB ⊢
      refine hK.out _ _ (hSa) (fun hS => ?_)
      clear hK K
      try simp only [Act.put, List.setIfInBounds_toArray, List.set_cons_zero, List.set_cons_succ]
      obtain ⟨q0, q1, q2, q3, q4⟩ := HKB.out
      have hS5 := (hS.setCell (p := ⟨_, 0, none⟩) (by simp only []; exact HLE.out) (.int .i64 am)).setCell (p := ⟨_, 1, none⟩) (by simp only []; exact HLE.out) (.int .i64 ac)
      refine wpAnyH_ready (rs := [13]) (by kernel_rfl) (by simp) ?_
      refine AllReadyH.cons (o := ⟨none, _, _, _, _, _⟩) rfl (fun K hK => ?_) AllReadyH.nil
      go_simp
      refine hK.out _ _ (hS5) (fun hS => ?_)
      clear hK K
      try simp only [Act.put, List.setIfInBounds_toArray, List.set_cons_zero, List.set_cons_succ]
      refine wpAnyH_take (i := 14) (oi := ⟨some 10, _, _, _, _, _⟩) (v := ?_) rfl (by kernel_rfl) (by kernel_rfl) (by kernel_rfl) (fun _ _ _ h => h) (Or.inl ⟨by simp only [Region.wanted], ?_⟩) hS ?_
      rotate_left
      · intro wz hSw
        clear hSw
        go_simp
        first | done | with_reducible rfl
      try simp only [Act.put, List.setIfInBounds_toArray, List.set_cons_zero, List.set_cons_succ]
      refine wpAnyH_done (by kernel_rfl) ?_ _
      go_wp2_with fail
      go_meet
      exact ⟨_, rfl, rfl, HKB.out.set, hS⟩
    · go_simp
      have HLE := Lib.hid hS.size
      have hSa := hS.alloc hS.size (.cells #[.int .i64 0, .int .i64 0] 24)
      have hSa : Below wr.heap.size wr (World.drew (World.alloc wr (.cells #[.int .i64 0, .int .i64 0] 24))) := hSa
      have HKB := Lib.hid (DecB.new wr 0 0 24)
      have HKB : Hid (DecB (World.drew (World.alloc wr (.cells #[.int .i64 0, .int .i64 0] 24))) wr.heap.size 0 0) := HKB
      generalize World.drew (World.alloc wr _) = wa at hSa HKB ⊢
      refine hK.out _ _ (hSa) (fun hS => ?_)
      clear hK K
      try simp only [Act.put, List.setIfInBounds_toArray, List.set_cons_zero, List.set_cons_succ]
      refine wpAnyH_ready (rs := [8]) (by kernel_rfl) (by simp) ?_
      refine AllReadyH.cons (o := ⟨some 55, _, _, _, _, _⟩) rfl (fun K hK => ?_) AllReadyH.nil
      go_simp
      (with_reducible refine (HA.out _ (HX.out.1.below (HBB.out.trans (hS.mono HBB.out.size)))).mono ?_)
      rintro e wn ⟨rfl, hbn⟩
      have hS1 := hS.trans (hbn.mono hS.size)
      have HKB := Lib.hid (HKB.out.below hbn)
      clear hbn
      go_wp2_with fail
      refine hK.out _ _ (hS1) (fun hS => ?_)
      clear hK K
      try simp only [Act.put, List.setIfInBounds_toArray, List.set_cons_zero, List.set_cons_succ]
      refine wpAnyH_take (i := 9) (oi := ⟨some 46, _, _, _, _, _⟩) (v := ?_) rfl (by kernel_rfl) (by kernel_rfl) (by kernel_rfl) (fun _ _ _ h => h) (Or.inl ⟨by simp only [Region.wanted], ?_⟩) hS ?_
      rotate_left
      · intro wz hSw
        clear hSw
        go_simp
        first | done | with_reducible rfl
      try simp only [Act.put, List.setIfInBounds_toArray, List.set_cons_zero, List.set_cons_succ]
      refine wpAnyH_take (i := 10) (oi := ⟨some 56, _, _, _, _, _⟩) (v := ?_) rfl (by kernel_rfl) (by kernel_rfl) (by kernel_rfl) (fun _ _ _ h => h) (Or.inl ⟨by simp only [Region.wanted], ?_⟩) hS ?_
      rotate_left
      · intro wz hSw
        clear hSw
        go_simp
        first | done | with_reducible rfl
      try simp only [Act.put, List.setIfInBounds_toArray, List.set_cons_zero, List.set_cons_succ]
      refine wpAnyH_take (i := 11) (oi := ⟨some 57, _, _, _, _, _⟩) (v := ?_) rfl (by kernel_rfl) (by kernel_rfl) (by kernel_rfl) (fun _ _ _ h => h) (Or.inl ⟨by simp only [Region.wanted], ?_⟩) hS ?_
      rotate_left
      · intro wz hSw
        clear hSw
        go_simp
        first | done | with_reducible rfl
      try simp only [Act.put, List.setIfInBounds_toArray, List.set_cons_zero, List.set_cons_succ]
      obtain ⟨q0, q1, q2, q3, q4⟩ := HKB.out
      have hS5 := (hS.setCell (p := ⟨_, 0, none⟩) (by simp only []; exact HLE.out) (.int .i64 am)).setCell (p := ⟨_, 1, none⟩) (by simp only []; exact HLE.out) (.int .i64 ac)
      refine wpAnyH_ready (rs := [13]) (by kernel_rfl) (by simp) ?_
      refine AllReadyH.cons (o := ⟨none, _, _, _, _, _⟩) rfl (fun K hK => ?_) AllReadyH.nil
      go_simp
      refine hK.out _ _ (hS5) (fun hS => ?_)
      clear hK K
      try simp only [Act.put, List.setIfInBounds_toArray, List.set_cons_zero, List.set_cons_succ]
      refine wpAnyH_take (i := 14) (oi := ⟨some 10, _, _, _, _, _⟩) (v := ?_) rfl (by kernel_rfl) (by kernel_rfl) (by kernel_rfl) (fun _ _ _ h => h) (Or.inl ⟨by simp only [Region.wanted], ?_⟩) hS ?_
      rotate_left
      · intro wz hSw
        clear hSw
        go_simp
        first | done | with_reducible rfl
      try simp only [Act.put, List.setIfInBounds_toArray, List.set_cons_zero, List.set_cons_succ]
      refine wpAnyH_done (by kernel_rfl) ?_ _
      go_wp2_with fail
      go_meet
      exact ⟨_, rfl, rfl, HKB.out.set, hS⟩
  case rest =>
    obtain ⟨bx, rfl, rfl, hD1, hB1⟩ := hcut
    have HD1 := Lib.hid hD1
    have HBa := Lib.hid hB1
    clear hD1 hB1
    rename World => wA
    go_upto_region 10 with fail
    go_cut [11, 12] from 58 to 69 (fun s15 s16 wx => ∃ bk : Nat, s15 = .pointer (some ⟨bk, 0, none⟩) ∧ s16 = .bool bb ∧ DecB wx bk bm bc ∧ Below wA.heap.size wA wx)
    case first =>
      refine wp_region_any (by kernel_rfl) ?_
      change wpAny _ _ _ _ _ _ _ (World.drew _)
      refine wpAny_of_held (S := fun v => Below wA.heap.size wA v) _ _ _ _ ?_
      have hS : (fun v => Below wA.heap.size wA v) _ := (Below.refl _ wA).drew
      refine wpAnyH_take (i := 0) (oi := ⟨some 59, _, _, _, _, _⟩) (v := ?_) rfl (by kernel_rfl) (by kernel_rfl) (by kernel_rfl) (fun _ _ _ h => h) (Or.inl ⟨by simp only [Region.wanted], ?_⟩) hS ?_
      rotate_left
      · intro wz hSw
        clear hSw
        go_simp
        first | done | with_reducible rfl
      try simp only [Act.put, List.setIfInBounds_toArray, List.set_cons_zero, List.set_cons_succ]
      refine wpAnyH_take (i := 1) (oi := ⟨some 60, _, _, _, _, _⟩) (v := ?_) rfl (by kernel_rfl) (by kernel_rfl) (by kernel_rfl) (fun _ _ _ h => h) (Or.inl ⟨by simp only [Region.wanted], ?_⟩) hS ?_
      rotate_left
      · intro wz hSw
        clear hSw
        go_simp
        first | done | with_reducible rfl
      try simp only [Act.put, List.setIfInBounds_toArray, List.set_cons_zero, List.set_cons_succ]
      refine wpAnyH_take (i := 2) (oi := ⟨some 61, _, _, _, _, _⟩) (v := ?_) rfl (by kernel_rfl) (by kernel_rfl) (by kernel_rfl) (fun _ _ _ h => h) (Or.inl ⟨by simp only [Region.wanted], ?_⟩) hS ?_
      rotate_left
      · intro wz hSw
        clear hSw
        go_simp
        first | done | with_reducible rfl
      try simp only [Act.put, List.setIfInBounds_toArray, List.set_cons_zero, List.set_cons_succ]
      refine wpAnyH_take (i := 3) (oi := ⟨some 62, _, _, _, _, _⟩) (v := ?_) rfl (by kernel_rfl) (by kernel_rfl) (by kernel_rfl) (fun _ _ _ h => h) (Or.inl ⟨by simp only [Region.wanted], ?_⟩) hS ?_
      rotate_left
      · intro wz hSw; obtain ⟨f0, f1, f2, f3, -, -, -⟩ := HF.out _ (HBa.out.trans (hSw.mono HBa.out.size))
        clear hSw
        go_simp
        first | done | with_reducible rfl
      try simp only [Act.put, List.setIfInBounds_toArray, List.set_cons_zero, List.set_cons_succ]
      refine wpAnyH_take (i := 4) (oi := ⟨some 63, _, _, _, _, _⟩) (v := ?_) rfl (by kernel_rfl) (by kernel_rfl) (by kernel_rfl) (fun _ _ _ h => h) (Or.inl ⟨by simp only [Region.wanted], ?_⟩) hS ?_
      rotate_left
      · intro wz hSw
        clear hSw
        go_simp
        first | done | with_reducible rfl
      try simp only [Act.put, List.setIfInBounds_toArray, List.set_cons_zero, List.set_cons_succ]
      refine wpAnyH_take (i := 5) (oi := ⟨some 64, _, _, _, _, _⟩) (v := ?_) rfl (by kernel_rfl) (by kernel_rfl) (by kernel_rfl) (fun _ _ _ h => h) (Or.inl ⟨by simp only [Region.wanted], ?_⟩) hS ?_
      rotate_left
      · intro wz hSw
        clear hSw
        go_simp
        first | done | with_reducible rfl
      try simp only [Act.put, List.setIfInBounds_toArray, List.set_cons_zero, List.set_cons_succ]
      refine wpAnyH_take (i := 6) (oi := ⟨some 65, _, _, _, _, _⟩) (v := ?_) rfl (by kernel_rfl) (by kernel_rfl) (by kernel_rfl) (fun _ _ _ h => h) (Or.inl ⟨by simp only [Region.wanted], ?_⟩) hS ?_
      rotate_left
      · intro wz hSw
        clear hSw
        go_simp
        first | done | with_reducible rfl
      try simp only [Act.put, List.setIfInBounds_toArray, List.set_cons_zero, List.set_cons_succ]
      refine wpAnyH_take (i := 7) (oi := ⟨some 66, _, _, _, _, _⟩) (v := ?_) rfl (by kernel_rfl) (by kernel_rfl) (by kernel_rfl) (fun _ _ _ h => h) (Or.inl ⟨by simp only [Region.wanted], ?_⟩) hS ?_
      rotate_left
      · intro wz hSw; obtain ⟨f0, f1, f2, f3, -, -, -⟩ := HF.out _ (HBa.out.trans (hSw.mono HBa.out.size))
        clear hSw
        go_simp
        first | done | with_reducible rfl
      try simp only [Act.put, List.setIfInBounds_toArray, List.set_cons_zero, List.set_cons_succ]
      refine wpAnyH_ready (rs := [8, 12]) (by kernel_rfl) (by simp) ?_
      refine AllReadyH.cons (o := ⟨some 67, _, _, _, _, _⟩) rfl (fun K hK => ?_) (AllReadyH.cons (o := ⟨some 11, _, _, _, _, _⟩) rfl (fun K hK => ?_) AllReadyH.nil)
      · go_simp
        (with_reducible refine (HM.out _).mono ?_)
        rintro e wn ⟨rfl, hbn⟩
        have hS1 := hS.trans (hbn.mono hS.size)
        clear hbn
        go_wp2_with fail
        refine hK.out _ _ (hS1) (fun hS => ?_)
        clear hK K
        try simp only [Act.put, List.setIfInBounds_toArray, List.set_cons_zero, List.set_cons_succ]
        refine wpAnyH_take (i := 9) (oi := ⟨some 58, _, _, _, _, _⟩) (v := ?_) rfl (by kernel_rfl) (by kernel_rfl) (by kernel_rfl) (fun _ _ _ h => h) (Or.inl ⟨by simp only [Region.wanted], ?_⟩) hS ?_
        rotate_left
        · intro wz hSw
          clear hSw
          go_simp
          first | done | with_reducible rfl
        try simp only [Act.put, List.setIfInBounds_toArray, List.set_cons_zero, List.set_cons_succ]
        refine wpAnyH_take (i := 10) (oi := ⟨some 68, _, _, _, _, _⟩) (v := ?_) rfl (by kernel_rfl) (by kernel_rfl) (by kernel_rfl) (fun _ _ _ h => h) (Or.inl ⟨by simp only [Region.wanted], ?_⟩) hS ?_
        rotate_left
        · intro wz hSw
          clear hSw
          go_simp
          first | done | with_reducible rfl
        try simp only [Act.put, List.setIfInBounds_toArray, List.set_cons_zero, List.set_cons_succ]
        refine wpAnyH_take (i := 11) (oi := ⟨some 69, _, _, _, _, _⟩) (v := ?_) rfl (by kernel_rfl) (by kernel_rfl) (by kernel_rfl) (fun _ _ _ h => h) (Or.inl ⟨by simp only [Region.wanted], ?_⟩) hS ?_
        rotate_left
        · intro wz hSw
          clear hSw
          go_simp
          first | done | with_reducible rfl
        try simp only [Act.put, List.setIfInBounds_toArray, List.set_cons_zero, List.set_cons_succ]
        refine wpAnyH_ready (rs := [12]) (by kernel_rfl) (by simp) ?_
        refine AllReadyH.cons (o := ⟨some 11, _, _, _, _, _⟩) rfl (fun K hK => ?_) AllReadyH.nil
        go_simp
        have HLE := Lib.hid hS.size
        have hSa := hS.alloc hS.size (.cells #[.int .i64 0, .int .i64 0] 24)
        have hSa : Below wA.heap.size wA (World.alloc wn (.cells #[.int .i64 0, .int .i64 0] 24)) := hSa
        have HKB := Lib.hid (DecB.new wn 0 0 24)
        have HKB : Hid (DecB (World.alloc wn (.cells #[.int .i64 0, .int .i64 0] 24)) wn.heap.size 0 0) := HKB
        generalize World.alloc wn _ = wa at hSa HKB ⊢
        refine hK.out _ _ (hSa) (fun hS => ?_)
        clear hK K
        try simp only [Act.put, List.setIfInBounds_toArray, List.set_cons_zero, List.set_cons_succ]
        obtain ⟨q0, q1, q2, q3, q4⟩ := HKB.out
        have hS5 := (hS.setCell (p := ⟨_, 0, none⟩) (by simp only []; exact HLE.out) (.int .i64 bm)).setCell (p := ⟨_, 1, none⟩) (by simp only []; exact HLE.out) (.int .i64 bc)
        refine wpAnyH_ready (rs := [13]) (by kernel_rfl) (by simp) ?_
        refine AllReadyH.cons (o := ⟨none, _, _, _, _, _⟩) rfl (fun K hK => ?_) AllReadyH.nil
        go_simp
        refine hK.out _ _ (hS5) (fun hS => ?_)
        clear hK K
        try simp only [Act.put, List.setIfInBounds_toArray, List.set_cons_zero, List.set_cons_succ]
        refine wpAnyH_take (i := 14) (oi := ⟨some 12, _, _, _, _, _⟩) (v := ?_) rfl (by kernel_rfl) (by kernel_rfl) (by kernel_rfl) (fun _ _ _ h => h) (Or.inl ⟨by simp only [Region.wanted], ?_⟩) hS ?_
        rotate_left
        · intro wz hSw
          clear hSw
          go_simp
          first | done | with_reducible rfl
        try simp only [Act.put, List.setIfInBounds_toArray, List.set_cons_zero, List.set_cons_succ]
        refine wpAnyH_done (by kernel_rfl) ?_ _
        go_wp2_with fail
        go_meet
        exact ⟨_, rfl, rfl, HKB.out.set, hS⟩
      · go_simp
        have HLE := Lib.hid hS.size
        have hSa := hS.alloc hS.size (.cells #[.int .i64 0, .int .i64 0] 24)
        have hSa : Below wA.heap.size wA (World.drew (World.alloc wA (.cells #[.int .i64 0, .int .i64 0] 24))) := hSa
        have HKB := Lib.hid (DecB.new wA 0 0 24)
        have HKB : Hid (DecB (World.drew (World.alloc wA (.cells #[.int .i64 0, .int .i64 0] 24))) wA.heap.size 0 0) := HKB
        generalize World.drew (World.alloc wA _) = wa at hSa HKB ⊢
        refine hK.out _ _ (hSa) (fun hS => ?_)
        clear hK K
        try simp only [Act.put, List.setIfInBounds_toArray, List.set_cons_zero, List.set_cons_succ]
        refine wpAnyH_ready (rs := [8]) (by kernel_rfl) (by simp) ?_
        refine AllReadyH.cons (o := ⟨some 67, _, _, _, _, _⟩) rfl (fun K hK => ?_) AllReadyH.nil
        go_simp
        (with_reducible refine (HM.out _).mono ?_)
        rintro e wn ⟨rfl, hbn⟩
        have hS1 := hS.trans (hbn.mono hS.size)
        have HKB := Lib.hid (HKB.out.below hbn)
        clear hbn
        go_wp2_with fail
        refine hK.out _ _ (hS1) (fun hS => ?_)
        clear hK K
        try simp only [Act.put, List.setIfInBounds_toArray, List.set_cons_zero, List.set_cons_succ]
        refine wpAnyH_take (i := 9) (oi := ⟨some 58, _, _, _, _, _⟩) (v := ?_) rfl (by kernel_rfl) (by kernel_rfl) (by kernel_rfl) (fun _ _ _ h => h) (Or.inl ⟨by simp only [Region.wanted], ?_⟩) hS ?_
        rotate_left
        · intro wz hSw
          clear hSw
          go_simp
          first | done | with_reducible rfl
        try simp only [Act.put, List.setIfInBounds_toArray, List.set_cons_zero, List.set_cons_succ]
        refine wpAnyH_take (i := 10) (oi := ⟨some 68, _, _, _, _, _⟩) (v := ?_) rfl (by kernel_rfl) (by kernel_rfl) (by kernel_rfl) (fun _ _ _ h => h) (Or.inl ⟨by simp only [Region.wanted], ?_⟩) hS ?_
        rotate_left
        · intro wz hSw
          clear hSw
          go_simp
          first | done | with_reducible rfl
        try simp only [Act.put, List.setIfInBounds_toArray, List.set_cons_zero, List.set_cons_succ]
        refine wpAnyH_take (i := 11) (oi := ⟨some 69, _, _, _, _, _⟩) (v := ?_) rfl (by kernel_rfl) (by kernel_rfl) (by kernel_rfl) (fun _ _ _ h => h) (Or.inl ⟨by simp only [Region.wanted], ?_⟩) hS ?_
        rotate_left
        · intro wz hSw
          clear hSw
          go_simp
          first | done | with_reducible rfl
        try simp only [Act.put, List.setIfInBounds_toArray, List.set_cons_zero, List.set_cons_succ]
        obtain ⟨q0, q1, q2, q3, q4⟩ := HKB.out
        have hS5 := (hS.setCell (p := ⟨_, 0, none⟩) (by simp only []; exact HLE.out) (.int .i64 bm)).setCell (p := ⟨_, 1, none⟩) (by simp only []; exact HLE.out) (.int .i64 bc)
        refine wpAnyH_ready (rs := [13]) (by kernel_rfl) (by simp) ?_
        refine AllReadyH.cons (o := ⟨none, _, _, _, _, _⟩) rfl (fun K hK => ?_) AllReadyH.nil
        go_simp
        refine hK.out _ _ (hS5) (fun hS => ?_)
        clear hK K
        try simp only [Act.put, List.setIfInBounds_toArray, List.set_cons_zero, List.set_cons_succ]
        refine wpAnyH_take (i := 14) (oi := ⟨some 12, _, _, _, _, _⟩) (v := ?_) rfl (by kernel_rfl) (by kernel_rfl) (by kernel_rfl) (fun _ _ _ h => h) (Or.inl ⟨by simp only [Region.wanted], ?_⟩) hS ?_
        rotate_left
        · intro wz hSw
          clear hSw
          go_simp
          first | done | with_reducible rfl
        try simp only [Act.put, List.setIfInBounds_toArray, List.set_cons_zero, List.set_cons_succ]
        refine wpAnyH_done (by kernel_rfl) ?_ _
        go_wp2_with fail
        go_meet
        exact ⟨_, rfl, rfl, HKB.out.set, hS⟩
    case rest =>
      obtain ⟨bY, rfl, rfl, hD2, hB2⟩ := hcut
      have HD2 := Lib.hid hD2
      have HBb := Lib.hid (HBa.out.trans (hB2.mono HBa.out.size))
      have HD1b := Lib.hid (HD1.out.below hB2)
      clear hD2 hB2 HD1
      rename World => wB
      obtain ⟨f0, f1, f2, f3, f4, f5, f6⟩ := HF.out _ HBb.out
      go_upto_region 11 with fail
      go_wp2_with fail
      (with_reducible refine (HD.out _ (HX.out.1.below (HBB.out.trans (HBb.out.mono HBB.out.size)))).mono ?_)
      rintro e w20 ⟨rfl, hb⟩
      have HBc := Lib.hid (HBb.out.trans (hb.mono HBb.out.size))
      have hal := (Below.refl w20.heap.size w20).alloc (Nat.le_refl _) (.cells #[.int .i64 cm, .int .i64 cc] 24)
      have HC3 := Lib.hid (show Blks (World.alloc w20 (.cells #[.int .i64 cm, .int .i64 cc] 24)) [(w20.heap.size, cm, cc), (bY, bm, bc), (bx, am, ac)] from
        Blks.more (Blks.more (Blks.more (fun _ h => by cases h) ((HD1b.out.below hb).below hal)) ((HD2.out.below hb).below hal)) (DecB.new w20 cm cc 24))
      have HBd := Lib.hid (HBc.out.trans (hal.mono HBc.out.size))
      clear hb hal f0 f1 f2 f3 f4 f5 f6
      go_upto_region 12 with fail
      generalize World.alloc w20 _ = wv at HC3 HBd ⊢
      generalize w20.heap.size = bz at HC3 ⊢
      cases ab with
      | true =>
        have hs1 := HE1.out.1 rfl
        have hs1b : S1.toList.isEmpty = false := by simpa using hs1
        cases bb with
        | true =>
          have hs2 := HE2.out.1 rfl
          have hs2b : S2.toList.isEmpty = false := by simpa using hs2
          replace HPA := Lib.hid (HPA.out rfl)
          replace HPB := Lib.hid (HPB.out rfl)
          refine wp_region_any (by kernel_rfl) ?_
          change wpAny _ _ _ _ _ _ _ (World.drew _)
          refine wpAny_of_held (S := fun v => Below wv.heap.size wv v) _ _ _ _ ?_
          have hS : (fun v => Below wv.heap.size wv v) _ := (Below.refl _ wv).drew
          refine wpAnyH_take (i := 0) (oi := ⟨some 78, _, _, _, _, _⟩) (v := ?_) rfl (by kernel_rfl) (by kernel_rfl) (by kernel_rfl) (fun _ _ _ h => h) (Or.inl ⟨by first | rfl | (simp [Region.wanted, yielded]; done) | (simp [Region.wanted, yielded, hs1]; done) | (simp [Region.wanted, yielded, hs2]; done) | (simp [Region.wanted, yielded, hs1, hs2]; done), ?_⟩) hS ?_
          rotate_left
          · intro wz hSw
            clear hSw
            go_simp
            first | done | with_reducible rfl
          try simp only [Act.put, List.setIfInBounds_toArray, List.set_cons_zero, List.set_cons_succ]
          refine wpAnyH_take (i := 1) (oi := ⟨some 79, _, _, _, _, _⟩) (v := ?_) rfl (by kernel_rfl) (by kernel_rfl) (by kernel_rfl) (fun _ _ _ h => h) (Or.inl ⟨by first | rfl | (simp [Region.wanted, yielded]; done) | (simp [Region.wanted, yielded, hs1]; done) | (simp [Region.wanted, yielded, hs2]; done) | (simp [Region.wanted, yielded, hs1, hs2]; done), ?_⟩) hS ?_
          rotate_left
          · intro wz hSw
            clear hSw
            go_simp
            first | done | with_reducible rfl
          try simp only [Act.put, List.setIfInBounds_toArray, List.set_cons_zero, List.set_cons_succ]
          refine wpAnyH_take (i := 2) (oi := ⟨some 80, _, _, _, _, _⟩) (v := ?_) rfl (by kernel_rfl) (by kernel_rfl) (by kernel_rfl) (fun _ _ _ h => h) (Or.inl ⟨by first | rfl | (simp [Region.wanted, yielded]; done) | (simp [Region.wanted, yielded, hs1]; done) | (simp [Region.wanted, yielded, hs2]; done) | (simp [Region.wanted, yielded, hs1, hs2]; done), ?_⟩) hS ?_
          rotate_left
          · intro wz hSw
            clear hSw
            go_simp
            first | done | with_reducible rfl
          try simp only [Act.put, List.setIfInBounds_toArray, List.set_cons_zero, List.set_cons_succ]
          refine wpAnyH_take (i := 3) (oi := ⟨some 81, _, _, _, _, _⟩) (v := ?_) rfl (by kernel_rfl) (by kernel_rfl) (by kernel_rfl) (fun _ _ _ h => h) (Or.inl ⟨by first | rfl | (simp [Region.wanted, yielded]; done) | (simp [Region.wanted, yielded, hs1]; done) | (simp [Region.wanted, yielded, hs2]; done) | (simp [Region.wanted, yielded, hs1, hs2]; done), ?_⟩) hS ?_
          rotate_left
          · intro wz hSw
            clear hSw
            go_simp
            first | done | with_reducible rfl
          try simp only [Act.put, List.setIfInBounds_toArray, List.set_cons_zero, List.set_cons_succ]
          refine wpAnyH_take (i := 4) (oi := ⟨some 82, _, _, _, _, _⟩) (v := ?_) rfl (by kernel_rfl) (by kernel_rfl) (by kernel_rfl) (fun _ _ _ h => h) (Or.inl ⟨by first | rfl | (simp [Region.wanted, yielded]; done) | (simp [Region.wanted, yielded, hs1]; done) | (simp [Region.wanted, yielded, hs2]; done) | (simp [Region.wanted, yielded, hs1, hs2]; done), ?_⟩) hS ?_
          rotate_left
          · intro wz hSw; obtain ⟨-, -, -, -, f4, f5, f6⟩ := HF.out _ (HBd.out.trans (hSw.mono HBd.out.size))
            clear hSw
            go_simp
            first | done | with_reducible rfl
          try simp only [Act.put, List.setIfInBounds_toArray, List.set_cons_zero, List.set_cons_succ]
          refine wpAnyH_take (i := 5) (oi := ⟨some 83, _, _, _, _, _⟩) (v := ?_) rfl (by kernel_rfl) (by kernel_rfl) (by kernel_rfl) (fun _ _ _ h => h) (Or.inl ⟨by first | rfl | (simp [Region.wanted, yielded]; done) | (simp [Region.wanted, yielded, hs1]; done) | (simp [Region.wanted, yielded, hs2]; done) | (simp [Region.wanted, yielded, hs1, hs2]; done), ?_⟩) hS ?_
          rotate_left
          · intro wz hSw
            clear hSw
            go_simp
            first | done | with_reducible rfl
          try simp only [Act.put, List.setIfInBounds_toArray, List.set_cons_zero, List.set_cons_succ]
          refine wpAnyH_take (i := 6) (oi := ⟨some 84, _, _, _, _, _⟩) (v := ?_) rfl (by kernel_rfl) (by kernel_rfl) (by kernel_rfl) (fun _ _ _ h => h) (Or.inl ⟨by first | rfl | (simp [Region.wanted, yielded]; done) | (simp [Region.wanted, yielded, hs1]; done) | (simp [Region.wanted, yielded, hs2]; done) | (simp [Region.wanted, yielded, hs1, hs2]; done), ?_⟩) hS ?_
          rotate_left
          · intro wz hSw
            clear hSw
            go_simp
            first | done | with_reducible rfl
          try simp only [Act.put, List.setIfInBounds_toArray, List.set_cons_zero, List.set_cons_succ]
          refine wpAnyH_take (i := 7) (oi := ⟨some 85, _, _, _, _, _⟩) (v := ?_) rfl (by kernel_rfl) (by kernel_rfl) (by kernel_rfl) (fun _ _ _ h => h) (Or.inl ⟨by first | rfl | (simp [Region.wanted, yielded]; done) | (simp [Region.wanted, yielded, hs1]; done) | (simp [Region.wanted, yielded, hs2]; done) | (simp [Region.wanted, yielded, hs1, hs2]; done), ?_⟩) hS ?_
          rotate_left
          · intro wz hSw
            clear hSw
            go_simp
            first | done | with_reducible rfl
          try simp only [Act.put, List.setIfInBounds_toArray, List.set_cons_zero, List.set_cons_succ]
          refine wpAnyH_take (i := 8) (oi := ⟨some 86, _, _, _, _, _⟩) (v := ?_) rfl (by kernel_rfl) (by kernel_rfl) (by kernel_rfl) (fun _ _ _ h => h) (Or.inl ⟨by first | rfl | (simp [Region.wanted, yielded]; done) | (simp [Region.wanted, yielded, hs1]; done) | (simp [Region.wanted, yielded, hs2]; done) | (simp [Region.wanted, yielded, hs1, hs2]; done), ?_⟩) hS ?_
          rotate_left
          · intro wz hSw
            clear hSw
            go_simp
            first | done | with_reducible rfl
          try simp only [Act.put, List.setIfInBounds_toArray, List.set_cons_zero, List.set_cons_succ]
          refine wpAnyH_take (i := 9) (oi := ⟨some 87, _, _, _, _, _⟩) (v := ?_) rfl (by kernel_rfl) (by kernel_rfl) (by kernel_rfl) (fun _ _ _ h => h) (Or.inl ⟨by first | rfl | (simp [Region.wanted, yielded]; done) | (simp [Region.wanted, yielded, hs1]; done) | (simp [Region.wanted, yielded, hs2]; done) | (simp [Region.wanted, yielded, hs1, hs2]; done), ?_⟩) hS ?_
          rotate_left
          · intro wz hSw
            clear hSw
            go_simp
            first | done | with_reducible rfl
          try simp only [Act.put, List.setIfInBounds_toArray, List.set_cons_zero, List.set_cons_succ]
          refine wpAnyH_take (i := 10) (oi := ⟨some 88, _, _, _, _, _⟩) (v := ?_) rfl (by kernel_rfl) (by kernel_rfl) (by kernel_rfl) (fun _ _ _ h => h) (Or.inl ⟨by first | rfl | (simp [Region.wanted, yielded]; done) | (simp [Region.wanted, yielded, hs1]; done) | (simp [Region.wanted, yielded, hs2]; done) | (simp [Region.wanted, yielded, hs1, hs2]; done), ?_⟩) hS ?_
          rotate_left
          · intro wz hSw
            clear hSw
            go_simp
            first | done | with_reducible rfl
          try simp only [Act.put, List.setIfInBounds_toArray, List.set_cons_zero, List.set_cons_succ]
          refine wpAnyH_take (i := 11) (oi := ⟨some 89, _, _, _, _, _⟩) (v := ?_) rfl (by kernel_rfl) (by kernel_rfl) (by kernel_rfl) (fun _ _ _ h => h) (Or.inl ⟨by first | rfl | (simp [Region.wanted, yielded]; done) | (simp [Region.wanted, yielded, hs1]; done) | (simp [Region.wanted, yielded, hs2]; done) | (simp [Region.wanted, yielded, hs1, hs2]; done), ?_⟩) hS ?_
          rotate_left
          · intro wz hSw; obtain ⟨-, f0, f1, -, -⟩ := HC3.out.tail.tail.head.below hSw
            clear hSw
            go_simp
            first | done | with_reducible rfl
          try simp only [Act.put, List.setIfInBounds_toArray, List.set_cons_zero, List.set_cons_succ]
          refine wpAnyH_take (i := 13) (oi := ⟨some 91, _, _, _, _, _⟩) (v := ?_) rfl (by kernel_rfl) (by kernel_rfl) (by kernel_rfl) (fun _ _ _ h => h) (Or.inl ⟨by first | rfl | (simp [Region.wanted, yielded]; done) | (simp [Region.wanted, yielded, hs1]; done) | (simp [Region.wanted, yielded, hs2]; done) | (simp [Region.wanted, yielded, hs1, hs2]; done), ?_⟩) hS ?_
          rotate_left
          · intro wz hSw
            clear hSw
            go_simp
            first | done | with_reducible rfl
          try simp only [Act.put, List.setIfInBounds_toArray, List.set_cons_zero, List.set_cons_succ]
          refine wpAnyH_take (i := 14) (oi := ⟨some 92, _, _, _, _, _⟩) (v := ?_) rfl (by kernel_rfl) (by kernel_rfl) (by kernel_rfl) (fun _ _ _ h => h) (Or.inl ⟨by first | rfl | (simp [Region.wanted, yielded]; done) | (simp [Region.wanted, yielded, hs1]; done) | (simp [Region.wanted, yielded, hs2]; done) | (simp [Region.wanted, yielded, hs1, hs2]; done), ?_⟩) hS ?_
          rotate_left
          · intro wz hSw
            clear hSw
            go_simp
            first | done | with_reducible rfl
          try simp only [Act.put, List.setIfInBounds_toArray, List.set_cons_zero, List.set_cons_succ]
          refine wpAnyH_take (i := 15) (oi := ⟨some 93, _, _, _, _, _⟩) (v := ?_) rfl (by kernel_rfl) (by kernel_rfl) (by kernel_rfl) (fun _ _ _ h => h) (Or.inl ⟨by first | rfl | (simp [Region.wanted, yielded]; done) | (simp [Region.wanted, yielded, hs1]; done) | (simp [Region.wanted, yielded, hs2]; done) | (simp [Region.wanted, yielded, hs1, hs2]; done), ?_⟩) hS ?_
          rotate_left
          · intro wz hSw
            clear hSw
            go_simp
            first | done | with_reducible rfl
          try simp only [Act.put, List.setIfInBounds_toArray, List.set_cons_zero, List.set_cons_succ]
          refine wpAnyH_take (i := 16) (oi := ⟨some 94, _, _, _, _, _⟩) (v := ?_) rfl (by kernel_rfl) (by kernel_rfl) (by kernel_rfl) (fun _ _ _ h => h) (Or.inl ⟨by first | rfl | (simp [Region.wanted, yielded]; done) | (simp [Region.wanted, yielded, hs1]; done) | (simp [Region.wanted, yielded, hs2]; done) | (simp [Region.wanted, yielded, hs1, hs2]; done), ?_⟩) hS ?_
          rotate_left
          · intro wz hSw; obtain ⟨-, -, -, -, f4, f5, f6⟩ := HF.out _ (HBd.out.trans (hSw.mono HBd.out.size))
            clear hSw
            go_simp
            first | done | with_reducible rfl
          try simp only [Act.put, List.setIfInBounds_toArray, List.set_cons_zero, List.set_cons_succ]
          refine wpAnyH_ready (rs := [12]) (by kernel_rfl) (by simp) ?_
          refine AllReadyH.cons (o := ⟨some 90, _, _, _, _, _⟩) rfl (fun K hK => ?_) AllReadyH.nil
          go_simp
          (with_reducible refine (HPA.out _ (HX.out.2.below (HBB.out.trans ((HBd.out.trans (hS.mono HBd.out.size)).mono HBB.out.size)))).mono ?_)
          rintro e wn ⟨rfl, hbn⟩
          have hS1 := hS.trans (hbn.mono hS.size)
          clear hbn
          go_wp2_with fail
          refine hK.out _ _ (hS1) (fun hS => ?_)
          clear hK K
          try simp only [Act.put, List.setIfInBounds_toArray, List.set_cons_zero, List.set_cons_succ]
          refine wpAnyH_take (i := 17) (oi := ⟨some 95, _, _, _, _, _⟩) (v := ?_) rfl (by kernel_rfl) (by kernel_rfl) (by kernel_rfl) (fun _ _ _ h => h) (Or.inl ⟨by first | rfl | (simp [Region.wanted, yielded]; done) | (simp [Region.wanted, yielded, hs1]; done) | (simp [Region.wanted, yielded, hs2]; done) | (simp [Region.wanted, yielded, hs1, hs2]; done), ?_⟩) hS ?_
          rotate_left
          · intro wz hSw
            clear hSw
            go_simp
            first | done | with_reducible rfl
          try simp only [Act.put, List.setIfInBounds_toArray, List.set_cons_zero, List.set_cons_succ]
          refine wpAnyH_take (i := 18) (oi := ⟨some 96, _, _, _, _, _⟩) (v := ?_) rfl (by kernel_rfl) (by kernel_rfl) (by kernel_rfl) (fun _ _ _ h => h) (Or.inl ⟨by first | rfl | (simp [Region.wanted, yielded]; done) | (simp [Region.wanted, yielded, hs1]; done) | (simp [Region.wanted, yielded, hs2]; done) | (simp [Region.wanted, yielded, hs1, hs2]; done), ?_⟩) hS ?_
          rotate_left
          · intro wz hSw
            clear hSw
            go_simp
            first | done | with_reducible rfl
          try simp only [Act.put, List.setIfInBounds_toArray, List.set_cons_zero, List.set_cons_succ]
          refine wpAnyH_take (i := 19) (oi := ⟨some 97, _, _, _, _, _⟩) (v := ?_) rfl (by kernel_rfl) (by kernel_rfl) (by kernel_rfl) (fun _ _ _ h => h) (Or.inl ⟨by first | rfl | (simp [Region.wanted, yielded]; done) | (simp [Region.wanted, yielded, hs1]; done) | (simp [Region.wanted, yielded, hs2]; done) | (simp [Region.wanted, yielded, hs1, hs2]; done), ?_⟩) hS ?_
          rotate_left
          · intro wz hSw
            clear hSw
            go_simp
            first | done | with_reducible rfl
          try simp only [Act.put, List.setIfInBounds_toArray, List.set_cons_zero, List.set_cons_succ]
          refine wpAnyH_take (i := 20) (oi := ⟨some 98, _, _, _, _, _⟩) (v := ?_) rfl (by kernel_rfl) (by kernel_rfl) (by kernel_rfl) (fun _ _ _ h => h) (Or.inl ⟨by first | rfl | (simp [Region.wanted, yielded]; done) | (simp [Region.wanted, yielded, hs1]; done) | (simp [Region.wanted, yielded, hs2]; done) | (simp [Region.wanted, yielded, hs1, hs2]; done), ?_⟩) hS ?_
          rotate_left
          · intro wz hSw
            clear hSw
            go_simp
            first | done | with_reducible rfl
          try simp only [Act.put, List.setIfInBounds_toArray, List.set_cons_zero, List.set_cons_succ]
          refine wpAnyH_take (i := 21) (oi := ⟨some 99, _, _, _, _, _⟩) (v := ?_) rfl (by kernel_rfl) (by kernel_rfl) (by kernel_rfl) (fun _ _ _ h => h) (Or.inl ⟨by first | rfl | (simp [Region.wanted, yielded]; done) | (simp [Region.wanted, yielded, hs1]; done) | (simp [Region.wanted, yielded, hs2]; done) | (simp [Region.wanted, yielded, hs1, hs2]; done), ?_⟩) hS ?_
          rotate_left
          · intro wz hSw
            clear hSw
            go_simp
            first | done | with_reducible rfl
          try simp only [Act.put, List.setIfInBounds_toArray, List.set_cons_zero, List.set_cons_succ]
          refine wpAnyH_take (i := 22) (oi := ⟨some 100, _, _, _, _, _⟩) (v := ?_) rfl (by kernel_rfl) (by kernel_rfl) (by kernel_rfl) (fun _ _ _ h => h) (Or.inl ⟨by first | rfl | (simp [Region.wanted, yielded]; done) | (simp [Region.wanted, yielded, hs1]; done) | (simp [Region.wanted, yielded, hs2]; done) | (simp [Region.wanted, yielded, hs1, hs2]; done), ?_⟩) hS ?_
          rotate_left
          · intro wz hSw
            clear hSw
            go_simp
            first | done | with_reducible rfl
          try simp only [Act.put, List.setIfInBounds_toArray, List.set_cons_zero, List.set_cons_succ]
          refine wpAnyH_take (i := 23) (oi := ⟨some 101, _, _, _, _, _⟩) (v := ?_) rfl (by kernel_rfl) (by kernel_rfl) (by kernel_rfl) (fun _ _ _ h => h) (Or.inl ⟨by first | rfl | (simp [Region.wanted, yielded]; done) | (simp [Region.wanted, yielded, hs1]; done) | (simp [Region.wanted, yielded, hs2]; done) | (simp [Region.wanted, yielded, hs1, hs2]; done), ?_⟩) hS ?_
          rotate_left
          · intro wz hSw
            clear hSw
            go_simp
            first | done | with_reducible rfl
          try simp only [Act.put, List.setIfInBounds_toArray, List.set_cons_zero, List.set_cons_succ]
          refine wpAnyH_take (i := 24) (oi := ⟨some 102, _, _, _, _, _⟩) (v := ?_) rfl (by kernel_rfl) (by kernel_rfl) (by kernel_rfl) (fun _ _ _ h => h) (Or.inl ⟨by first | rfl | (simp [Region.wanted, yielded]; done) | (simp [Region.wanted, yielded, hs1]; done) | (simp [Region.wanted, yielded, hs2]; done) | (simp [Region.wanted, yielded, hs1, hs2]; done), ?_⟩) hS ?_
          rotate_left
          · intro wz hSw
            clear hSw
            go_simp
            first | done | with_reducible rfl
          try simp only [Act.put, List.setIfInBounds_toArray, List.set_cons_zero, List.set_cons_succ]
          refine wpAnyH_take (i := 25) (oi := ⟨some 103, _, _, _, _, _⟩) (v := ?_) rfl (by kernel_rfl) (by kernel_rfl) (by kernel_rfl) (fun _ _ _ h => h) (Or.inl ⟨by first | rfl | (simp [Region.wanted, yielded]; done) | (simp [Region.wanted, yielded, hs1]; done) | (simp [Region.wanted, yielded, hs2]; done) | (simp [Region.wanted, yielded, hs1, hs2]; done), ?_⟩) hS ?_
          rotate_left
          · intro wz hSw; obtain ⟨-, -, -, -, f4, f5, f6⟩ := HF.out _ (HBd.out.trans (hSw.mono HBd.out.size))
            clear hSw
            go_simp
            first | done | with_reducible rfl
          try simp only [Act.put, List.setIfInBounds_toArray, List.set_cons_zero, List.set_cons_succ]
          refine wpAnyH_take (i := 26) (oi := ⟨some 104, _, _, _, _, _⟩) (v := ?_) rfl (by kernel_rfl) (by kernel_rfl) (by kernel_rfl) (fun _ _ _ h => h) (Or.inl ⟨by first | rfl | (simp [Region.wanted, yielded]; done) | (simp [Region.wanted, yielded, hs1]; done) | (simp [Region.wanted, yielded, hs2]; done) | (simp [Region.wanted, yielded, hs1, hs2]; done), ?_⟩) hS ?_
          rotate_left
          · intro wz hSw
            clear hSw
            go_simp
            first | done | with_reducible rfl
          try simp only [Act.put, List.setIfInBounds_toArray, List.set_cons_zero, List.set_cons_succ]
          refine wpAnyH_take (i := 27) (oi := ⟨some 105, _, _, _, _, _⟩) (v := ?_) rfl (by kernel_rfl) (by kernel_rfl) (by kernel_rfl) (fun _ _ _ h => h) (Or.inl ⟨by first | rfl | (simp [Region.wanted, yielded]; done) | (simp [Region.wanted, yielded, hs1]; done) | (simp [Region.wanted, yielded, hs2]; done) | (simp [Region.wanted, yielded, hs1, hs2]; done), ?_⟩) hS ?_
          rotate_left
          · intro wz hSw
            clear hSw
            go_simp
            first | done | with_reducible rfl
          try simp only [Act.put, List.setIfInBounds_toArray, List.set_cons_zero, List.set_cons_succ]
          refine wpAnyH_take (i := 28) (oi := ⟨some 106, _, _, _, _, _⟩) (v := ?_) rfl (by kernel_rfl) (by kernel_rfl) (by kernel_rfl) (fun _ _ _ h => h) (Or.inl ⟨by first | rfl | (simp [Region.wanted, yielded]; done) | (simp [Region.wanted, yielded, hs1]; done) | (simp [Region.wanted, yielded, hs2]; done) | (simp [Region.wanted, yielded, hs1, hs2]; done), ?_⟩) hS ?_
          rotate_left
          · intro wz hSw
            clear hSw
            go_simp
            first | done | with_reducible rfl
          try simp only [Act.put, List.setIfInBounds_toArray, List.set_cons_zero, List.set_cons_succ]
          refine wpAnyH_take (i := 29) (oi := ⟨some 107, _, _, _, _, _⟩) (v := ?_) rfl (by kernel_rfl) (by kernel_rfl) (by kernel_rfl) (fun _ _ _ h => h) (Or.inl ⟨by first | rfl | (simp [Region.wanted, yielded]; done) | (simp [Region.wanted, yielded, hs1]; done) | (simp [Region.wanted, yielded, hs2]; done) | (simp [Region.wanted, yielded, hs1, hs2]; done), ?_⟩) hS ?_
          rotate_left
          · intro wz hSw
            clear hSw
            go_simp
            first | done | with_reducible rfl
          try simp only [Act.put, List.setIfInBounds_toArray, List.set_cons_zero, List.set_cons_succ]
          refine wpAnyH_take (i := 30) (oi := ⟨some 108, _, _, _, _, _⟩) (v := ?_) rfl (by kernel_rfl) (by kernel_rfl) (by kernel_rfl) (fun _ _ _ h => h) (Or.inl ⟨by first | rfl | (simp [Region.wanted, yielded]; done) | (simp [Region.wanted, yielded, hs1]; done) | (simp [Region.wanted, yielded, hs2]; done) | (simp [Region.wanted, yielded, hs1, hs2]; done), ?_⟩) hS ?_
          rotate_left
          · intro wz hSw
            clear hSw
            go_simp
            first | done | with_reducible rfl
          try simp only [Act.put, List.setIfInBounds_toArray, List.set_cons_zero, List.set_cons_succ]
          refine wpAnyH_take (i := 31) (oi := ⟨some 109, _, _, _, _, _⟩) (v := ?_) rfl (by kernel_rfl) (by kernel_rfl) (by kernel_rfl) (fun _ _ _ h => h) (Or.inl ⟨by first | rfl | (simp [Region.wanted, yielded]; done) | (simp [Region.wanted, yielded, hs1]; done) | (simp [Region.wanted, yielded, hs2]; done) | (simp [Region.wanted, yielded, hs1, hs2]; done), ?_⟩) hS ?_
          rotate_left
          · intro wz hSw
            clear hSw
            go_simp
            first | done | with_reducible rfl
          try simp only [Act.put, List.setIfInBounds_toArray, List.set_cons_zero, List.set_cons_succ]
          refine wpAnyH_take (i := 32) (oi := ⟨some 110, _, _, _, _, _⟩) (v := ?_) rfl (by kernel_rfl) (by kernel_rfl) (by kernel_rfl) (fun _ _ _ h => h) (Or.inl ⟨by first | rfl | (simp [Region.wanted, yielded]; done) | (simp [Region.wanted, yielded, hs1]; done) | (simp [Region.wanted, yielded, hs2]; done) | (simp [Region.wanted, yielded, hs1, hs2]; done), ?_⟩) hS ?_
          rotate_left
          · intro wz hSw
            clear hSw
            go_simp
            first | done | with_reducible rfl
          try simp only [Act.put, List.setIfInBounds_toArray, List.set_cons_zero, List.set_cons_succ]
          refine wpAnyH_take (i := 33) (oi := ⟨some 111, _, _, _, _, _⟩) (v := ?_) rfl (by kernel_rfl) (by kernel_rfl) (by kernel_rfl) (fun _ _ _ h => h) (Or.inl ⟨by first | rfl | (simp [Region.wanted, yielded]; done) | (simp [Region.wanted, yielded, hs1]; done) | (simp [Region.wanted, yielded, hs2]; done) | (simp [Region.wanted, yielded, hs1, hs2]; done), ?_⟩) hS ?_
          rotate_left
          · intro wz hSw; obtain ⟨-, f0, f1, -, -⟩ := HC3.out.tail.head.below hSw
            clear hSw
            go_simp
            first | done | with_reducible rfl
          try simp only [Act.put, List.setIfInBounds_toArray, List.set_cons_zero, List.set_cons_succ]
          refine wpAnyH_take (i := 35) (oi := ⟨some 113, _, _, _, _, _⟩) (v := ?_) rfl (by kernel_rfl) (by kernel_rfl) (by kernel_rfl) (fun _ _ _ h => h) (Or.inl ⟨by first | rfl | (simp [Region.wanted, yielded]; done) | (simp [Region.wanted, yielded, hs1]; done) | (simp [Region.wanted, yielded, hs2]; done) | (simp [Region.wanted, yielded, hs1, hs2]; done), ?_⟩) hS ?_
          rotate_left
          · intro wz hSw
            clear hSw
            go_simp
            first | done | with_reducible rfl
          try simp only [Act.put, List.setIfInBounds_toArray, List.set_cons_zero, List.set_cons_succ]
          refine wpAnyH_take (i := 36) (oi := ⟨some 114, _, _, _, _, _⟩) (v := ?_) rfl (by kernel_rfl) (by kernel_rfl) (by kernel_rfl) (fun _ _ _ h => h) (Or.inl ⟨by first | rfl | (simp [Region.wanted, yielded]; done) | (simp [Region.wanted, yielded, hs1]; done) | (simp [Region.wanted, yielded, hs2]; done) | (simp [Region.wanted, yielded, hs1, hs2]; done), ?_⟩) hS ?_
          rotate_left
          · intro wz hSw
            clear hSw
            go_simp
            first | done | with_reducible rfl
          try simp only [Act.put, List.setIfInBounds_toArray, List.set_cons_zero, List.set_cons_succ]
          refine wpAnyH_take (i := 37) (oi := ⟨some 115, _, _, _, _, _⟩) (v := ?_) rfl (by kernel_rfl) (by kernel_rfl) (by kernel_rfl) (fun _ _ _ h => h) (Or.inl ⟨by first | rfl | (simp [Region.wanted, yielded]; done) | (simp [Region.wanted, yielded, hs1]; done) | (simp [Region.wanted, yielded, hs2]; done) | (simp [Region.wanted, yielded, hs1, hs2]; done), ?_⟩) hS ?_
          rotate_left
          · intro wz hSw
            clear hSw
            go_simp
            first | done | with_reducible rfl
          try simp only [Act.put, List.setIfInBounds_toArray, List.set_cons_zero, List.set_cons_succ]
          refine wpAnyH_take (i := 38) (oi := ⟨some 116, _, _, _, _, _⟩) (v := ?_) rfl (by kernel_rfl) (by kernel_rfl) (by kernel_rfl) (fun _ _ _ h => h) (Or.inl ⟨by first | rfl | (simp [Region.wanted, yielded]; done) | (simp [Region.wanted, yielded, hs1]; done) | (simp [Region.wanted, yielded, hs2]; done) | (simp [Region.wanted, yielded, hs1, hs2]; done), ?_⟩) hS ?_
          rotate_left
          · intro wz hSw; obtain ⟨-, -, -, -, f4, f5, f6⟩ := HF.out _ (HBd.out.trans (hSw.mono HBd.out.size))
            clear hSw
            go_simp
            first | done | with_reducible rfl
          try simp only [Act.put, List.setIfInBounds_toArray, List.set_cons_zero, List.set_cons_succ]
          refine wpAnyH_ready (rs := [34]) (by kernel_rfl) (by simp) ?_
          refine AllReadyH.cons (o := ⟨some 112, _, _, _, _, _⟩) rfl (fun K hK => ?_) AllReadyH.nil
          go_simp
          (with_reducible refine (HPB.out _ (HX.out.2.below (HBB.out.trans ((HBd.out.trans (hS.mono HBd.out.size)).mono HBB.out.size)))).mono ?_)
          rintro e wn ⟨rfl, hbn⟩
          have hS1 := hS.trans (hbn.mono hS.size)
          clear hbn
          go_wp2_with fail
          refine hK.out _ _ (hS1) (fun hS => ?_)
          clear hK K
          try simp only [Act.put, List.setIfInBounds_toArray, List.set_cons_zero, List.set_cons_succ]
          refine wpAnyH_take (i := 39) (oi := ⟨some 117, _, _, _, _, _⟩) (v := ?_) rfl (by kernel_rfl) (by kernel_rfl) (by kernel_rfl) (fun _ _ _ h => h) (Or.inl ⟨by first | rfl | (simp [Region.wanted, yielded]; done) | (simp [Region.wanted, yielded, hs1]; done) | (simp [Region.wanted, yielded, hs2]; done) | (simp [Region.wanted, yielded, hs1, hs2]; done), ?_⟩) hS ?_
          rotate_left
          · intro wz hSw
            clear hSw
            go_simp
            first | done | with_reducible rfl
          try simp only [Act.put, List.setIfInBounds_toArray, List.set_cons_zero, List.set_cons_succ]
          refine wpAnyH_take (i := 40) (oi := ⟨some 118, _, _, _, _, _⟩) (v := ?_) rfl (by kernel_rfl) (by kernel_rfl) (by kernel_rfl) (fun _ _ _ h => h) (Or.inl ⟨by first | rfl | (simp [Region.wanted, yielded]; done) | (simp [Region.wanted, yielded, hs1]; done) | (simp [Region.wanted, yielded, hs2]; done) | (simp [Region.wanted, yielded, hs1, hs2]; done), ?_⟩) hS ?_
          rotate_left
          · intro wz hSw
            clear hSw
            go_simp
            first | done | with_reducible rfl
          try simp only [Act.put, List.setIfInBounds_toArray, List.set_cons_zero, List.set_cons_succ]
          refine wpAnyH_take (i := 41) (oi := ⟨some 119, _, _, _, _, _⟩) (v := ?_) rfl (by kernel_rfl) (by kernel_rfl) (by kernel_rfl) (fun _ _ _ h => h) (Or.inl ⟨by first | rfl | (simp [Region.wanted, yielded]; done) | (simp [Region.wanted, yielded, hs1]; done) | (simp [Region.wanted, yielded, hs2]; done) | (simp [Region.wanted, yielded, hs1, hs2]; done), ?_⟩) hS ?_
          rotate_left
          · intro wz hSw
            clear hSw
            go_simp
            first | done | with_reducible rfl
          try simp only [Act.put, List.setIfInBounds_toArray, List.set_cons_zero, List.set_cons_succ]
          refine wpAnyH_take (i := 42) (oi := ⟨some 120, _, _, _, _, _⟩) (v := ?_) rfl (by kernel_rfl) (by kernel_rfl) (by kernel_rfl) (fun _ _ _ h => h) (Or.inl ⟨by first | rfl | (simp [Region.wanted, yielded]; done) | (simp [Region.wanted, yielded, hs1]; done) | (simp [Region.wanted, yielded, hs2]; done) | (simp [Region.wanted, yielded, hs1, hs2]; done), ?_⟩) hS ?_
          rotate_left
          · intro wz hSw
            clear hSw
            go_simp
            first | done | with_reducible rfl
          try simp only [Act.put, List.setIfInBounds_toArray, List.set_cons_zero, List.set_cons_succ]
          refine wpAnyH_take (i := 43) (oi := ⟨some 121, _, _, _, _, _⟩) (v := ?_) rfl (by kernel_rfl) (by kernel_rfl) (by kernel_rfl) (fun _ _ _ h => h) (Or.inl ⟨by first | rfl | (simp [Region.wanted, yielded]; done) | (simp [Region.wanted, yielded, hs1]; done) | (simp [Region.wanted, yielded, hs2]; done) | (simp [Region.wanted, yielded, hs1, hs2]; done), ?_⟩) hS ?_
          rotate_left
          · intro wz hSw
            clear hSw
            go_simp
            first | done | with_reducible rfl
          try simp only [Act.put, List.setIfInBounds_toArray, List.set_cons_zero, List.set_cons_succ]
          refine wpAnyH_take (i := 44) (oi := ⟨some 122, _, _, _, _, _⟩) (v := ?_) rfl (by kernel_rfl) (by kernel_rfl) (by kernel_rfl) (fun _ _ _ h => h) (Or.inl ⟨by first | rfl | (simp [Region.wanted, yielded]; done) | (simp [Region.wanted, yielded, hs1]; done) | (simp [Region.wanted, yielded, hs2]; done) | (simp [Region.wanted, yielded, hs1, hs2]; done), ?_⟩) hS ?_
          rotate_left
          · intro wz hSw
            clear hSw
            go_simp
            first | done | with_reducible rfl
          try simp only [Act.put, List.setIfInBounds_toArray, List.set_cons_zero, List.set_cons_succ]
          refine wpAnyH_take (i := 45) (oi := ⟨some 123, _, _, _, _, _⟩) (v := ?_) rfl (by kernel_rfl) (by kernel_rfl) (by kernel_rfl) (fun _ _ _ h => h) (Or.inl ⟨by first | rfl | (simp [Region.wanted, yielded]; done) | (simp [Region.wanted, yielded, hs1]; done) | (simp [Region.wanted, yielded, hs2]; done) | (simp [Region.wanted, yielded, hs1, hs2]; done), ?_⟩) hS ?_
          rotate_left
          · intro wz hSw
            clear hSw
            go_simp
            first | done | with_reducible rfl
          try simp only [Act.put, List.setIfInBounds_toArray, List.set_cons_zero, List.set_cons_succ]
          refine wpAnyH_take (i := 46) (oi := ⟨some 124, _, _, _, _, _⟩) (v := ?_) rfl (by kernel_rfl) (by kernel_rfl) (by kernel_rfl) (fun _ _ _ h => h) (Or.inl ⟨by first | rfl | (simp [Region.wanted, yielded]; done) | (simp [Region.wanted, yielded, hs1]; done) | (simp [Region.wanted, yielded, hs2]; done) | (simp [Region.wanted, yielded, hs1, hs2]; done), ?_⟩) hS ?_
          rotate_left
          · intro wz hSw; obtain ⟨-, f0, f1, -, -⟩ := HC3.out.head.below hSw
            clear hSw
            go_simp
            first | done | with_reducible rfl
          try simp only [Act.put, List.setIfInBounds_toArray, List.set_cons_zero, List.set_cons_succ]
          refine wpAnyH_take (i := 48) (oi := ⟨some 126, _, _, _, _, _⟩) (v := ?_) rfl (by kernel_rfl) (by kernel_rfl) (by kernel_rfl) (fun _ _ _ h => h) (Or.inl ⟨by first | rfl | (simp [Region.wanted, yielded]; done) | (simp [Region.wanted, yielded, hs1]; done) | (simp [Region.wanted, yielded, hs2]; done) | (simp [Region.wanted, yielded, hs1, hs2]; done), ?_⟩) hS ?_
          rotate_left
          · intro wz hSw
            clear hSw
            go_simp
            first | done | with_reducible rfl
          try simp only [Act.put, List.setIfInBounds_toArray, List.set_cons_zero, List.set_cons_succ]
          refine wpAnyH_take (i := 49) (oi := ⟨some 127, _, _, _, _, _⟩) (v := ?_) rfl (by kernel_rfl) (by kernel_rfl) (by kernel_rfl) (fun _ _ _ h => h) (Or.inl ⟨by first | rfl | (simp [Region.wanted, yielded]; done) | (simp [Region.wanted, yielded, hs1]; done) | (simp [Region.wanted, yielded, hs2]; done) | (simp [Region.wanted, yielded, hs1, hs2]; done), ?_⟩) hS ?_
          rotate_left
          · intro wz hSw
            clear hSw
            go_simp
            first | done | with_reducible rfl
          try simp only [Act.put, List.setIfInBounds_toArray, List.set_cons_zero, List.set_cons_succ]
          refine wpAnyH_take (i := 50) (oi := ⟨some 128, _, _, _, _, _⟩) (v := ?_) rfl (by kernel_rfl) (by kernel_rfl) (by kernel_rfl) (fun _ _ _ h => h) (Or.inl ⟨by first | rfl | (simp [Region.wanted, yielded]; done) | (simp [Region.wanted, yielded, hs1]; done) | (simp [Region.wanted, yielded, hs2]; done) | (simp [Region.wanted, yielded, hs1, hs2]; done), ?_⟩) hS ?_
          rotate_left
          · intro wz hSw
            clear hSw
            go_simp
            first | done | with_reducible rfl
          try simp only [Act.put, List.setIfInBounds_toArray, List.set_cons_zero, List.set_cons_succ]
          refine wpAnyH_take (i := 51) (oi := ⟨some 129, _, _, _, _, _⟩) (v := ?_) rfl (by kernel_rfl) (by kernel_rfl) (by kernel_rfl) (fun _ _ _ h => h) (Or.inl ⟨by first | rfl | (simp [Region.wanted, yielded]; done) | (simp [Region.wanted, yielded, hs1]; done) | (simp [Region.wanted, yielded, hs2]; done) | (simp [Region.wanted, yielded, hs1, hs2]; done), ?_⟩) hS ?_
          rotate_left
          · intro wz hSw; obtain ⟨-, -, -, -, f4, f5, f6⟩ := HF.out _ (HBd.out.trans (hSw.mono HBd.out.size))
            clear hSw
            go_simp
            first | done | with_reducible rfl
          try simp only [Act.put, List.setIfInBounds_toArray, List.set_cons_zero, List.set_cons_succ]
          refine wpAnyH_ready (rs := [47]) (by kernel_rfl) (by simp) ?_
          refine AllReadyH.cons (o := ⟨some 125, _, _, _, _, _⟩) rfl (fun K hK => ?_) AllReadyH.nil
          go_simp
          (with_reducible refine (HPC.out _ (HX.out.2.below (HBB.out.trans ((HBd.out.trans (hS.mono HBd.out.size)).mono HBB.out.size)))).mono ?_)
          rintro e wn ⟨rfl, hbn⟩
          have hS1 := hS.trans (hbn.mono hS.size)
          clear hbn
          go_wp2_with fail
          refine hK.out _ _ (hS1) (fun hS => ?_)
          clear hK K
          try simp only [Act.put, List.setIfInBounds_toArray, List.set_cons_zero, List.set_cons_succ]
          refine wpAnyH_take (i := 52) (oi := ⟨some 130, _, _, _, _, _⟩) (v := ?_) rfl (by kernel_rfl) (by kernel_rfl) (by kernel_rfl) (fun _ _ _ h => h) (Or.inl ⟨by first | rfl | (simp [Region.wanted, yielded]; done) | (simp [Region.wanted, yielded, hs1]; done) | (simp [Region.wanted, yielded, hs2]; done) | (simp [Region.wanted, yielded, hs1, hs2]; done), ?_⟩) hS ?_
          rotate_left
          · intro wz hSw
            clear hSw
            go_simp
            first | done | with_reducible rfl
          try simp only [Act.put, List.setIfInBounds_toArray, List.set_cons_zero, List.set_cons_succ]
          refine wpAnyH_take (i := 53) (oi := ⟨some 131, _, _, _, _, _⟩) (v := ?_) rfl (by kernel_rfl) (by kernel_rfl) (by kernel_rfl) (fun _ _ _ h => h) (Or.inl ⟨by first | rfl | (simp [Region.wanted, yielded]; done) | (simp [Region.wanted, yielded, hs1]; done) | (simp [Region.wanted, yielded, hs2]; done) | (simp [Region.wanted, yielded, hs1, hs2]; done), ?_⟩) hS ?_
          rotate_left
          · intro wz hSw
            clear hSw
            go_simp
            first | done | with_reducible rfl
          try simp only [Act.put, List.setIfInBounds_toArray, List.set_cons_zero, List.set_cons_succ]
          refine wpAnyH_take (i := 54) (oi := ⟨some 2, _, _, _, _, _⟩) (v := ?_) rfl (by kernel_rfl) (by kernel_rfl) (by kernel_rfl) (fun _ _ _ h => h) (Or.inl ⟨by first | rfl | (simp [Region.wanted, yielded]; done) | (simp [Region.wanted, yielded, hs1]; done) | (simp [Region.wanted, yielded, hs2]; done) | (simp [Region.wanted, yielded, hs1, hs2]; done), ?_⟩) hS ?_
          rotate_left
          · intro wz hSw
            clear hSw
            go_simp
            first | done | with_reducible rfl
          try simp only [Act.put, List.setIfInBounds_toArray, List.set_cons_zero, List.set_cons_succ]
          refine wpAnyH_done (by kernel_rfl) ?_ _
          go_wp2_with fail
          go_ret
          exact ⟨rfl, HBB.out.trans ((HBd.out.trans (hS.mono HBd.out.size)).mono HBB.out.size)⟩
        | false =>
          obtain rfl := HE2.out.2 rfl
          replace HPA := Lib.hid (HPA.out rfl)
          refine wp_region_any (by kernel_rfl) ?_
          change wpAny _ _ _ _ _ _ _ (World.drew _)
          refine wpAny_of_held (S := fun v => Below wv.heap.size wv v) _ _ _ _ ?_
          have hS : (fun v => Below wv.heap.size wv v) _ := (Below.refl _ wv).drew
          refine wpAnyH_take (i := 0) (oi := ⟨some 78, _, _, _, _, _⟩) (v := ?_) rfl (by kernel_rfl) (by kernel_rfl) (by kernel_rfl) (fun _ _ _ h => h) (Or.inl ⟨by first | rfl | (simp [Region.wanted, yielded]; done) | (simp [Region.wanted, yielded, hs1]; done), ?_⟩) hS ?_
          rotate_left
          · intro wz hSw
            clear hSw
            go_simp
            first | done | with_reducible rfl
          try simp only [Act.put, List.setIfInBounds_toArray, List.set_cons_zero, List.set_cons_succ]
          refine wpAnyH_take (i := 1) (oi := ⟨some 79, _, _, _, _, _⟩) (v := ?_) rfl (by kernel_rfl) (by kernel_rfl) (by kernel_rfl) (fun _ _ _ h => h) (Or.inl ⟨by first | rfl | (simp [Region.wanted, yielded]; done) | (simp [Region.wanted, yielded, hs1]; done), ?_⟩) hS ?_
          rotate_left
          · intro wz hSw
            clear hSw
            go_simp
            first | done | with_reducible rfl
          try simp only [Act.put, List.setIfInBounds_toArray, List.set_cons_zero, List.set_cons_succ]
          refine wpAnyH_take (i := 2) (oi := ⟨some 80, _, _, _, _, _⟩) (v := ?_) rfl (by kernel_rfl) (by kernel_rfl) (by kernel_rfl) (fun _ _ _ h => h) (Or.inl ⟨by first | rfl | (simp [Region.wanted, yielded]; done) | (simp [Region.wanted, yielded, hs1]; done), ?_⟩) hS ?_
          rotate_left
          · intro wz hSw
            clear hSw
            go_simp
            first | done | with_reducible rfl
          try simp only [Act.put, List.setIfInBounds_toArray, List.set_cons_zero, List.set_cons_succ]
          refine wpAnyH_take (i := 3) (oi := ⟨some 81, _, _, _, _, _⟩) (v := ?_) rfl (by kernel_rfl) (by kernel_rfl) (by kernel_rfl) (fun _ _ _ h => h) (Or.inl ⟨by first | rfl | (simp [Region.wanted, yielded]; done) | (simp [Region.wanted, yielded, hs1]; done), ?_⟩) hS ?_
          rotate_left
          · intro wz hSw
            clear hSw
            go_simp
            first | done | with_reducible rfl
          try simp only [Act.put, List.setIfInBounds_toArray, List.set_cons_zero, List.set_cons_succ]
          refine wpAnyH_take (i := 4) (oi := ⟨some 82, _, _, _, _, _⟩) (v := ?_) rfl (by kernel_rfl) (by kernel_rfl) (by kernel_rfl) (fun _ _ _ h => h) (Or.inl ⟨by first | rfl | (simp [Region.wanted, yielded]; done) | (simp [Region.wanted, yielded, hs1]; done), ?_⟩) hS ?_
          rotate_left
          · intro wz hSw; obtain ⟨-, -, -, -, f4, f5, f6⟩ := HF.out _ (HBd.out.trans (hSw.mono HBd.out.size))
            clear hSw
            go_simp
            first | done | with_reducible rfl
          try simp only [Act.put, List.setIfInBounds_toArray, List.set_cons_zero, List.set_cons_succ]
          refine wpAnyH_take (i := 5) (oi := ⟨some 83, _, _, _, _, _⟩) (v := ?_) rfl (by kernel_rfl) (by kernel_rfl) (by kernel_rfl) (fun _ _ _ h => h) (Or.inl ⟨by first | rfl | (simp [Region.wanted, yielded]; done) | (simp [Region.wanted, yielded, hs1]; done), ?_⟩) hS ?_
          rotate_left
          · intro wz hSw
            clear hSw
            go_simp
            first | done | with_reducible rfl
          try simp only [Act.put, List.setIfInBounds_toArray, List.set_cons_zero, List.set_cons_succ]
          refine wpAnyH_take (i := 6) (oi := ⟨some 84, _, _, _, _, _⟩) (v := ?_) rfl (by kernel_rfl) (by kernel_rfl) (by kernel_rfl) (fun _ _ _ h => h) (Or.inl ⟨by first | rfl | (simp [Region.wanted, yielded]; done) | (simp [Region.wanted, yielded, hs1]; done), ?_⟩) hS ?_
          rotate_left
          · intro wz hSw
            clear hSw
            go_simp
            first | done | with_reducible rfl
          try simp only [Act.put, List.setIfInBounds_toArray, List.set_cons_zero, List.set_cons_succ]
          refine wpAnyH_take (i := 7) (oi := ⟨some 85, _, _, _, _, _⟩) (v := ?_) rfl (by kernel_rfl) (by kernel_rfl) (by kernel_rfl) (fun _ _ _ h => h) (Or.inl ⟨by first | rfl | (simp [Region.wanted, yielded]; done) | (simp [Region.wanted, yielded, hs1]; done), ?_⟩) hS ?_
          rotate_left
          · intro wz hSw
            clear hSw
            go_simp
            first | done | with_reducible rfl
          try simp only [Act.put, List.setIfInBounds_toArray, List.set_cons_zero, List.set_cons_succ]
          refine wpAnyH_take (i := 8) (oi := ⟨some 86, _, _, _, _, _⟩) (v := ?_) rfl (by kernel_rfl) (by kernel_rfl) (by kernel_rfl) (fun _ _ _ h => h) (Or.inl ⟨by first | rfl | (simp [Region.wanted, yielded]; done) | (simp [Region.wanted, yielded, hs1]; done), ?_⟩) hS ?_
          rotate_left
          · intro wz hSw
            clear hSw
            go_simp
            first | done | with_reducible rfl
          try simp only [Act.put, List.setIfInBounds_toArray, List.set_cons_zero, List.set_cons_succ]
          refine wpAnyH_take (i := 9) (oi := ⟨some 87, _, _, _, _, _⟩) (v := ?_) rfl (by kernel_rfl) (by kernel_rfl) (by kernel_rfl) (fun _ _ _ h => h) (Or.inl ⟨by first | rfl | (simp [Region.wanted, yielded]; done) | (simp [Region.wanted, yielded, hs1]; done), ?_⟩) hS ?_
          rotate_left
          · intro wz hSw
            clear hSw
            go_simp
            first | done | with_reducible rfl
          try simp only [Act.put, List.setIfInBounds_toArray, List.set_cons_zero, List.set_cons_succ]
          refine wpAnyH_take (i := 10) (oi := ⟨some 88, _, _, _, _, _⟩) (v := ?_) rfl (by kernel_rfl) (by kernel_rfl) (by kernel_rfl) (fun _ _ _ h => h) (Or.inl ⟨by first | rfl | (simp [Region.wanted, yielded]; done) | (simp [Region.wanted, yielded, hs1]; done), ?_⟩) hS ?_
          rotate_left
          · intro wz hSw
            clear hSw
            go_simp
            first | done | with_reducible rfl
          try simp only [Act.put, List.setIfInBounds_toArray, List.set_cons_zero, List.set_cons_succ]
          refine wpAnyH_take (i := 11) (oi := ⟨some 89, _, _, _, _, _⟩) (v := ?_) rfl (by kernel_rfl) (by kernel_rfl) (by kernel_rfl) (fun _ _ _ h => h) (Or.inl ⟨by first | rfl | (simp [Region.wanted, yielded]; done) | (simp [Region.wanted, yielded, hs1]; done), ?_⟩) hS ?_
          rotate_left
          · intro wz hSw; obtain ⟨-, f0, f1, -, -⟩ := HC3.out.tail.tail.head.below hSw
            clear hSw
            go_simp
            first | done | with_reducible rfl
          try simp only [Act.put, List.setIfInBounds_toArray, List.set_cons_zero, List.set_cons_succ]
          refine wpAnyH_take (i := 13) (oi := ⟨some 91, _, _, _, _, _⟩) (v := ?_) rfl (by kernel_rfl) (by kernel_rfl) (by kernel_rfl) (fun _ _ _ h => h) (Or.inl ⟨by first | rfl | (simp [Region.wanted, yielded]; done) | (simp [Region.wanted, yielded, hs1]; done), ?_⟩) hS ?_
          rotate_left
          · intro wz hSw
            clear hSw
            go_simp
            first | done | with_reducible rfl
          try simp only [Act.put, List.setIfInBounds_toArray, List.set_cons_zero, List.set_cons_succ]
          refine wpAnyH_take (i := 14) (oi := ⟨some 92, _, _, _, _, _⟩) (v := ?_) rfl (by kernel_rfl) (by kernel_rfl) (by kernel_rfl) (fun _ _ _ h => h) (Or.inl ⟨by first | rfl | (simp [Region.wanted, yielded]; done) | (simp [Region.wanted, yielded, hs1]; done), ?_⟩) hS ?_
          rotate_left
          · intro wz hSw
            clear hSw
            go_simp
            first | done | with_reducible rfl
          try simp only [Act.put, List.setIfInBounds_toArray, List.set_cons_zero, List.set_cons_succ]
          refine wpAnyH_take (i := 15) (oi := ⟨some 93, _, _, _, _, _⟩) (v := ?_) rfl (by kernel_rfl) (by kernel_rfl) (by kernel_rfl) (fun _ _ _ h => h) (Or.inl ⟨by first | rfl | (simp [Region.wanted, yielded]; done) | (simp [Region.wanted, yielded, hs1]; done), ?_⟩) hS ?_
          rotate_left
          · intro wz hSw
            clear hSw
            go_simp
            first | done | with_reducible rfl
          try simp only [Act.put, List.setIfInBounds_toArray, List.set_cons_zero, List.set_cons_succ]
          refine wpAnyH_take (i := 16) (oi := ⟨some 94, _, _, _, _, _⟩) (v := ?_) rfl (by kernel_rfl) (by kernel_rfl) (by kernel_rfl) (fun _ _ _ h => h) (Or.inl ⟨by first | rfl | (simp [Region.wanted, yielded]; done) | (simp [Region.wanted, yielded, hs1]; done), ?_⟩) hS ?_
          rotate_left
          · intro wz hSw; obtain ⟨-, -, -, -, f4, f5, f6⟩ := HF.out _ (HBd.out.trans (hSw.mono HBd.out.size))
            clear hSw
            go_simp
            first | done | with_reducible rfl
          try simp only [Act.put, List.setIfInBounds_toArray, List.set_cons_zero, List.set_cons_succ]
          refine wpAnyH_ready (rs := [12]) (by kernel_rfl) (by simp) ?_
          refine AllReadyH.cons (o := ⟨some 90, _, _, _, _, _⟩) rfl (fun K hK => ?_) AllReadyH.nil
          go_simp
          (with_reducible refine (HPA.out _ (HX.out.2.below (HBB.out.trans ((HBd.out.trans (hS.mono HBd.out.size)).mono HBB.out.size)))).mono ?_)
          rintro e wn ⟨rfl, hbn⟩
          have hS1 := hS.trans (hbn.mono hS.size)
          clear hbn
          go_wp2_with fail
          refine hK.out _ _ (hS1) (fun hS => ?_)
          clear hK K
          try simp only [Act.put, List.setIfInBounds_toArray, List.set_cons_zero, List.set_cons_succ]
          refine wpAnyH_take (i := 17) (oi := ⟨some 95, _, _, _, _, _⟩) (v := ?_) rfl (by kernel_rfl) (by kernel_rfl) (by kernel_rfl) (fun _ _ _ h => h) (Or.inl ⟨by first | rfl | (simp [Region.wanted, yielded]; done) | (simp [Region.wanted, yielded, hs1]; done), ?_⟩) hS ?_
          rotate_left
          · intro wz hSw
            clear hSw
            go_simp
            first | done | with_reducible rfl
          try simp only [Act.put, List.setIfInBounds_toArray, List.set_cons_zero, List.set_cons_succ]
          refine wpAnyH_take (i := 18) (oi := ⟨some 96, _, _, _, _, _⟩) (v := ?_) rfl (by kernel_rfl) (by kernel_rfl) (by kernel_rfl) (fun _ _ _ h => h) (Or.inl ⟨by first | rfl | (simp [Region.wanted, yielded]; done) | (simp [Region.wanted, yielded, hs1]; done), ?_⟩) hS ?_
          rotate_left
          · intro wz hSw
            clear hSw
            go_simp
            first | done | with_reducible rfl
          try simp only [Act.put, List.setIfInBounds_toArray, List.set_cons_zero, List.set_cons_succ]
          refine wpAnyH_take (i := 19) (oi := ⟨some 97, _, _, _, _, _⟩) (v := ?_) rfl (by kernel_rfl) (by kernel_rfl) (by kernel_rfl) (fun _ _ _ h => h) (Or.inl ⟨by first | rfl | (simp [Region.wanted, yielded]; done) | (simp [Region.wanted, yielded, hs1]; done), ?_⟩) hS ?_
          rotate_left
          · intro wz hSw
            clear hSw
            go_simp
            first | done | with_reducible rfl
          try simp only [Act.put, List.setIfInBounds_toArray, List.set_cons_zero, List.set_cons_succ]
          refine wpAnyH_take (i := 20) (oi := ⟨some 98, _, _, _, _, _⟩) (v := ?_) rfl (by kernel_rfl) (by kernel_rfl) (by kernel_rfl) (fun _ _ _ h => h) (Or.inl ⟨by first | rfl | (simp [Region.wanted, yielded]; done) | (simp [Region.wanted, yielded, hs1]; done), ?_⟩) hS ?_
          rotate_left
          · intro wz hSw
            clear hSw
            go_simp
            first | done | with_reducible rfl
          try simp only [Act.put, List.setIfInBounds_toArray, List.set_cons_zero, List.set_cons_succ]
          refine wpAnyH_take (i := 21) (oi := ⟨some 99, _, _, _, _, _⟩) (v := ?_) rfl (by kernel_rfl) (by kernel_rfl) (by kernel_rfl) (fun _ _ _ h => h) (Or.inl ⟨by first | rfl | (simp [Region.wanted, yielded]; done) | (simp [Region.wanted, yielded, hs1]; done), ?_⟩) hS ?_
          rotate_left
          · intro wz hSw
            clear hSw
            go_simp
            first | done | with_reducible rfl
          try simp only [Act.put, List.setIfInBounds_toArray, List.set_cons_zero, List.set_cons_succ]
          refine wpAnyH_take (i := 22) (oi := ⟨some 100, _, _, _, _, _⟩) (v := ?_) rfl (by kernel_rfl) (by kernel_rfl) (by kernel_rfl) (fun _ _ _ h => h) (Or.inl ⟨by first | rfl | (simp [Region.wanted, yielded]; done) | (simp [Region.wanted, yielded, hs1]; done), ?_⟩) hS ?_
          rotate_left
          · intro wz hSw
            clear hSw
            go_simp
            first | done | with_reducible rfl
          try simp only [Act.put, List.setIfInBounds_toArray, List.set_cons_zero, List.set_cons_succ]
          refine wpAnyH_take (i := 23) (oi := ⟨some 101, _, _, _, _, _⟩) (v := ?_) rfl (by kernel_rfl) (by kernel_rfl) (by kernel_rfl) (fun _ _ _ h => h) (Or.inl ⟨by first | rfl | (simp [Region.wanted, yielded]; done) | (simp [Region.wanted, yielded, hs1]; done), ?_⟩) hS ?_
          rotate_left
          · intro wz hSw
            clear hSw
            go_simp
            first | done | with_reducible rfl
          try simp only [Act.put, List.setIfInBounds_toArray, List.set_cons_zero, List.set_cons_succ]
          refine wpAnyH_take (i := 24) (oi := ⟨some 102, _, _, _, _, _⟩) (v := ?_) rfl (by kernel_rfl) (by kernel_rfl) (by kernel_rfl) (fun _ _ _ h => h) (Or.inl ⟨by first | rfl | (simp [Region.wanted, yielded]; done) | (simp [Region.wanted, yielded, hs1]; done), ?_⟩) hS ?_
          rotate_left
          · intro wz hSw
            clear hSw
            go_simp
            first | done | with_reducible rfl
          try simp only [Act.put, List.setIfInBounds_toArray, List.set_cons_zero, List.set_cons_succ]
          refine wpAnyH_take (i := 25) (oi := ⟨some 103, _, _, _, _, _⟩) (v := ?_) rfl (by kernel_rfl) (by kernel_rfl) (by kernel_rfl) (fun _ _ _ h => h) (Or.inl ⟨by first | rfl | (simp [Region.wanted, yielded]; done) | (simp [Region.wanted, yielded, hs1]; done), ?_⟩) hS ?_
          rotate_left
          · intro wz hSw; obtain ⟨-, -, -, -, f4, f5, f6⟩ := HF.out _ (HBd.out.trans (hSw.mono HBd.out.size))
            clear hSw
            go_simp
            first | done | with_reducible rfl
          try simp only [Act.put, List.setIfInBounds_toArray, List.set_cons_zero, List.set_cons_succ]
          refine wpAnyH_take (i := 26) (oi := ⟨some 104, _, _, _, _, _⟩) (v := ?_) rfl (by kernel_rfl) (by kernel_rfl) (by kernel_rfl) (fun _ _ _ h => h) (Or.inl ⟨by first | rfl | (simp [Region.wanted, yielded]; done) | (simp [Region.wanted, yielded, hs1]; done), ?_⟩) hS ?_
          rotate_left
          · intro wz hSw
            clear hSw
            go_simp
            first | done | with_reducible rfl
          try simp only [Act.put, List.setIfInBounds_toArray, List.set_cons_zero, List.set_cons_succ]
          refine wpAnyH_take (i := 27) (oi := ⟨some 105, _, _, _, _, _⟩) (v := ?_) rfl (by kernel_rfl) (by kernel_rfl) (by kernel_rfl) (fun _ _ _ h => h) (Or.inl ⟨by first | rfl | (simp [Region.wanted, yielded]; done) | (simp [Region.wanted, yielded, hs1]; done), ?_⟩) hS ?_
          rotate_left
          · intro wz hSw
            clear hSw
            go_simp
            first | done | with_reducible rfl
          try simp only [Act.put, List.setIfInBounds_toArray, List.set_cons_zero, List.set_cons_succ]
          refine wpAnyH_take (i := 28) (oi := ⟨some 106, _, _, _, _, _⟩) (v := ?_) rfl (by kernel_rfl) (by kernel_rfl) (by kernel_rfl) (fun _ _ _ h => h) (Or.inl ⟨by first | rfl | (simp [Region.wanted, yielded]; done) | (simp [Region.wanted, yielded, hs1]; done), ?_⟩) hS ?_
          rotate_left
          · intro wz hSw
            clear hSw
            go_simp
            first | done | with_reducible rfl
          try simp only [Act.put, List.setIfInBounds_toArray, List.set_cons_zero, List.set_cons_succ]
          refine wpAnyH_take (i := 29) (oi := ⟨some 107, _, _, _, _, _⟩) (v := ?_) rfl (by kernel_rfl) (by kernel_rfl) (by kernel_rfl) (fun _ _ _ h => h) (Or.inl ⟨by first | rfl | (simp [Region.wanted, yielded]; done) | (simp [Region.wanted, yielded, hs1]; done), ?_⟩) hS ?_
          rotate_left
          · intro wz hSw
            clear hSw
            go_simp
            first | done | with_reducible rfl
          try simp only [Act.put, List.setIfInBounds_toArray, List.set_cons_zero, List.set_cons_succ]
          refine wpAnyH_take (i := 30) (oi := ⟨some 108, _, _, _, _, _⟩) (v := ?_) rfl (by kernel_rfl) (by kernel_rfl) (by kernel_rfl) (fun _ _ _ h => h) (Or.inl ⟨by first | rfl | (simp [Region.wanted, yielded]; done) | (simp [Region.wanted, yielded, hs1]; done), ?_⟩) hS ?_
          rotate_left
          · intro wz hSw
            clear hSw
            go_simp
            first | done | with_reducible rfl
          try simp only [Act.put, List.setIfInBounds_toArray, List.set_cons_zero, List.set_cons_succ]
          refine wpAnyH_take (i := 31) (oi := ⟨some 109, _, _, _, _, _⟩) (v := ?_) rfl (by kernel_rfl) (by kernel_rfl) (by kernel_rfl) (fun _ _ _ h => h) (Or.inl ⟨by first | rfl | (simp [Region.wanted, yielded]; done) | (simp [Region.wanted, yielded, hs1]; done), ?_⟩) hS ?_
          rotate_left
          · intro wz hSw
            clear hSw
            go_simp
            first | done | with_reducible rfl
          try simp only [Act.put, List.setIfInBounds_toArray, List.set_cons_zero, List.set_cons_succ]
          refine wpAnyH_take (i := 32) (oi := ⟨some 110, _, _, _, _, _⟩) (v := ?_) rfl (by kernel_rfl) (by kernel_rfl) (by kernel_rfl) (fun _ _ _ h => h) (Or.inl ⟨by first | rfl | (simp [Region.wanted, yielded]; done) | (simp [Region.wanted, yielded, hs1]; done), ?_⟩) hS ?_
          rotate_left
          · intro wz hSw
            clear hSw
            go_simp
            first | done | with_reducible rfl
          try simp only [Act.put, List.setIfInBounds_toArray, List.set_cons_zero, List.set_cons_succ]
          refine wpAnyH_take (i := 33) (oi := ⟨some 111, _, _, _, _, _⟩) (v := undef) rfl (by kernel_rfl) (by kernel_rfl) (by kernel_rfl) (fun _ _ _ h => h) (Or.inr ⟨by first | rfl | (simp [Region.wanted, yielded]; done) | (simp [Region.wanted, yielded, hs1]; done), rfl⟩) hS ?_
          try simp only [Act.put, List.setIfInBounds_toArray, List.set_cons_zero, List.set_cons_succ]
          refine wpAnyH_take (i := 35) (oi := ⟨some 113, _, _, _, _, _⟩) (v := undef) rfl (by kernel_rfl) (by kernel_rfl) (by kernel_rfl) (fun _ _ _ h => h) (Or.inr ⟨by first | rfl | (simp [Region.wanted, yielded]; done) | (simp [Region.wanted, yielded, hs1]; done), rfl⟩) hS ?_
          try simp only [Act.put, List.setIfInBounds_toArray, List.set_cons_zero, List.set_cons_succ]
          refine wpAnyH_take (i := 36) (oi := ⟨some 114, _, _, _, _, _⟩) (v := undef) rfl (by kernel_rfl) (by kernel_rfl) (by kernel_rfl) (fun _ _ _ h => h) (Or.inr ⟨by first | rfl | (simp [Region.wanted, yielded]; done) | (simp [Region.wanted, yielded, hs1]; done), rfl⟩) hS ?_
          try simp only [Act.put, List.setIfInBounds_toArray, List.set_cons_zero, List.set_cons_succ]
          refine wpAnyH_take (i := 37) (oi := ⟨some 115, _, _, _, _, _⟩) (v := undef) rfl (by kernel_rfl) (by kernel_rfl) (by kernel_rfl) (fun _ _ _ h => h) (Or.inr ⟨by first | rfl | (simp [Region.wanted, yielded]; done) | (simp [Region.wanted, yielded, hs1]; done), rfl⟩) hS ?_
          try simp only [Act.put, List.setIfInBounds_toArray, List.set_cons_zero, List.set_cons_succ]
          refine wpAnyH_take (i := 38) (oi := ⟨some 116, _, _, _, _, _⟩) (v := undef) rfl (by kernel_rfl) (by kernel_rfl) (by kernel_rfl) (fun _ _ _ h => h) (Or.inr ⟨by first | rfl | (simp [Region.wanted, yielded]; done) | (simp [Region.wanted, yielded, hs1]; done), rfl⟩) hS ?_
          try simp only [Act.put, List.setIfInBounds_toArray, List.set_cons_zero, List.set_cons_succ]
          refine wpAnyH_ready (rs := [34]) (by kernel_rfl) (by simp) ?_
          refine AllReadyH.cons (o := ⟨some 112, _, _, _, _, _⟩) rfl (fun K hK => ?_) AllReadyH.nil
          go_simp
          refine hK.out _ _ (hS) (fun hS => ?_)
          clear hK K
          try simp only [Act.put, List.setIfInBounds_toArray, List.set_cons_zero, List.set_cons_succ]
          refine wpAnyH_take (i := 39) (oi := ⟨some 117, _, _, _, _, _⟩) (v := undef) rfl (by kernel_rfl) (by kernel_rfl) (by kernel_rfl) (fun _ _ _ h => h) (Or.inr ⟨by first | rfl | (simp [Region.wanted, yielded]; done) | (simp [Region.wanted, yielded, hs1]; done), rfl⟩) hS ?_
          try simp only [Act.put, List.setIfInBounds_toArray, List.set_cons_zero, List.set_cons_succ]
          refine wpAnyH_take (i := 40) (oi := ⟨some 118, _, _, _, _, _⟩) (v := ?_) rfl (by kernel_rfl) (by kernel_rfl) (by kernel_rfl) (fun _ _ _ h => h) (Or.inl ⟨by first | rfl | (simp [Region.wanted, yielded]; done) | (simp [Region.wanted, yielded, hs1]; done), ?_⟩) hS ?_
          rotate_left
          · intro wz hSw
            clear hSw
            go_simp
            first | done | with_reducible rfl
          try simp only [Act.put, List.setIfInBounds_toArray, List.set_cons_zero, List.set_cons_succ]
          refine wpAnyH_take (i := 41) (oi := ⟨some 119, _, _, _, _, _⟩) (v := ?_) rfl (by kernel_rfl) (by kernel_rfl) (by kernel_rfl) (fun _ _ _ h => h) (Or.inl ⟨by first | rfl | (simp [Region.wanted, yielded]; done) | (simp [Region.wanted, yielded, hs1]; done), ?_⟩) hS ?_
          rotate_left
          · intro wz hSw
            clear hSw
            go_simp
            first | done | with_reducible rfl
          try simp only [Act.put, List.setIfInBounds_toArray, List.set_cons_zero, List.set_cons_succ]
          refine wpAnyH_take (i := 42) (oi := ⟨some 120, _, _, _, _, _⟩) (v := ?_) rfl (by kernel_rfl) (by kernel_rfl) (by kernel_rfl) (fun _ _ _ h => h) (Or.inl ⟨by first | rfl | (simp [Region.wanted, yielded]; done) | (simp [Region.wanted, yielded, hs1]; done), ?_⟩) hS ?_
          rotate_left
          · intro wz hSw
            clear hSw
            go_simp
            first | done | with_reducible rfl
          try simp only [Act.put, List.setIfInBounds_toArray, List.set_cons_zero, List.set_cons_succ]
          refine wpAnyH_take (i := 43) (oi := ⟨some 121, _, _, _, _, _⟩) (v := ?_) rfl (by kernel_rfl) (by kernel_rfl) (by kernel_rfl) (fun _ _ _ h => h) (Or.inl ⟨by first | rfl | (simp [Region.wanted, yielded]; done) | (simp [Region.wanted, yielded, hs1]; done), ?_⟩) hS ?_
          rotate_left
          · intro wz hSw
            clear hSw
            go_simp
            first | done | with_reducible rfl
          try simp only [Act.put, List.setIfInBounds_toArray, List.set_cons_zero, List.set_cons_succ]
          refine wpAnyH_take (i := 44) (oi := ⟨some 122, _, _, _, _, _⟩) (v := ?_) rfl (by kernel_rfl) (by kernel_rfl) (by kernel_rfl) (fun _ _ _ h => h) (Or.inl ⟨by first | rfl | (simp [Region.wanted, yielded]; done) | (simp [Region.wanted, yielded, hs1]; done), ?_⟩) hS ?_
          rotate_left
          · intro wz hSw
            clear hSw
            go_simp
            first | done | with_reducible rfl
          try simp only [Act.put, List.setIfInBounds_toArray, List.set_cons_zero, List.set_cons_succ]
          refine wpAnyH_take (i := 45) (oi := ⟨some 123, _, _, _, _, _⟩) (v := ?_) rfl (by kernel_rfl) (by kernel_rfl) (by kernel_rfl) (fun _ _ _ h => h) (Or.inl ⟨by first | rfl | (simp [Region.wanted, yielded]; done) | (simp [Region.wanted, yielded, hs1]; done), ?_⟩) hS ?_
          rotate_left
          · intro wz hSw
            clear hSw
            go_simp
            first | done | with_reducible rfl
          try simp only [Act.put, List.setIfInBounds_toArray, List.set_cons_zero, List.set_cons_succ]
          refine wpAnyH_take (i := 46) (oi := ⟨some 124, _, _, _, _, _⟩) (v := ?_) rfl (by kernel_rfl) (by kernel_rfl) (by kernel_rfl) (fun _ _ _ h => h) (Or.inl ⟨by first | rfl | (simp [Region.wanted, yielded]; done) | (simp [Region.wanted, yielded, hs1]; done), ?_⟩) hS ?_
          rotate_left
          · intro wz hSw; obtain ⟨-, f0, f1, -, -⟩ := HC3.out.head.below hSw
            clear hSw
            go_simp
            first | done | with_reducible rfl
          try simp only [Act.put, List.setIfInBounds_toArray, List.set_cons_zero, List.set_cons_succ]
          refine wpAnyH_take (i := 48) (oi := ⟨some 126, _, _, _, _, _⟩) (v := ?_) rfl (by kernel_rfl) (by kernel_rfl) (by kernel_rfl) (fun _ _ _ h => h) (Or.inl ⟨by first | rfl | (simp [Region.wanted, yielded]; done) | (simp [Region.wanted, yielded, hs1]; done), ?_⟩) hS ?_
          rotate_left
          · intro wz hSw
            clear hSw
            go_simp
            first | done | with_reducible rfl
          try simp only [Act.put, List.setIfInBounds_toArray, List.set_cons_zero, List.set_cons_succ]
          refine wpAnyH_take (i := 49) (oi := ⟨some 127, _, _, _, _, _⟩) (v := ?_) rfl (by kernel_rfl) (by kernel_rfl) (by kernel_rfl) (fun _ _ _ h => h) (Or.inl ⟨by first | rfl | (simp [Region.wanted, yielded]; done) | (simp [Region.wanted, yielded, hs1]; done), ?_⟩) hS ?_
          rotate_left
          · intro wz hSw
            clear hSw
            go_simp
            first | done | with_reducible rfl
          try simp only [Act.put, List.setIfInBounds_toArray, List.set_cons_zero, List.set_cons_succ]
          refine wpAnyH_take (i := 50) (oi := ⟨some 128, _, _, _, _, _⟩) (v := ?_) rfl (by kernel_rfl) (by kernel_rfl) (by kernel_rfl) (fun _ _ _ h => h) (Or.inl ⟨by first | rfl | (simp [Region.wanted, yielded]; done) | (simp [Region.wanted, yielded, hs1]; done), ?_⟩) hS ?_
          rotate_left
          · intro wz hSw
            clear hSw
            go_simp
            first | done | with_reducible rfl
          try simp only [Act.put, List.setIfInBounds_toArray, List.set_cons_zero, List.set_cons_succ]
          refine wpAnyH_take (i := 51) (oi := ⟨some 129, _, _, _, _, _⟩) (v := ?_) rfl (by kernel_rfl) (by kernel_rfl) (by kernel_rfl) (fun _ _ _ h => h) (Or.inl ⟨by first | rfl | (simp [Region.wanted, yielded]; done) | (simp [Region.wanted, yielded, hs1]; done), ?_⟩) hS ?_
          rotate_left
          · intro wz hSw; obtain ⟨-, -, -, -, f4, f5, f6⟩ := HF.out _ (HBd.out.trans (hSw.mono HBd.out.size))
            clear hSw
            go_simp
            first | done | with_reducible rfl
          try simp only [Act.put, List.setIfInBounds_toArray, List.set_cons_zero, List.set_cons_succ]
          refine wpAnyH_ready (rs := [47]) (by kernel_rfl) (by simp) ?_
          refine AllReadyH.cons (o := ⟨some 125, _, _, _, _, _⟩) rfl (fun K hK => ?_) AllReadyH.nil
          go_simp
          (with_reducible refine (HPC.out _ (HX.out.2.below (HBB.out.trans ((HBd.out.trans (hS.mono HBd.out.size)).mono HBB.out.size)))).mono ?_)
          rintro e wn ⟨rfl, hbn⟩
          have hS1 := hS.trans (hbn.mono hS.size)
          clear hbn
          go_wp2_with fail
          refine hK.out _ _ (hS1) (fun hS => ?_)
          clear hK K
          try simp only [Act.put, List.setIfInBounds_toArray, List.set_cons_zero, List.set_cons_succ]
          refine wpAnyH_take (i := 52) (oi := ⟨some 130, _, _, _, _, _⟩) (v := ?_) rfl (by kernel_rfl) (by kernel_rfl) (by kernel_rfl) (fun _ _ _ h => h) (Or.inl ⟨by first | rfl | (simp [Region.wanted, yielded]; done) | (simp [Region.wanted, yielded, hs1]; done), ?_⟩) hS ?_
          rotate_left
          · intro wz hSw
            clear hSw
            go_simp
            first | done | with_reducible rfl
          try simp only [Act.put, List.setIfInBounds_toArray, List.set_cons_zero, List.set_cons_succ]
          refine wpAnyH_take (i := 53) (oi := ⟨some 131, _, _, _, _, _⟩) (v := ?_) rfl (by kernel_rfl) (by kernel_rfl) (by kernel_rfl) (fun _ _ _ h => h) (Or.inl ⟨by first | rfl | (simp [Region.wanted, yielded]; done) | (simp [Region.wanted, yielded, hs1]; done), ?_⟩) hS ?_
          rotate_left
          · intro wz hSw
            clear hSw
            go_simp
            first | done | with_reducible rfl
          try simp only [Act.put, List.setIfInBounds_toArray, List.set_cons_zero, List.set_cons_succ]
          refine wpAnyH_take (i := 54) (oi := ⟨some 2, _, _, _, _, _⟩) (v := ?_) rfl (by kernel_rfl) (by kernel_rfl) (by kernel_rfl) (fun _ _ _ h => h) (Or.inl ⟨by first | rfl | (simp [Region.wanted, yielded]; done) | (simp [Region.wanted, yielded, hs1]; done), ?_⟩) hS ?_
          rotate_left
          · intro wz hSw
            clear hSw
            go_simp
            first | done | with_reducible rfl
          try simp only [Act.put, List.setIfInBounds_toArray, List.set_cons_zero, List.set_cons_succ]
          refine wpAnyH_done (by kernel_rfl) ?_ _
          go_wp2_with fail
          go_ret
          exact ⟨rfl, HBB.out.trans ((HBd.out.trans (hS.mono HBd.out.size)).mono HBB.out.size)⟩
      | false =>
        obtain rfl := HE1.out.2 rfl
        cases bb with
        | true =>
          have hs2 := HE2.out.1 rfl
          have hs2b : S2.toList.isEmpty = false := by simpa using hs2
          replace HPB := Lib.hid (HPB.out rfl)
          refine wp_region_any (by kernel_rfl) ?_
          change wpAny _ _ _ _ _ _ _ (World.drew _)
          refine wpAny_of_held (S := fun v => Below wv.heap.size wv v) _ _ _ _ ?_
          have hS : (fun v => Below wv.heap.size wv v) _ := (Below.refl _ wv).drew
          refine wpAnyH_take (i := 0) (oi := ⟨some 78, _, _, _, _, _⟩) (v := ?_) rfl (by kernel_rfl) (by kernel_rfl) (by kernel_rfl) (fun _ _ _ h => h) (Or.inl ⟨by first | rfl | (simp [Region.wanted, yielded]; done) | (simp [Region.wanted, yielded, hs2]; done), ?_⟩) hS ?_
          rotate_left
          · intro wz hSw
            clear hSw
            go_simp
            first | done | with_reducible rfl
          try simp only [Act.put, List.setIfInBounds_toArray, List.set_cons_zero, List.set_cons_succ]
          refine wpAnyH_take (i := 1) (oi := ⟨some 79, _, _, _, _, _⟩) (v := ?_) rfl (by kernel_rfl) (by kernel_rfl) (by kernel_rfl) (fun _ _ _ h => h) (Or.inl ⟨by first | rfl | (simp [Region.wanted, yielded]; done) | (simp [Region.wanted, yielded, hs2]; done), ?_⟩) hS ?_
          rotate_left
          · intro wz hSw
            clear hSw
            go_simp
            first | done | with_reducible rfl
          try simp only [Act.put, List.setIfInBounds_toArray, List.set_cons_zero, List.set_cons_succ]
          refine wpAnyH_take (i := 2) (oi := ⟨some 80, _, _, _, _, _⟩) (v := ?_) rfl (by kernel_rfl) (by kernel_rfl) (by kernel_rfl) (fun _ _ _ h => h) (Or.inl ⟨by first | rfl | (simp [Region.wanted, yielded]; done) | (simp [Region.wanted, yielded, hs2]; done), ?_⟩) hS ?_
          rotate_left
          · intro wz hSw
            clear hSw
            go_simp
            first | done | with_reducible rfl
          try simp only [Act.put, List.setIfInBounds_toArray, List.set_cons_zero, List.set_cons_succ]
          refine wpAnyH_take (i := 3) (oi := ⟨some 81, _, _, _, _, _⟩) (v := ?_) rfl (by kernel_rfl) (by kernel_rfl) (by kernel_rfl) (fun _ _ _ h => h) (Or.inl ⟨by first | rfl | (simp [Region.wanted, yielded]; done) | (simp [Region.wanted, yielded, hs2]; done), ?_⟩) hS ?_
          rotate_left
          · intro wz hSw
            clear hSw
            go_simp
            first | done | with_reducible rfl
          try simp only [Act.put, List.setIfInBounds_toArray, List.set_cons_zero, List.set_cons_succ]
          refine wpAnyH_take (i := 4) (oi := ⟨some 82, _, _, _, _, _⟩) (v := ?_) rfl (by kernel_rfl) (by kernel_rfl) (by kernel_rfl) (fun _ _ _ h => h) (Or.inl ⟨by first | rfl | (simp [Region.wanted, yielded]; done) | (simp [Region.wanted, yielded, hs2]; done), ?_⟩) hS ?_
          rotate_left
          · intro wz hSw; obtain ⟨-, -, -, -, f4, f5, f6⟩ := HF.out _ (HBd.out.trans (hSw.mono HBd.out.size))
            clear hSw
            go_simp
            first | done | with_reducible rfl
          try simp only [Act.put, List.setIfInBounds_toArray, List.set_cons_zero, List.set_cons_succ]
          refine wpAnyH_take (i := 5) (oi := ⟨some 83, _, _, _, _, _⟩) (v := ?_) rfl (by kernel_rfl) (by kernel_rfl) (by kernel_rfl) (fun _ _ _ h => h) (Or.inl ⟨by first | rfl | (simp [Region.wanted, yielded]; done) | (simp [Region.wanted, yielded, hs2]; done), ?_⟩) hS ?_
          rotate_left
          · intro wz hSw
            clear hSw
            go_simp
            first | done | with_reducible rfl
          try simp only [Act.put, List.setIfInBounds_toArray, List.set_cons_zero, List.set_cons_succ]
          refine wpAnyH_take (i := 6) (oi := ⟨some 84, _, _, _, _, _⟩) (v := ?_) rfl (by kernel_rfl) (by kernel_rfl) (by kernel_rfl) (fun _ _ _ h => h) (Or.inl ⟨by first | rfl | (simp [Region.wanted, yielded]; done) | (simp [Region.wanted, yielded, hs2]; done), ?_⟩) hS ?_
          rotate_left
          · intro wz hSw
            clear hSw
            go_simp
            first | done | with_reducible rfl
          try simp only [Act.put, List.setIfInBounds_toArray, List.set_cons_zero, List.set_cons_succ]
          refine wpAnyH_take (i := 7) (oi := ⟨some 85, _, _, _, _, _⟩) (v := ?_) rfl (by kernel_rfl) (by kernel_rfl) (by kernel_rfl) (fun _ _ _ h => h) (Or.inl ⟨by first | rfl | (simp [Region.wanted, yielded]; done) | (simp [Region.wanted, yielded, hs2]; done), ?_⟩) hS ?_
          rotate_left
          · intro wz hSw
            clear hSw
            go_simp
            first | done | with_reducible rfl
          try simp only [Act.put, List.setIfInBounds_toArray, List.set_cons_zero, List.set_cons_succ]
          refine wpAnyH_take (i := 8) (oi := ⟨some 86, _, _, _, _, _⟩) (v := ?_) rfl (by kernel_rfl) (by kernel_rfl) (by kernel_rfl) (fun _ _ _ h => h) (Or.inl ⟨by first | rfl | (simp [Region.wanted, yielded]; done) | (simp [Region.wanted, yielded, hs2]; done), ?_⟩) hS ?_
          rotate_left
          · intro wz hSw
            clear hSw
            go_simp
            first | done | with_reducible rfl
          try simp only [Act.put, List.setIfInBounds_toArray, List.set_cons_zero, List.set_cons_succ]
          refine wpAnyH_take (i := 9) (oi := ⟨some 87, _, _, _, _, _⟩) (v := ?_) rfl (by kernel_rfl) (by kernel_rfl) (by kernel_rfl) (fun _ _ _ h => h) (Or.inl ⟨by first | rfl | (simp [Region.wanted, yielded]; done) | (simp [Region.wanted, yielded, hs2]; done), ?_⟩) hS ?_
          rotate_left
          · intro wz hSw
            clear hSw
            go_simp
            first | done | with_reducible rfl
          try simp only [Act.put, List.setIfInBounds_toArray, List.set_cons_zero, List.set_cons_succ]
          refine wpAnyH_take (i := 10) (oi := ⟨some 88, _, _, _, _, _⟩) (v := ?_) rfl (by kernel_rfl) (by kernel_rfl) (by kernel_rfl) (fun _ _ _ h => h) (Or.inl ⟨by first | rfl | (simp [Region.wanted, yielded]; done) | (simp [Region.wanted, yielded, hs2]; done), ?_⟩) hS ?_
          rotate_left
          · intro wz hSw
            clear hSw
            go_simp
            first | done | with_reducible rfl
          try simp only [Act.put, List.setIfInBounds_toArray, List.set_cons_zero, List.set_cons_succ]
          refine wpAnyH_take (i := 11) (oi := ⟨some 89, _, _, _, _, _⟩) (v := undef) rfl (by kernel_rfl) (by kernel_rfl) (by kernel_rfl) (fun _ _ _ h => h) (Or.inr ⟨by first | rfl | (simp [Region.wanted, yielded]; done) | (simp [Region.wanted, yielded, hs2]; done), rfl⟩) hS ?_
          try simp only [Act.put, List.setIfInBounds_toArray, List.set_cons_zero, List.set_cons_succ]
          refine wpAnyH_take (i := 13) (oi := ⟨some 91, _, _, _, _, _⟩) (v := undef) rfl (by kernel_rfl) (by kernel_rfl) (by kernel_rfl) (fun _ _ _ h => h) (Or.inr ⟨by first | rfl | (simp [Region.wanted, yielded]; done) | (simp [Region.wanted, yielded, hs2]; done), rfl⟩) hS ?_
          try simp only [Act.put, List.setIfInBounds_toArray, List.set_cons_zero, List.set_cons_succ]
          refine wpAnyH_take (i := 14) (oi := ⟨some 92, _, _, _, _, _⟩) (v := undef) rfl (by kernel_rfl) (by kernel_rfl) (by kernel_rfl) (fun _ _ _ h => h) (Or.inr ⟨by first | rfl | (simp [Region.wanted, yielded]; done) | (simp [Region.wanted, yielded, hs2]; done), rfl⟩) hS ?_
          try simp only [Act.put, List.setIfInBounds_toArray, List.set_cons_zero, List.set_cons_succ]
          refine wpAnyH_take (i := 15) (oi := ⟨some 93, _, _, _, _, _⟩) (v := undef) rfl (by kernel_rfl) (by kernel_rfl) (by kernel_rfl) (fun _ _ _ h => h) (Or.inr ⟨by first | rfl | (simp [Region.wanted, yielded]; done) | (simp [Region.wanted, yielded, hs2]; done), rfl⟩) hS ?_
          try simp only [Act.put, List.setIfInBounds_toArray, List.set_cons_zero, List.set_cons_succ]
          refine wpAnyH_take (i := 16) (oi := ⟨some 94, _, _, _, _, _⟩) (v := undef) rfl (by kernel_rfl) (by kernel_rfl) (by kernel_rfl) (fun _ _ _ h => h) (Or.inr ⟨by first | rfl | (simp [Region.wanted, yielded]; done) | (simp [Region.wanted, yielded, hs2]; done), rfl⟩) hS ?_
          try simp only [Act.put, List.setIfInBounds_toArray, List.set_cons_zero, List.set_cons_succ]
          refine wpAnyH_ready (rs := [12]) (by kernel_rfl) (by simp) ?_
          refine AllReadyH.cons (o := ⟨some 90, _, _, _, _, _⟩) rfl (fun K hK => ?_) AllReadyH.nil
          go_simp
          refine hK.out _ _ (hS) (fun hS => ?_)
          clear hK K
          try simp only [Act.put, List.setIfInBounds_toArray, List.set_cons_zero, List.set_cons_succ]
          refine wpAnyH_take (i := 17) (oi := ⟨some 95, _, _, _, _, _⟩) (v := undef) rfl (by kernel_rfl) (by kernel_rfl) (by kernel_rfl) (fun _ _ _ h => h) (Or.inr ⟨by first | rfl | (simp [Region.wanted, yielded]; done) | (simp [Region.wanted, yielded, hs2]; done), rfl⟩) hS ?_
          try simp only [Act.put, List.setIfInBounds_toArray, List.set_cons_zero, List.set_cons_succ]
          refine wpAnyH_take (i := 18) (oi := ⟨some 96, _, _, _, _, _⟩) (v := ?_) rfl (by kernel_rfl) (by kernel_rfl) (by kernel_rfl) (fun _ _ _ h => h) (Or.inl ⟨by first | rfl | (simp [Region.wanted, yielded]; done) | (simp [Region.wanted, yielded, hs2]; done), ?_⟩) hS ?_
          rotate_left
          · intro wz hSw
            clear hSw
            go_simp
            first | done | with_reducible rfl
          try simp only [Act.put, List.setIfInBounds_toArray, List.set_cons_zero, List.set_cons_succ]
          refine wpAnyH_take (i := 19) (oi := ⟨some 97, _, _, _, _, _⟩) (v := ?_) rfl (by kernel_rfl) (by kernel_rfl) (by kernel_rfl) (fun _ _ _ h => h) (Or.inl ⟨by first | rfl | (simp [Region.wanted, yielded]; done) | (simp [Region.wanted, yielded, hs2]; done), ?_⟩) hS ?_
          rotate_left
          · intro wz hSw
            clear hSw
            go_simp
            first | done | with_reducible rfl
          try simp only [Act.put, List.setIfInBounds_toArray, List.set_cons_zero, List.set_cons_succ]
          refine wpAnyH_take (i := 20) (oi := ⟨some 98, _, _, _, _, _⟩) (v := ?_) rfl (by kernel_rfl) (by kernel_rfl) (by kernel_rfl) (fun _ _ _ h => h) (Or.inl ⟨by first | rfl | (simp [Region.wanted, yielded]; done) | (simp [Region.wanted, yielded, hs2]; done), ?_⟩) hS ?_
          rotate_left
          · intro wz hSw
            clear hSw
            go_simp
            first | done | with_reducible rfl
          try simp only [Act.put, List.setIfInBounds_toArray, List.set_cons_zero, List.set_cons_succ]
          refine wpAnyH_take (i := 21) (oi := ⟨some 99, _, _, _, _, _⟩) (v := ?_) rfl (by kernel_rfl) (by kernel_rfl) (by kernel_rfl) (fun _ _ _ h => h) (Or.inl ⟨by first | rfl | (simp [Region.wanted, yielded]; done) | (simp [Region.wanted, yielded, hs2]; done), ?_⟩) hS ?_
          rotate_left
          · intro wz hSw
            clear hSw
            go_simp
            first | done | with_reducible rfl
          try simp only [Act.put, List.setIfInBounds_toArray, List.set_cons_zero, List.set_cons_succ]
          refine wpAnyH_take (i := 22) (oi := ⟨some 100, _, _, _, _, _⟩) (v := ?_) rfl (by kernel_rfl) (by kernel_rfl) (by kernel_rfl) (fun _ _ _ h => h) (Or.inl ⟨by first | rfl | (simp [Region.wanted, yielded]; done) | (simp [Region.wanted, yielded, hs2]; done), ?_⟩) hS ?_
          rotate_left
          · intro wz hSw
            clear hSw
            go_simp
            first | done | with_reducible rfl
          try simp only [Act.put, List.setIfInBounds_toArray, List.set_cons_zero, List.set_cons_succ]
          refine wpAnyH_take (i := 23) (oi := ⟨some 101, _, _, _, _, _⟩) (v := ?_) rfl (by kernel_rfl) (by kernel_rfl) (by kernel_rfl) (fun _ _ _ h => h) (Or.inl ⟨by first | rfl | (simp [Region.wanted, yielded]; done) | (simp [Region.wanted, yielded, hs2]; done), ?_⟩) hS ?_
          rotate_left
          · intro wz hSw
            clear hSw
            go_simp
            first | done | with_reducible rfl
          try simp only [Act.put, List.setIfInBounds_toArray, List.set_cons_zero, List.set_cons_succ]
          refine wpAnyH_take (i := 24) (oi := ⟨some 102, _, _, _, _, _⟩) (v := ?_) rfl (by kernel_rfl) (by kernel_rfl) (by kernel_rfl) (fun _ _ _ h => h) (Or.inl ⟨by first | rfl | (simp [Region.wanted, yielded]; done) | (simp [Region.wanted, yielded, hs2]; done), ?_⟩) hS ?_
          rotate_left
          · intro wz hSw
            clear hSw
            go_simp
            first | done | with_reducible rfl
          try simp only [Act.put, List.setIfInBounds_toArray, List.set_cons_zero, List.set_cons_succ]
          refine wpAnyH_take (i := 25) (oi := ⟨some 103, _, _, _, _, _⟩) (v := ?_) rfl (by kernel_rfl) (by kernel_rfl) (by kernel_rfl) (fun _ _ _ h => h) (Or.inl ⟨by first | rfl | (simp [Region.wanted, yielded]; done) | (simp [Region.wanted, yielded, hs2]; done), ?_⟩) hS ?_
          rotate_left
          · intro wz hSw; obtain ⟨-, -, -, -, f4, f5, f6⟩ := HF.out _ (HBd.out.trans (hSw.mono HBd.out.size))
            clear hSw
            go_simp
            first | done | with_reducible rfl
          try simp only [Act.put, List.setIfInBounds_toArray, List.set_cons_zero, List.set_cons_succ]
          refine wpAnyH_take (i := 26) (oi := ⟨some 104, _, _, _, _, _⟩) (v := ?_) rfl (by kernel_rfl) (by kernel_rfl) (by kernel_rfl) (fun _ _ _ h => h) (Or.inl ⟨by first | rfl | (simp [Region.wanted, yielded]; done) | (simp [Region.wanted, yielded, hs2]; done), ?_⟩) hS ?_
          rotate_left
          · intro wz hSw
            clear hSw
            go_simp
            first | done | with_reducible rfl
          try simp only [Act.put, List.setIfInBounds_toArray, List.set_cons_zero, List.set_cons_succ]
          refine wpAnyH_take (i := 27) (oi := ⟨some 105, _, _, _, _, _⟩) (v := ?_) rfl (by kernel_rfl) (by kernel_rfl) (by kernel_rfl) (fun _ _ _ h => h) (Or.inl ⟨by first | rfl | (simp [Region.wanted, yielded]; done) | (simp [Region.wanted, yielded, hs2]; done), ?_⟩) hS ?_
          rotate_left
          · intro wz hSw
            clear hSw
            go_simp
            first | done | with_reducible rfl
          try simp only [Act.put, List.setIfInBounds_toArray, List.set_cons_zero, List.set_cons_succ]
          refine wpAnyH_take (i := 28) (oi := ⟨some 106, _, _, _, _, _⟩) (v := ?_) rfl (by kernel_rfl) (by kernel_rfl) (by kernel_rfl) (fun _ _ _ h => h) (Or.inl ⟨by first | rfl | (simp [Region.wanted, yielded]; done) | (simp [Region.wanted, yielded, hs2]; done), ?_⟩) hS ?_
          rotate_left
          · intro wz hSw
            clear hSw
            go_simp
            first | done | with_reducible rfl
          try simp only [Act.put, List.setIfInBounds_toArray, List.set_cons_zero, List.set_cons_succ]
          refine wpAnyH_take (i := 29) (oi := ⟨some 107, _, _, _, _, _⟩) (v := ?_) rfl (by kernel_rfl) (by kernel_rfl) (by kernel_rfl) (fun _ _ _ h => h) (Or.inl ⟨by first | rfl | (simp [Region.wanted, yielded]; done) | (simp [Region.wanted, yielded, hs2]; done), ?_⟩) hS ?_
          rotate_left
          · intro wz hSw
            clear hSw
            go_simp
            first | done | with_reducible rfl
          try simp only [Act.put, List.setIfInBounds_toArray, List.set_cons_zero, List.set_cons_succ]
          refine wpAnyH_take (i := 30) (oi := ⟨some 108, _, _, _, _, _⟩) (v := ?_) rfl (by kernel_rfl) (by kernel_rfl) (by kernel_rfl) (fun _ _ _ h => h) (Or.inl ⟨by first | rfl | (simp [Region.wanted, yielded]; done) | (simp [Region.wanted, yielded, hs2]; done), ?_⟩) hS ?_
          rotate_left
          · intro wz hSw
            clear hSw
            go_simp
            first | done | with_reducible rfl
          try simp only [Act.put, List.setIfInBounds_toArray, List.set_cons_zero, List.set_cons_succ]
          refine wpAnyH_take (i := 31) (oi := ⟨some 109, _, _, _, _, _⟩) (v := ?_) rfl (by kernel_rfl) (by kernel_rfl) (by kernel_rfl) (fun _ _ _ h => h) (Or.inl ⟨by first | rfl | (simp [Region.wanted, yielded]; done) | (simp [Region.wanted, yielded, hs2]; done), ?_⟩) hS ?_
          rotate_left
          · intro wz hSw
            clear hSw
            go_simp
            first | done | with_reducible rfl
          try simp only [Act.put, List.setIfInBounds_toArray, List.set_cons_zero, List.set_cons_succ]
          refine wpAnyH_take (i := 32) (oi := ⟨some 110, _, _, _, _, _⟩) (v := ?_) rfl (by kernel_rfl) (by kernel_rfl) (by kernel_rfl) (fun _ _ _ h => h) (Or.inl ⟨by first | rfl | (simp [Region.wanted, yielded]; done) | (simp [Region.wanted, yielded, hs2]; done), ?_⟩) hS ?_
          rotate_left
          · intro wz hSw
            clear hSw
            go_simp
            first | done | with_reducible rfl
          try simp only [Act.put, List.setIfInBounds_toArray, List.set_cons_zero, List.set_cons_succ]
          refine wpAnyH_take (i := 33) (oi := ⟨some 111, _, _, _, _, _⟩) (v := ?_) rfl (by kernel_rfl) (by kernel_rfl) (by kernel_rfl) (fun _ _ _ h => h) (Or.inl ⟨by first | rfl | (simp [Region.wanted, yielded]; done) | (simp [Region.wanted, yielded, hs2]; done), ?_⟩) hS ?_
          rotate_left
          · intro wz hSw; obtain ⟨-, f0, f1, -, -⟩ := HC3.out.tail.head.below hSw
            clear hSw
            go_simp
            first | done | with_reducible rfl
          try simp only [Act.put, List.setIfInBounds_toArray, List.set_cons_zero, List.set_cons_succ]
          refine wpAnyH_take (i := 35) (oi := ⟨some 113, _, _, _, _, _⟩) (v := ?_) rfl (by kernel_rfl) (by kernel_rfl) (by kernel_rfl) (fun _ _ _ h => h) (Or.inl ⟨by first | rfl | (simp [Region.wanted, yielded]; done) | (simp [Region.wanted, yielded, hs2]; done), ?_⟩) hS ?_
          rotate_left
          · intro wz hSw
            clear hSw
            go_simp
            first | done | with_reducible rfl
          try simp only [Act.put, List.setIfInBounds_toArray, List.set_cons_zero, List.set_cons_succ]
          refine wpAnyH_take (i := 36) (oi := ⟨some 114, _, _, _, _, _⟩) (v := ?_) rfl (by kernel_rfl) (by kernel_rfl) (by kernel_rfl) (fun _ _ _ h => h) (Or.inl ⟨by first | rfl | (simp [Region.wanted, yielded]; done) | (simp [Region.wanted, yielded, hs2]; done), ?_⟩) hS ?_
          rotate_left
          · intro wz hSw
            clear hSw
            go_simp
            first | done | with_reducible rfl
          try simp only [Act.put, List.setIfInBounds_toArray, List.set_cons_zero, List.set_cons_succ]
          refine wpAnyH_take (i := 37) (oi := ⟨some 115, _, _, _, _, _⟩) (v := ?_) rfl (by kernel_rfl) (by kernel_rfl) (by kernel_rfl) (fun _ _ _ h => h) (Or.inl ⟨by first | rfl | (simp [Region.wanted, yielded]; done) | (simp [Region.wanted, yielded, hs2]; done), ?_⟩) hS ?_
          rotate_left
          · intro wz hSw
            clear hSw
            go_simp
            first | done | with_reducible rfl
          try simp only [Act.put, List.setIfInBounds_toArray, List.set_cons_zero, List.set_cons_succ]
          refine wpAnyH_take (i := 38) (oi := ⟨some 116, _, _, _, _, _⟩) (v := ?_) rfl (by kernel_rfl) (by kernel_rfl) (by kernel_rfl) (fun _ _ _ h => h) (Or.inl ⟨by first | rfl | (simp [Region.wanted, yielded]; done) | (simp [Region.wanted, yielded, hs2]; done), ?_⟩) hS ?_
          rotate_left
          · intro wz hSw; obtain ⟨-, -, -, -, f4, f5, f6⟩ := HF.out _ (HBd.out.trans (hSw.mono HBd.out.size))
            clear hSw
            go_simp
            first | done | with_reducible rfl
          try simp only [Act.put, List.setIfInBounds_toArray, List.set_cons_zero, List.set_cons_succ]
          refine wpAnyH_ready (rs := [34]) (by kernel_rfl) (by simp) ?_
          refine AllReadyH.cons (o := ⟨some 112, _, _, _, _, _⟩) rfl (fun K hK => ?_) AllReadyH.nil
          go_simp
          (with_reducible refine (HPB.out _ (HX.out.2.below (HBB.out.trans ((HBd.out.trans (hS.mono HBd.out.size)).mono HBB.out.size)))).mono ?_)
          rintro e wn ⟨rfl, hbn⟩
          have hS1 := hS.trans (hbn.mono hS.size)
          clear hbn
          go_wp2_with fail
          refine hK.out _ _ (hS1) (fun hS => ?_)
          clear hK K
          try simp only [Act.put, List.setIfInBounds_toArray, List.set_cons_zero, List.set_cons_succ]
          refine wpAnyH_take (i := 39) (oi := ⟨some 117, _, _, _, _, _⟩) (v := ?_) rfl (by kernel_rfl) (by kernel_rfl) (by kernel_rfl) (fun _ _ _ h => h) (Or.inl ⟨by first | rfl | (simp [Region.wanted, yielded]; done) | (simp [Region.wanted, yielded, hs2]; done), ?_⟩) hS ?_
          rotate_left
          · intro wz hSw
            clear hSw
            go_simp
            first | done | with_reducible rfl
          try simp only [Act.put, List.setIfInBounds_toArray, List.set_cons_zero, List.set_cons_succ]
          refine wpAnyH_take (i := 40) (oi := ⟨some 118, _, _, _, _, _⟩) (v := ?_) rfl (by kernel_rfl) (by kernel_rfl) (by kernel_rfl) (fun _ _ _ h => h) (Or.inl ⟨by first | rfl | (simp [Region.wanted, yielded]; done) | (simp [Region.wanted, yielded, hs2]; done), ?_⟩) hS ?_
          rotate_left
          · intro wz hSw
            clear hSw
            go_simp
            first | done | with_reducible rfl
          try simp only [Act.put, List.setIfInBounds_toArray, List.set_cons_zero, List.set_cons_succ]
          refine wpAnyH_take (i := 41) (oi := ⟨some 119, _, _, _, _, _⟩) (v := ?_) rfl (by kernel_rfl) (by kernel_rfl) (by kernel_rfl) (fun _ _ _ h => h) (Or.inl ⟨by first | rfl | (simp [Region.wanted, yielded]; done) | (simp [Region.wanted, yielded, hs2]; done), ?_⟩) hS ?_
          rotate_left
          · intro wz hSw
            clear hSw
            go_simp
            first | done | with_reducible rfl
          try simp only [Act.put, List.setIfInBounds_toArray, List.set_cons_zero, List.set_cons_succ]
          refine wpAnyH_take (i := 42) (oi := ⟨some 120, _, _, _, _, _⟩) (v := ?_) rfl (by kernel_rfl) (by kernel_rfl) (by kernel_rfl) (fun _ _ _ h => h) (Or.inl ⟨by first | rfl | (simp [Region.wanted, yielded]; done) | (simp [Region.wanted, yielded, hs2]; done), ?_⟩) hS ?_
          rotate_left
          · intro wz hSw
            clear hSw
            go_simp
            first | done | with_reducible rfl
          try simp only [Act.put, List.setIfInBounds_toArray, List.set_cons_zero, List.set_cons_succ]
          refine wpAnyH_take (i := 43) (oi := ⟨some 121, _, _, _, _, _⟩) (v := ?_) rfl (by kernel_rfl) (by kernel_rfl) (by kernel_rfl) (fun _ _ _ h => h) (Or.inl ⟨by first | rfl | (simp [Region.wanted, yielded]; done) | (simp [Region.wanted, yielded, hs2]; done), ?_⟩) hS ?_
          rotate_left
          · intro wz hSw
            clear hSw
            go_simp
            first | done | with_reducible rfl
          try simp only [Act.put, List.setIfInBounds_toArray, List.set_cons_zero, List.set_cons_succ]
          refine wpAnyH_take (i := 44) (oi := ⟨some 122, _, _, _, _, _⟩) (v := ?_) rfl (by kernel_rfl) (by kernel_rfl) (by kernel_rfl) (fun _ _ _ h => h) (Or.inl ⟨by first | rfl | (simp [Region.wanted, yielded]; done) | (simp [Region.wanted, yielded, hs2]; done), ?_⟩) hS ?_
          rotate_left
          · intro wz hSw
            clear hSw
            go_simp
            first | done | with_reducible rfl
          try simp only [Act.put, List.setIfInBounds_toArray, List.set_cons_zero, List.set_cons_succ]
          refine wpAnyH_take (i := 45) (oi := ⟨some 123, _, _, _, _, _⟩) (v := ?_) rfl (by kernel_rfl) (by kernel_rfl) (by kernel_rfl) (fun _ _ _ h => h) (Or.inl ⟨by first | rfl | (simp [Region.wanted, yielded]; done) | (simp [Region.wanted, yielded, hs2]; done), ?_⟩) hS ?_
          rotate_left
          · intro wz hSw
            clear hSw
            go_simp
            first | done | with_reducible rfl
          try simp only [Act.put, List.setIfInBounds_toArray, List.set_cons_zero, List.set_cons_succ]
          refine wpAnyH_take (i := 46) (oi := ⟨some 124, _, _, _, _, _⟩) (v := ?_) rfl (by kernel_rfl) (by kernel_rfl) (by kernel_rfl) (fun _ _ _ h => h) (Or.inl ⟨by first | rfl | (simp [Region.wanted, yielded]; done) | (simp [Region.wanted, yielded, hs2]; done), ?_⟩) hS ?_
          rotate_left
          · intro wz hSw; obtain ⟨-, f0, f1, -, -⟩ := HC3.out.head.below hSw
            clear hSw
            go_simp
            first | done | with_reducible rfl
          try simp only [Act.put, List.setIfInBounds_toArray, List.set_cons_zero, List.set_cons_succ]
          refine wpAnyH_take (i := 48) (oi := ⟨some 126, _, _, _, _, _⟩) (v := ?_) rfl (by kernel_rfl) (by kernel_rfl) (by kernel_rfl) (fun _ _ _ h => h) (Or.inl ⟨by first | rfl | (simp [Region.wanted, yielded]; done) | (simp [Region.wanted, yielded, hs2]; done), ?_⟩) hS ?_
          rotate_left
          · intro wz hSw
            clear hSw
            go_simp
            first | done | with_reducible rfl
          try simp only [Act.put, List.setIfInBounds_toArray, List.set_cons_zero, List.set_cons_succ]
          refine wpAnyH_take (i := 49) (oi := ⟨some 127, _, _, _, _, _⟩) (v := ?_) rfl (by kernel_rfl) (by kernel_rfl) (by kernel_rfl) (fun _ _ _ h => h) (Or.inl ⟨by first | rfl | (simp [Region.wanted, yielded]; done) | (simp [Region.wanted, yielded, hs2]; done), ?_⟩) hS ?_
          rotate_left
          · intro wz hSw
            clear hSw
            go_simp
            first | done | with_reducible rfl
          try simp only [Act.put, List.setIfInBounds_toArray, List.set_cons_zero, List.set_cons_succ]
          refine wpAnyH_take (i := 50) (oi := ⟨some 128, _, _, _, _, _⟩) (v := ?_) rfl (by kernel_rfl) (by kernel_rfl) (by kernel_rfl) (fun _ _ _ h => h) (Or.inl ⟨by first | rfl | (simp [Region.wanted, yielded]; done) | (simp [Region.wanted, yielded, hs2]; done), ?_⟩) hS ?_
          rotate_left
          · intro wz hSw
            clear hSw
            go_simp
            first | done | with_reducible rfl
          try simp only [Act.put, List.setIfInBounds_toArray, List.set_cons_zero, List.set_cons_succ]
          refine wpAnyH_take (i := 51) (oi := ⟨some 129, _, _, _, _, _⟩) (v := ?_) rfl (by kernel_rfl) (by kernel_rfl) (by kernel_rfl) (fun _ _ _ h => h) (Or.inl ⟨by first | rfl | (simp [Region.wanted, yielded]; done) | (simp [Region.wanted, yielded, hs2]; done), ?_⟩) hS ?_
          rotate_left
          · intro wz hSw; obtain ⟨-, -, -, -, f4, f5, f6⟩ := HF.out _ (HBd.out.trans (hSw.mono HBd.out.size))
            clear hSw
            go_simp
            first | done | with_reducible rfl
          try simp only [Act.put, List.setIfInBounds_toArray, List.set_cons_zero, List.set_cons_succ]
          refine wpAnyH_ready (rs := [47]) (by kernel_rfl) (by simp) ?_
          refine AllReadyH.cons (o := ⟨some 125, _, _, _, _, _⟩) rfl (fun K hK => ?_) AllReadyH.nil
          go_simp
          (with_reducible refine (HPC.out _ (HX.out.2.below (HBB.out.trans ((HBd.out.trans (hS.mono HBd.out.size)).mono HBB.out.size)))).mono ?_)
          rintro e wn ⟨rfl, hbn⟩
          have hS1 := hS.trans (hbn.mono hS.size)
          clear hbn
          go_wp2_with fail
          refine hK.out _ _ (hS1) (fun hS => ?_)
          clear hK K
          try simp only [Act.put, List.setIfInBounds_toArray, List.set_cons_zero, List.set_cons_succ]
          refine wpAnyH_take (i := 52) (oi := ⟨some 130, _, _, _, _, _⟩) (v := ?_) rfl (by kernel_rfl) (by kernel_rfl) (by kernel_rfl) (fun _ _ _ h => h) (Or.inl ⟨by first | rfl | (simp [Region.wanted, yielded]; done) | (simp [Region.wanted, yielded, hs2]; done), ?_⟩) hS ?_
          rotate_left
          · intro wz hSw
            clear hSw
            go_simp
            first | done | with_reducible rfl
          try simp only [Act.put, List.setIfInBounds_toArray, List.set_cons_zero, List.set_cons_succ]
          refine wpAnyH_take (i := 53) (oi := ⟨some 131, _, _, _, _, _⟩) (v := ?_) rfl (by kernel_rfl) (by kernel_rfl) (by kernel_rfl) (fun _ _ _ h => h) (Or.inl ⟨by first | rfl | (simp [Region.wanted, yielded]; done) | (simp [Region.wanted, yielded, hs2]; done), ?_⟩) hS ?_
          rotate_left
          · intro wz hSw
            clear hSw
            go_simp
            first | done | with_reducible rfl
          try simp only [Act.put, List.setIfInBounds_toArray, List.set_cons_zero, List.set_cons_succ]
          refine wpAnyH_take (i := 54) (oi := ⟨some 2, _, _, _, _, _⟩) (v := ?_) rfl (by kernel_rfl) (by kernel_rfl) (by kernel_rfl) (fun _ _ _ h => h) (Or.inl ⟨by first | rfl | (simp [Region.wanted, yielded]; done) | (simp [Region.wanted, yielded, hs2]; done), ?_⟩) hS ?_
          rotate_left
          · intro wz hSw
            clear hSw
            go_simp
            first | done | with_reducible rfl
          try simp only [Act.put, List.setIfInBounds_toArray, List.set_cons_zero, List.set_cons_succ]
          refine wpAnyH_done (by kernel_rfl) ?_ _
          go_wp2_with fail
          go_ret
          exact ⟨rfl, HBB.out.trans ((HBd.out.trans (hS.mono HBd.out.size)).mono HBB.out.size)⟩
        | false => exact absurd HTT.out (by decide)
end Go.Proofs.YtodhklapikfpoaaDoor
