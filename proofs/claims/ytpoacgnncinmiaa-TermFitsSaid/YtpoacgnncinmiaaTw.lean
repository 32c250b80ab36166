/- Terms: TermFits. -/
import Derived.Test.YtpoacgnncinmiaaTl
import Derived.Test.YtpoacgnncinmiaaTq
import Derived.Test.YtpoacgnncinmiaaTm
import Derived.Test.YtpoacgnncinmiaaTn
import Derived.Test.YtpoacgnncinmiaaTv
import Derived.Deep.DeepCutAuto
namespace Go.Proofs.Ytpoacgnncinmiaa
open Go.RowKit
set_option maxRecDepth 100000
set_option linter.unusedVariables false

/-- A region that is walked under a stronger condition. -/
theorem wpAnyH_mono {P : Program} {ops : Array Oper} {Q : Exit → Act → World → Prop} {md : Region.Mode} {S S' : World → Prop} (hS : ∀ w, S' w → S w) :
    ∀ (fuel : Nat) (listed : Array Bool) (a : Act) (w : World), wpAnyH P md ops Q S' fuel listed a w → wpAnyH P md ops Q S fuel listed a w
  | 0, _, _, _, h => h
  | fuel + 1, _, _, _, h => ⟨h.1, fun i hi => wpOp_mono (fun a' w' h' => ⟨hS _ h'.1, wpAnyH_mono hS fuel _ a' w' h'.2⟩) (h.2 i hi)⟩

theorem few_of {x : Tm} (hx : x.Ok) (h : fewB x = true) : x.Few := by
  unfold fewB at h
  simp at h
  exact ⟨hx.k, h.1.1, h.1.2, h.2⟩
theorem Tm.Good.ok {g : Tm} (hgd : g.Good) : g.Ok := by
  refine ⟨?_, by have := hgd.s; unfold maxLen; omega, by have := hgd.l; unfold maxLen; omega, by have := hgd.t; unfold maxLen; omega⟩
  rcases hgd.k with ⟨h, -⟩ | ⟨h, -⟩ | ⟨h, -⟩ <;> rw [h] <;> decide
theorem Box.new (W : World) (g : Tm) : Box (W.alloc (.cells #[.int .i64 g.k, .string g.s, .string g.l, .string g.t] 23)) W.heap.size g := by
  refine ⟨?_, ?_, ?_, ?_⟩ <;> simp
/-- A triple in a block that may be written. -/
def TriM (W : World) (b : Nat) (x y z : Tm) : Prop := Tri W b x y z ∧ ∀ i, W.frozen? ⟨b, i, none⟩ = false
theorem TriM.below {W W' : World} {b : Nat} {x y z : Tm} (h : TriM W b x y z) (hb : Below W.heap.size W W') : TriM W' b x y z :=
  ⟨h.1.below hb, fun i => (hb.frozen (p := ⟨b, i, none⟩) h.1.lt).trans (h.2 i)⟩
theorem TriM.new (W : World) : TriM (W.alloc (.cells #[.int .i64 0, .string ⟨#[]⟩, .string ⟨#[]⟩, .string ⟨#[]⟩, .int .i64 0, .string ⟨#[]⟩, .string ⟨#[]⟩, .string ⟨#[]⟩, .int .i64 0, .string ⟨#[]⟩, .string ⟨#[]⟩, .string ⟨#[]⟩] 47)) W.heap.size ⟨0, ⟨#[]⟩, ⟨#[]⟩, ⟨#[]⟩⟩ ⟨0, ⟨#[]⟩, ⟨#[]⟩, ⟨#[]⟩⟩ ⟨0, ⟨#[]⟩, ⟨#[]⟩, ⟨#[]⟩⟩ := by
  refine ⟨?_, fun i => ?_⟩
  · unfold Tri; simp
  · simp
theorem TriM.set {W : World} {p : Nat} {a b c : Tm} (h : TriM W p a b c) (x y z : Tm) : TriM ((((((((((((W.setCell ⟨p, 0, none⟩ (.int .i64 x.k)).setCell ⟨p, 1, none⟩ (.string x.s)).setCell ⟨p, 2, none⟩ (.string x.l)).setCell ⟨p, 3, none⟩ (.string x.t)).setCell ⟨p, 4, none⟩ (.int .i64 y.k)).setCell ⟨p, 5, none⟩ (.string y.s)).setCell ⟨p, 6, none⟩ (.string y.l)).setCell ⟨p, 7, none⟩ (.string y.t)).setCell ⟨p, 8, none⟩ (.int .i64 z.k)).setCell ⟨p, 9, none⟩ (.string z.s)).setCell ⟨p, 10, none⟩ (.string z.l)).setCell ⟨p, 11, none⟩ (.string z.t)) p x y z := by
  obtain ⟨⟨c0, c1, c2, c3, c4, c5, c6, c7, c8, c9, c10, c11⟩, hf⟩ := h
  refine ⟨⟨?_, ?_, ?_, ?_, ?_, ?_, ?_, ?_, ?_, ?_, ?_, ?_⟩, fun i => ?_⟩
  · rw [cell_of_set (cell_of_set (cell_of_set (cell_of_set (cell_of_set (cell_of_set (cell_of_set (cell_of_set (cell_of_set (cell_of_set (cell_of_set (cell_of_set c0)))))))))))]; simp
  · rw [cell_of_set (cell_of_set (cell_of_set (cell_of_set (cell_of_set (cell_of_set (cell_of_set (cell_of_set (cell_of_set (cell_of_set (cell_of_set (cell_of_set c1)))))))))))]; simp
  · rw [cell_of_set (cell_of_set (cell_of_set (cell_of_set (cell_of_set (cell_of_set (cell_of_set (cell_of_set (cell_of_set (cell_of_set (cell_of_set (cell_of_set c2)))))))))))]; simp
  · rw [cell_of_set (cell_of_set (cell_of_set (cell_of_set (cell_of_set (cell_of_set (cell_of_set (cell_of_set (cell_of_set (cell_of_set (cell_of_set (cell_of_set c3)))))))))))]; simp
  · rw [cell_of_set (cell_of_set (cell_of_set (cell_of_set (cell_of_set (cell_of_set (cell_of_set (cell_of_set (cell_of_set (cell_of_set (cell_of_set (cell_of_set c4)))))))))))]; simp
  · rw [cell_of_set (cell_of_set (cell_of_set (cell_of_set (cell_of_set (cell_of_set (cell_of_set (cell_of_set (cell_of_set (cell_of_set (cell_of_set (cell_of_set c5)))))))))))]; simp
  · rw [cell_of_set (cell_of_set (cell_of_set (cell_of_set (cell_of_set (cell_of_set (cell_of_set (cell_of_set (cell_of_set (cell_of_set (cell_of_set (cell_of_set c6)))))))))))]; simp
  · rw [cell_of_set (cell_of_set (cell_of_set (cell_of_set (cell_of_set (cell_of_set (cell_of_set (cell_of_set (cell_of_set (cell_of_set (cell_of_set (cell_of_set c7)))))))))))]; simp
  · rw [cell_of_set (cell_of_set (cell_of_set (cell_of_set (cell_of_set (cell_of_set (cell_of_set (cell_of_set (cell_of_set (cell_of_set (cell_of_set (cell_of_set c8)))))))))))]; simp
  · rw [cell_of_set (cell_of_set (cell_of_set (cell_of_set (cell_of_set (cell_of_set (cell_of_set (cell_of_set (cell_of_set (cell_of_set (cell_of_set (cell_of_set c9)))))))))))]; simp
  · rw [cell_of_set (cell_of_set (cell_of_set (cell_of_set (cell_of_set (cell_of_set (cell_of_set (cell_of_set (cell_of_set (cell_of_set (cell_of_set (cell_of_set c10)))))))))))]; simp
  · rw [cell_of_set (cell_of_set (cell_of_set (cell_of_set (cell_of_set (cell_of_set (cell_of_set (cell_of_set (cell_of_set (cell_of_set (cell_of_set (cell_of_set c11)))))))))))]; simp
  · rw [World.frozen?_setCell, World.frozen?_setCell, World.frozen?_setCell, World.frozen?_setCell, World.frozen?_setCell, World.frozen?_setCell, World.frozen?_setCell, World.frozen?_setCell, World.frozen?_setCell, World.frozen?_setCell, World.frozen?_setCell, World.frozen?_setCell]; exact hf i
theorem TriM.setOther {W : World} {p q : Nat} {g : Tm} (x y z : Tm) (h : Box W q g) (hne : p ≠ q) : Box ((((((((((((W.setCell ⟨p, 0, none⟩ (.int .i64 x.k)).setCell ⟨p, 1, none⟩ (.string x.s)).setCell ⟨p, 2, none⟩ (.string x.l)).setCell ⟨p, 3, none⟩ (.string x.t)).setCell ⟨p, 4, none⟩ (.int .i64 y.k)).setCell ⟨p, 5, none⟩ (.string y.s)).setCell ⟨p, 6, none⟩ (.string y.l)).setCell ⟨p, 7, none⟩ (.string y.t)).setCell ⟨p, 8, none⟩ (.int .i64 z.k)).setCell ⟨p, 9, none⟩ (.string z.s)).setCell ⟨p, 10, none⟩ (.string z.l)).setCell ⟨p, 11, none⟩ (.string z.t)) q g := by
  obtain ⟨c0, c1, c2, c3⟩ := h
  refine ⟨?_, ?_, ?_, ?_⟩
  · rw [cell_of_set (cell_of_set (cell_of_set (cell_of_set (cell_of_set (cell_of_set (cell_of_set (cell_of_set (cell_of_set (cell_of_set (cell_of_set (cell_of_set c0)))))))))))]; simp
  · rw [cell_of_set (cell_of_set (cell_of_set (cell_of_set (cell_of_set (cell_of_set (cell_of_set (cell_of_set (cell_of_set (cell_of_set (cell_of_set (cell_of_set c1)))))))))))]; simp
  · rw [cell_of_set (cell_of_set (cell_of_set (cell_of_set (cell_of_set (cell_of_set (cell_of_set (cell_of_set (cell_of_set (cell_of_set (cell_of_set (cell_of_set c2)))))))))))]; simp
  · rw [cell_of_set (cell_of_set (cell_of_set (cell_of_set (cell_of_set (cell_of_set (cell_of_set (cell_of_set (cell_of_set (cell_of_set (cell_of_set (cell_of_set c3)))))))))))]; simp
theorem TriM.setBelow {W : World} {p B : Nat} (x y z : Tm) (hB : B ≤ p) : Below B W ((((((((((((W.setCell ⟨p, 0, none⟩ (.int .i64 x.k)).setCell ⟨p, 1, none⟩ (.string x.s)).setCell ⟨p, 2, none⟩ (.string x.l)).setCell ⟨p, 3, none⟩ (.string x.t)).setCell ⟨p, 4, none⟩ (.int .i64 y.k)).setCell ⟨p, 5, none⟩ (.string y.s)).setCell ⟨p, 6, none⟩ (.string y.l)).setCell ⟨p, 7, none⟩ (.string y.t)).setCell ⟨p, 8, none⟩ (.int .i64 z.k)).setCell ⟨p, 9, none⟩ (.string z.s)).setCell ⟨p, 10, none⟩ (.string z.l)).setCell ⟨p, 11, none⟩ (.string z.t)) :=
  ((((((((((((Below.refl _ _).setCell (by show B ≤ p; omega) _).setCell (by show B ≤ p; omega) _).setCell (by show B ≤ p; omega) _).setCell (by show B ≤ p; omega) _).setCell (by show B ≤ p; omega) _).setCell (by show B ≤ p; omega) _).setCell (by show B ≤ p; omega) _).setCell (by show B ≤ p; omega) _).setCell (by show B ≤ p; omega) _).setCell (by show B ≤ p; omega) _).setCell (by show B ≤ p; omega) _).setCell (by show B ≤ p; omega) _
theorem TriM.set0 {W : World} {p : Nat} {a b c : Tm} (h : TriM W p a b c) (x : Tm) : TriM ((((W.setCell ⟨p, 0, none⟩ (.int .i64 x.k)).setCell ⟨p, 1, none⟩ (.string x.s)).setCell ⟨p, 2, none⟩ (.string x.l)).setCell ⟨p, 3, none⟩ (.string x.t)) p x b c := by
  obtain ⟨⟨c0, c1, c2, c3, c4, c5, c6, c7, c8, c9, c10, c11⟩, hf⟩ := h
  refine ⟨⟨?_, ?_, ?_, ?_, ?_, ?_, ?_, ?_, ?_, ?_, ?_, ?_⟩, fun i => ?_⟩
  · rw [cell_of_set (cell_of_set (cell_of_set (cell_of_set c0)))]; simp
  · rw [cell_of_set (cell_of_set (cell_of_set (cell_of_set c1)))]; simp
  · rw [cell_of_set (cell_of_set (cell_of_set (cell_of_set c2)))]; simp
  · rw [cell_of_set (cell_of_set (cell_of_set (cell_of_set c3)))]; simp
  · rw [cell_of_set (cell_of_set (cell_of_set (cell_of_set c4)))]; simp
  · rw [cell_of_set (cell_of_set (cell_of_set (cell_of_set c5)))]; simp
  · rw [cell_of_set (cell_of_set (cell_of_set (cell_of_set c6)))]; simp
  · rw [cell_of_set (cell_of_set (cell_of_set (cell_of_set c7)))]; simp
  · rw [cell_of_set (cell_of_set (cell_of_set (cell_of_set c8)))]; simp
  · rw [cell_of_set (cell_of_set (cell_of_set (cell_of_set c9)))]; simp
  · rw [cell_of_set (cell_of_set (cell_of_set (cell_of_set c10)))]; simp
  · rw [cell_of_set (cell_of_set (cell_of_set (cell_of_set c11)))]; simp
  · rw [World.frozen?_setCell, World.frozen?_setCell, World.frozen?_setCell, World.frozen?_setCell]; exact hf i
theorem TriM.set0Other {W : World} {p q : Nat} {g : Tm} (x : Tm) (h : Box W q g) (hne : p ≠ q) : Box ((((W.setCell ⟨p, 0, none⟩ (.int .i64 x.k)).setCell ⟨p, 1, none⟩ (.string x.s)).setCell ⟨p, 2, none⟩ (.string x.l)).setCell ⟨p, 3, none⟩ (.string x.t)) q g := by
  obtain ⟨c0, c1, c2, c3⟩ := h
  refine ⟨?_, ?_, ?_, ?_⟩
  · rw [cell_of_set (cell_of_set (cell_of_set (cell_of_set c0)))]; simp
  · rw [cell_of_set (cell_of_set (cell_of_set (cell_of_set c1)))]; simp
  · rw [cell_of_set (cell_of_set (cell_of_set (cell_of_set c2)))]; simp
  · rw [cell_of_set (cell_of_set (cell_of_set (cell_of_set c3)))]; simp
theorem TriM.set0Below {W : World} {p B : Nat} (x : Tm) (hB : B ≤ p) : Below B W ((((W.setCell ⟨p, 0, none⟩ (.int .i64 x.k)).setCell ⟨p, 1, none⟩ (.string x.s)).setCell ⟨p, 2, none⟩ (.string x.l)).setCell ⟨p, 3, none⟩ (.string x.t)) :=
  ((((Below.refl _ _).setCell (by show B ≤ p; omega) _).setCell (by show B ≤ p; omega) _).setCell (by show B ≤ p; omega) _).setCell (by show B ≤ p; omega) _
theorem TriM.set1 {W : World} {p : Nat} {a b c : Tm} (h : TriM W p a b c) (x : Tm) : TriM ((((W.setCell ⟨p, 4, none⟩ (.int .i64 x.k)).setCell ⟨p, 5, none⟩ (.string x.s)).setCell ⟨p, 6, none⟩ (.string x.l)).setCell ⟨p, 7, none⟩ (.string x.t)) p a x c := by
  obtain ⟨⟨c0, c1, c2, c3, c4, c5, c6, c7, c8, c9, c10, c11⟩, hf⟩ := h
  refine ⟨⟨?_, ?_, ?_, ?_, ?_, ?_, ?_, ?_, ?_, ?_, ?_, ?_⟩, fun i => ?_⟩
  · rw [cell_of_set (cell_of_set (cell_of_set (cell_of_set c0)))]; simp
  · rw [cell_of_set (cell_of_set (cell_of_set (cell_of_set c1)))]; simp
  · rw [cell_of_set (cell_of_set (cell_of_set (cell_of_set c2)))]; simp
  · rw [cell_of_set (cell_of_set (cell_of_set (cell_of_set c3)))]; simp
  · rw [cell_of_set (cell_of_set (cell_of_set (cell_of_set c4)))]; simp
  · rw [cell_of_set (cell_of_set (cell_of_set (cell_of_set c5)))]; simp
  · rw [cell_of_set (cell_of_set (cell_of_set (cell_of_set c6)))]; simp
  · rw [cell_of_set (cell_of_set (cell_of_set (cell_of_set c7)))]; simp
  · rw [cell_of_set (cell_of_set (cell_of_set (cell_of_set c8)))]; simp
  · rw [cell_of_set (cell_of_set (cell_of_set (cell_of_set c9)))]; simp
  · rw [cell_of_set (cell_of_set (cell_of_set (cell_of_set c10)))]; simp
  · rw [cell_of_set (cell_of_set (cell_of_set (cell_of_set c11)))]; simp
  · rw [World.frozen?_setCell, World.frozen?_setCell, World.frozen?_setCell, World.frozen?_setCell]; exact hf i
theorem TriM.set1Other {W : World} {p q : Nat} {g : Tm} (x : Tm) (h : Box W q g) (hne : p ≠ q) : Box ((((W.setCell ⟨p, 4, none⟩ (.int .i64 x.k)).setCell ⟨p, 5, none⟩ (.string x.s)).setCell ⟨p, 6, none⟩ (.string x.l)).setCell ⟨p, 7, none⟩ (.string x.t)) q g := by
  obtain ⟨c0, c1, c2, c3⟩ := h
  refine ⟨?_, ?_, ?_, ?_⟩
  · rw [cell_of_set (cell_of_set (cell_of_set (cell_of_set c0)))]; simp
  · rw [cell_of_set (cell_of_set (cell_of_set (cell_of_set c1)))]; simp
  · rw [cell_of_set (cell_of_set (cell_of_set (cell_of_set c2)))]; simp
  · rw [cell_of_set (cell_of_set (cell_of_set (cell_of_set c3)))]; simp
theorem TriM.set1Below {W : World} {p B : Nat} (x : Tm) (hB : B ≤ p) : Below B W ((((W.setCell ⟨p, 4, none⟩ (.int .i64 x.k)).setCell ⟨p, 5, none⟩ (.string x.s)).setCell ⟨p, 6, none⟩ (.string x.l)).setCell ⟨p, 7, none⟩ (.string x.t)) :=
  ((((Below.refl _ _).setCell (by show B ≤ p; omega) _).setCell (by show B ≤ p; omega) _).setCell (by show B ≤ p; omega) _).setCell (by show B ≤ p; omega) _
theorem TriM.set2 {W : World} {p : Nat} {a b c : Tm} (h : TriM W p a b c) (x : Tm) : TriM ((((W.setCell ⟨p, 8, none⟩ (.int .i64 x.k)).setCell ⟨p, 9, none⟩ (.string x.s)).setCell ⟨p, 10, none⟩ (.string x.l)).setCell ⟨p, 11, none⟩ (.string x.t)) p a b x := by
  obtain ⟨⟨c0, c1, c2, c3, c4, c5, c6, c7, c8, c9, c10, c11⟩, hf⟩ := h
  refine ⟨⟨?_, ?_, ?_, ?_, ?_, ?_, ?_, ?_, ?_, ?_, ?_, ?_⟩, fun i => ?_⟩
  · rw [cell_of_set (cell_of_set (cell_of_set (cell_of_set c0)))]; simp
  · rw [cell_of_set (cell_of_set (cell_of_set (cell_of_set c1)))]; simp
  · rw [cell_of_set (cell_of_set (cell_of_set (cell_of_set c2)))]; simp
  · rw [cell_of_set (cell_of_set (cell_of_set (cell_of_set c3)))]; simp
  · rw [cell_of_set (cell_of_set (cell_of_set (cell_of_set c4)))]; simp
  · rw [cell_of_set (cell_of_set (cell_of_set (cell_of_set c5)))]; simp
  · rw [cell_of_set (cell_of_set (cell_of_set (cell_of_set c6)))]; simp
  · rw [cell_of_set (cell_of_set (cell_of_set (cell_of_set c7)))]; simp
  · rw [cell_of_set (cell_of_set (cell_of_set (cell_of_set c8)))]; simp
  · rw [cell_of_set (cell_of_set (cell_of_set (cell_of_set c9)))]; simp
  · rw [cell_of_set (cell_of_set (cell_of_set (cell_of_set c10)))]; simp
  · rw [cell_of_set (cell_of_set (cell_of_set (cell_of_set c11)))]; simp
  · rw [World.frozen?_setCell, World.frozen?_setCell, World.frozen?_setCell, World.frozen?_setCell]; exact hf i
theorem TriM.set2Other {W : World} {p q : Nat} {g : Tm} (x : Tm) (h : Box W q g) (hne : p ≠ q) : Box ((((W.setCell ⟨p, 8, none⟩ (.int .i64 x.k)).setCell ⟨p, 9, none⟩ (.string x.s)).setCell ⟨p, 10, none⟩ (.string x.l)).setCell ⟨p, 11, none⟩ (.string x.t)) q g := by
  obtain ⟨c0, c1, c2, c3⟩ := h
  refine ⟨?_, ?_, ?_, ?_⟩
  · rw [cell_of_set (cell_of_set (cell_of_set (cell_of_set c0)))]; simp
  · rw [cell_of_set (cell_of_set (cell_of_set (cell_of_set c1)))]; simp
  · rw [cell_of_set (cell_of_set (cell_of_set (cell_of_set c2)))]; simp
  · rw [cell_of_set (cell_of_set (cell_of_set (cell_of_set c3)))]; simp
theorem TriM.set2Below {W : World} {p B : Nat} (x : Tm) (hB : B ≤ p) : Below B W ((((W.setCell ⟨p, 8, none⟩ (.int .i64 x.k)).setCell ⟨p, 9, none⟩ (.string x.s)).setCell ⟨p, 10, none⟩ (.string x.l)).setCell ⟨p, 11, none⟩ (.string x.t)) :=
  ((((Below.refl _ _).setCell (by show B ≤ p; omega) _).setCell (by show B ≤ p; omega) _).setCell (by show B ≤ p; omega) _).setCell (by show B ≤ p; omega) _
set_option maxHeartbeats 16000000 in
theorem fits_walk (x y z : Tm) (raw : Bool) (hx : x.Ok) (hy : y.Ok) (hz : z.Ok) (w : World) :
    Calls Try.prog 7 #[x.val, y.val, z.val, .bool raw] w fun e w' => e = .returned (.bool true) ∧ Below w.heap.size w w' := by
  have hfx := few_any x
  have hgx := good_any x
  have hox := (good_good x).ok
  have HGX := Lib.hid fun h => hgx (few_of hx h)
  clear hgx
  generalize goodT x = gx at *
  have HOX := Lib.hid hox
  clear hox
  have hfy := few_any y
  have hgy := good_any y
  have hoy := (good_good y).ok
  have HGY := Lib.hid fun h => hgy (few_of hy h)
  clear hgy
  generalize goodT y = gy at *
  have HOY := Lib.hid hoy
  clear hoy
  have hfz := few_any z
  have hgz := good_any z
  have hoz := (good_good z).ok
  have HGZ := Lib.hid fun h => hgz (few_of hz h)
  clear hgz
  generalize goodT z = gz at *
  have HOZ := Lib.hid hoz
  clear hoz
  have HOx := Lib.hid hx
  have hsz : x.s.size ≤ maxLen := hx.s
  clear hx hy hz
  generalize fewB x = fx at *
  generalize fewB y = fy at *
  generalize fewB z = fz at *
  obtain ⟨k, s, l, t⟩ := x
  obtain ⟨k2, s2, l2, t2⟩ := y
  obtain ⟨k3, s3, l3, t3⟩ := z
  obtain ⟨gk, gs, gl, gt⟩ := gx
  obtain ⟨hk, hs', hl, ht⟩ := gy
  obtain ⟨jk, js, jl, jt⟩ := gz
  unfold Tm.val at hfx hfy hfz HGX HGY HGZ ⊢
  dsimp only at hfx hfy hfz HGX HGY HGZ hsz ⊢
  have HFX := Lib.hid hfx
  have HFY := Lib.hid hfy
  have HFZ := Lib.hid hfz
  clear hfx hfy hfz
  obtain ⟨W, hW⟩ : ∃ W, W = ((w.alloc (.cells #[.int .i64 k, .string s, .string l, .string t] 23)).alloc (.cells #[.int .i64 k2, .string s2, .string l2, .string t2] 23)).alloc (.cells #[.int .i64 k3, .string s3, .string l3, .string t3] 23) := ⟨_, rfl⟩
  have hA : (fun w' : World => Box w' w.heap.size ⟨k, s, l, t⟩ ∧ Box w' (w.heap.size + 1) ⟨k2, s2, l2, t2⟩ ∧ Box w' (w.heap.size + 1 + 1) ⟨k3, s3, l3, t3⟩ ∧ Below w.heap.size w w') W := by
    subst hW
    have b1 := Box.new w ⟨k, s, l, t⟩
    have b2 := Box.new (w.alloc (.cells #[.int .i64 k, .string s, .string l, .string t] 23)) ⟨k2, s2, l2, t2⟩
    have b3 := Box.new ((w.alloc (.cells #[.int .i64 k, .string s, .string l, .string t] 23)).alloc (.cells #[.int .i64 k2, .string s2, .string l2, .string t2] 23)) ⟨k3, s3, l3, t3⟩
    rw [show (w.alloc (.cells #[.int .i64 k, .string s, .string l, .string t] 23)).heap.size = w.heap.size + 1 from by simp] at b2
    rw [show ((w.alloc (.cells #[.int .i64 k, .string s, .string l, .string t] 23)).alloc (.cells #[.int .i64 k2, .string s2, .string l2, .string t2] 23)).heap.size = w.heap.size + 1 + 1 from by simp] at b3
    exact ⟨(b1.below ((Below.refl _ _).alloc (Nat.le_refl _) _)).below ((Below.refl _ _).alloc (Nat.le_refl _) _), b2.below ((Below.refl _ _).alloc (Nat.le_refl _) _), b3, (((Below.refl _ _).alloc (Nat.le_refl _) _).alloc (by simp) _).alloc (by simp; omega) _⟩
  have HA := Lib.hid hA
  have HW := Lib.hid hW
  clear hA hW
  go_enter Try.func7, Try.ntmps7
  go_wp2_with fail
  simp only [← HW.out]
  refine (known_any W).mono ?_
  rintro e w1 ⟨rfl, hb⟩
  have HB := Lib.hid (show (fun w' : World => Box w' w.heap.size ⟨k, s, l, t⟩ ∧ Box w' (w.heap.size + 1) ⟨k2, s2, l2, t2⟩ ∧ Box w' (w.heap.size + 1 + 1) ⟨k3, s3, l3, t3⟩ ∧ Below w.heap.size w w') w1 from ⟨HA.out.1.below hb, HA.out.2.1.below hb, HA.out.2.2.1.below hb, HA.out.2.2.2.trans (hb.mono HA.out.2.2.2.size)⟩)
  clear hb HA HW
  have HA := HB
  clear HB
  obtain ⟨c0, c1, c2, c3⟩ := HA.out.1
  dsimp only at c0 c1 c2 c3
  go_wp2_with fail
  refine (HFX.out _).mono ?_
  rintro e w2 ⟨rfl, hb⟩
  have HB := Lib.hid (show (fun w' : World => Box w' w.heap.size ⟨k, s, l, t⟩ ∧ Box w' (w.heap.size + 1) ⟨k2, s2, l2, t2⟩ ∧ Box w' (w.heap.size + 1 + 1) ⟨k3, s3, l3, t3⟩ ∧ Below w.heap.size w w') w2 from ⟨HA.out.1.below hb, HA.out.2.1.below hb, HA.out.2.2.1.below hb, HA.out.2.2.2.trans (hb.mono HA.out.2.2.2.size)⟩)
  clear hb HA c0 c1 c2 c3
  have HA := HB
  clear HB
  cases fx with
  | false =>
    go_wp2_with fail
    go_ret
    exact ⟨rfl, HA.out.2.2.2⟩
  | true =>
  obtain ⟨c0, c1, c2, c3⟩ := HA.out.2.1
  dsimp only at c0 c1 c2 c3
  go_wp2_with fail
  refine (HFY.out _).mono ?_
  rintro e w3 ⟨rfl, hb⟩
  have HB := Lib.hid (show (fun w' : World => Box w' w.heap.size ⟨k, s, l, t⟩ ∧ Box w' (w.heap.size + 1) ⟨k2, s2, l2, t2⟩ ∧ Box w' (w.heap.size + 1 + 1) ⟨k3, s3, l3, t3⟩ ∧ Below w.heap.size w w') w3 from ⟨HA.out.1.below hb, HA.out.2.1.below hb, HA.out.2.2.1.below hb, HA.out.2.2.2.trans (hb.mono HA.out.2.2.2.size)⟩)
  clear hb HA c0 c1 c2 c3
  have HA := HB
  clear HB
  cases fy with
  | false =>
    go_wp2_with fail
    go_ret
    exact ⟨rfl, HA.out.2.2.2⟩
  | true =>
  obtain ⟨c0, c1, c2, c3⟩ := HA.out.2.2.1
  dsimp only at c0 c1 c2 c3
  go_wp2_with fail
  refine (HFZ.out _).mono ?_
  rintro e w4 ⟨rfl, hb⟩
  have HB := Lib.hid (show (fun w' : World => Box w' w.heap.size ⟨k, s, l, t⟩ ∧ Box w' (w.heap.size + 1) ⟨k2, s2, l2, t2⟩ ∧ Box w' (w.heap.size + 1 + 1) ⟨k3, s3, l3, t3⟩ ∧ Below w.heap.size w w') w4 from ⟨HA.out.1.below hb, HA.out.2.1.below hb, HA.out.2.2.1.below hb, HA.out.2.2.2.trans (hb.mono HA.out.2.2.2.size)⟩)
  clear hb HA c0 c1 c2 c3
  have HA := HB
  clear HB
  cases fz with
  | false =>
    go_wp2_with fail
    go_ret
    exact ⟨rfl, HA.out.2.2.2⟩
  | true =>
  replace HGX := Lib.hid (HGX.out (by trivial))
  replace HGY := Lib.hid (HGY.out (by trivial))
  replace HGZ := Lib.hid (HGZ.out (by trivial))
  go_upto_region 5 with fail
  go_cut [9] (fun s9 wx => ∃ p : Nat, s9 = .pointer (some ⟨p, 0, none⟩) ∧ TriM wx p ⟨gk, gs, gl, gt⟩ ⟨hk, hs', hl, ht⟩ ⟨jk, js, jl, jt⟩ ∧ w.heap.size + 3 ≤ p ∧ (fun w' : World => Box w' w.heap.size ⟨k, s, l, t⟩ ∧ Box w' (w.heap.size + 1) ⟨k2, s2, l2, t2⟩ ∧ Box w' (w.heap.size + 1 + 1) ⟨k3, s3, l3, t3⟩ ∧ Below w.heap.size w w') wx)
  case first =>
    obtain ⟨V0, hV0⟩ : ∃ V0, V0 = w4.drew := ⟨_, rfl⟩
    have hS : (fun w' : World => Box w' w.heap.size ⟨k, s, l, t⟩ ∧ Box w' (w.heap.size + 1) ⟨k2, s2, l2, t2⟩ ∧ Box w' (w.heap.size + 1 + 1) ⟨k3, s3, l3, t3⟩ ∧ Below w.heap.size w w') V0 := by subst hV0; exact ⟨HA.out.1, HA.out.2.1, HA.out.2.2.1, HA.out.2.2.2.drew⟩
    refine wp_region_any (by kernel_rfl) ?_
    change wpAny _ _ _ _ _ _ _ (World.drew _)
    rw [← hV0]
    clear hV0
    refine wpAny_of_held (S := fun w' : World => Box w' w.heap.size ⟨k, s, l, t⟩ ∧ Box w' (w.heap.size + 1) ⟨k2, s2, l2, t2⟩ ∧ Box w' (w.heap.size + 1 + 1) ⟨k3, s3, l3, t3⟩ ∧ Below w.heap.size w w') _ _ _ _ ?_
    try simp only [Act.put, List.setIfInBounds_toArray, List.set_cons_zero, List.set_cons_succ]
    refine wpAnyH_take (i := 0) (oi := ⟨some 25, _, _, _, _, _⟩) (v := ?_) rfl (by kernel_rfl) (by kernel_rfl) (by kernel_rfl) (fun _ _ _ h => h) (Or.inl ⟨by simp only [Region.wanted], ?_⟩) hS ?_
    rotate_left
    · intro wz hSw; obtain ⟨⟨c0, c1, c2, c3⟩, ⟨d0, d1, d2, d3⟩, ⟨e0, e1, e2, e3⟩, -⟩ := hSw
      (try dsimp only at hSw)
      (try go_split_ands)
      go_simp
      first | done | with_reducible rfl
    try simp only [Act.put, List.setIfInBounds_toArray, List.set_cons_zero, List.set_cons_succ]
    refine wpAnyH_take (i := 2) (oi := ⟨some 27, _, _, _, _, _⟩) (v := ?_) rfl (by kernel_rfl) (by kernel_rfl) (by kernel_rfl) (fun _ _ _ h => h) (Or.inl ⟨by simp only [Region.wanted], ?_⟩) hS ?_
    rotate_left
    · intro wz hSw; obtain ⟨⟨c0, c1, c2, c3⟩, ⟨d0, d1, d2, d3⟩, ⟨e0, e1, e2, e3⟩, -⟩ := hSw
      (try dsimp only at hSw)
      (try go_split_ands)
      go_simp
      first | done | with_reducible rfl
    try simp only [Act.put, List.setIfInBounds_toArray, List.set_cons_zero, List.set_cons_succ]
    refine wpAnyH_take (i := 4) (oi := ⟨some 29, _, _, _, _, _⟩) (v := ?_) rfl (by kernel_rfl) (by kernel_rfl) (by kernel_rfl) (fun _ _ _ h => h) (Or.inl ⟨by simp only [Region.wanted], ?_⟩) hS ?_
    rotate_left
    · intro wz hSw; obtain ⟨⟨c0, c1, c2, c3⟩, ⟨d0, d1, d2, d3⟩, ⟨e0, e1, e2, e3⟩, -⟩ := hSw
      (try dsimp only at hSw)
      (try go_split_ands)
      go_simp
      first | done | with_reducible rfl
    try simp only [Act.put, List.setIfInBounds_toArray, List.set_cons_zero, List.set_cons_succ]
    refine wpAnyH_ready (rs := [1, 7]) (by kernel_rfl) (by simp) ?_
    refine AllReadyH.cons (o := ⟨some 26, _, _, _, _, _⟩) rfl (fun K hK => ?_) (AllReadyH.cons (o := ⟨some 9, _, _, _, _, _⟩) rfl (fun K hK => ?_) (AllReadyH.nil))
    · go_simp
      refine (HGX.out V0).mono ?_
      rintro e V1 ⟨rfl, hb⟩
      go_simp
      have hs : (fun w' : World => Box w' w.heap.size ⟨k, s, l, t⟩ ∧ Box w' (w.heap.size + 1) ⟨k2, s2, l2, t2⟩ ∧ Box w' (w.heap.size + 1 + 1) ⟨k3, s3, l3, t3⟩ ∧ Below w.heap.size w w') V1 := ⟨hS.1.below hb, hS.2.1.below hb, hS.2.2.1.below hb, hS.2.2.2.trans (hb.mono hS.2.2.2.size)⟩
      clear hb
      refine hK.out _ _ hs (fun hS => ?_)
      clear hK K hs
      try simp only [Act.put, List.setIfInBounds_toArray, List.set_cons_zero, List.set_cons_succ]
      refine wpAnyH_ready (rs := [3, 7]) (by kernel_rfl) (by simp) ?_
      refine AllReadyH.cons (o := ⟨some 28, _, _, _, _, _⟩) rfl (fun K hK => ?_) (AllReadyH.cons (o := ⟨some 9, _, _, _, _, _⟩) rfl (fun K hK => ?_) (AllReadyH.nil))
      · go_simp
        refine (HGY.out V1).mono ?_
        rintro e V2 ⟨rfl, hb⟩
        go_simp
        have hs : (fun w' : World => Box w' w.heap.size ⟨k, s, l, t⟩ ∧ Box w' (w.heap.size + 1) ⟨k2, s2, l2, t2⟩ ∧ Box w' (w.heap.size + 1 + 1) ⟨k3, s3, l3, t3⟩ ∧ Below w.heap.size w w') V2 := ⟨hS.1.below hb, hS.2.1.below hb, hS.2.2.1.below hb, hS.2.2.2.trans (hb.mono hS.2.2.2.size)⟩
        clear hb
        refine hK.out _ _ hs (fun hS => ?_)
        clear hK K hs
        try simp only [Act.put, List.setIfInBounds_toArray, List.set_cons_zero, List.set_cons_succ]
        refine wpAnyH_ready (rs := [5, 7]) (by kernel_rfl) (by simp) ?_
        refine AllReadyH.cons (o := ⟨some 30, _, _, _, _, _⟩) rfl (fun K hK => ?_) (AllReadyH.cons (o := ⟨some 9, _, _, _, _, _⟩) rfl (fun K hK => ?_) (AllReadyH.nil))
        · go_simp
          refine (HGZ.out V2).mono ?_
          rintro e V3 ⟨rfl, hb⟩
          go_simp
          have hs : (fun w' : World => Box w' w.heap.size ⟨k, s, l, t⟩ ∧ Box w' (w.heap.size + 1) ⟨k2, s2, l2, t2⟩ ∧ Box w' (w.heap.size + 1 + 1) ⟨k3, s3, l3, t3⟩ ∧ Below w.heap.size w w') V3 := ⟨hS.1.below hb, hS.2.1.below hb, hS.2.2.1.below hb, hS.2.2.2.trans (hb.mono hS.2.2.2.size)⟩
          clear hb
          refine hK.out _ _ hs (fun hS => ?_)
          clear hK K hs
          try simp only [Act.put, List.setIfInBounds_toArray, List.set_cons_zero, List.set_cons_succ]
          refine wpAnyH_take (i := 6) (oi := ⟨some 31, _, _, _, _, _⟩) (v := ?_) rfl (by kernel_rfl) (by kernel_rfl) (by kernel_rfl) (fun _ _ _ h => h) (Or.inl ⟨by simp only [Region.wanted], ?_⟩) hS ?_
          rotate_left
          · intro wz hSw
            clear hSw
            go_simp
            first | done | with_reducible rfl
          try simp only [Act.put, List.setIfInBounds_toArray, List.set_cons_zero, List.set_cons_succ]
          refine wpAnyH_ready (rs := [7]) (by kernel_rfl) (by simp) ?_
          refine AllReadyH.cons (o := ⟨some 9, _, _, _, _, _⟩) rfl (fun K hK => ?_) (AllReadyH.nil)
          · go_simp
            have hb : Below V3.heap.size V3 (V3.alloc (.cells #[.int .i64 0, .string ⟨#[]⟩, .string ⟨#[]⟩, .string ⟨#[]⟩, .int .i64 0, .string ⟨#[]⟩, .string ⟨#[]⟩, .string ⟨#[]⟩, .int .i64 0, .string ⟨#[]⟩, .string ⟨#[]⟩, .string ⟨#[]⟩] 47)) := (Below.refl _ _).alloc (Nat.le_refl _) _
            have hm : TriM (V3.alloc (.cells #[.int .i64 0, .string ⟨#[]⟩, .string ⟨#[]⟩, .string ⟨#[]⟩, .int .i64 0, .string ⟨#[]⟩, .string ⟨#[]⟩, .string ⟨#[]⟩, .int .i64 0, .string ⟨#[]⟩, .string ⟨#[]⟩, .string ⟨#[]⟩] 47)) V3.heap.size ⟨0, ⟨#[]⟩, ⟨#[]⟩, ⟨#[]⟩⟩ ⟨0, ⟨#[]⟩, ⟨#[]⟩, ⟨#[]⟩⟩ ⟨0, ⟨#[]⟩, ⟨#[]⟩, ⟨#[]⟩⟩ := TriM.new V3
            have hs : (fun w' : World => Box w' w.heap.size ⟨k, s, l, t⟩ ∧ Box w' (w.heap.size + 1) ⟨k2, s2, l2, t2⟩ ∧ Box w' (w.heap.size + 1 + 1) ⟨k3, s3, l3, t3⟩ ∧ Below w.heap.size w w') (V3.alloc (.cells #[.int .i64 0, .string ⟨#[]⟩, .string ⟨#[]⟩, .string ⟨#[]⟩, .int .i64 0, .string ⟨#[]⟩, .string ⟨#[]⟩, .string ⟨#[]⟩, .int .i64 0, .string ⟨#[]⟩, .string ⟨#[]⟩, .string ⟨#[]⟩] 47)) := ⟨hS.1.below hb, hS.2.1.below hb, hS.2.2.1.below hb, hS.2.2.2.trans (hb.mono hS.2.2.2.size)⟩
            have hlt2 : w.heap.size + 3 ≤ V3.heap.size := by have := hS.2.2.1.lt; omega
            generalize V3.alloc _ = V4 at hb hm hs ⊢
            generalize V3.heap.size = p at hm hlt2 ⊢
            have HP := Lib.hid (And.intro hm hlt2)
            clear hm hlt2 hb
            refine hK.out _ _ hs (fun hS => ?_)
            clear hK K hs
            try simp only [Act.put, List.setIfInBounds_toArray, List.set_cons_zero, List.set_cons_succ]
            obtain ⟨⟨p0, p1, p2, p3, p4, p5, p6, p7, p8, p9, p10, p11⟩, hfz⟩ := HP.out.1
            dsimp only at p0 p1 p2 p3 p4 p5 p6 p7 p8 p9 p10 p11
            refine wpAnyH_ready (rs := [8]) (by kernel_rfl) (by simp) ?_
            refine AllReadyH.cons (o := ⟨none, _, _, _, _, _⟩) rfl (fun K hK => ?_) AllReadyH.nil
            go_simp
            clear p0 p1 p2 p3 p4 p5 p6 p7 p8 p9 p10 p11 hfz
            have hm := HP.out.1.set ⟨gk, gs, gl, gt⟩ ⟨hk, hs', hl, ht⟩ ⟨jk, js, jl, jt⟩
            have hb := TriM.setBelow (W := V4) (p := p) (B := w.heap.size) ⟨gk, gs, gl, gt⟩ ⟨hk, hs', hl, ht⟩ ⟨jk, js, jl, jt⟩ (by have := HP.out.2; omega)
            have g1 := TriM.setOther (p := p) ⟨gk, gs, gl, gt⟩ ⟨hk, hs', hl, ht⟩ ⟨jk, js, jl, jt⟩ hS.1 (by have := HP.out.2; omega)
            have g2 := TriM.setOther (p := p) ⟨gk, gs, gl, gt⟩ ⟨hk, hs', hl, ht⟩ ⟨jk, js, jl, jt⟩ hS.2.1 (by have := HP.out.2; omega)
            have g3 := TriM.setOther (p := p) ⟨gk, gs, gl, gt⟩ ⟨hk, hs', hl, ht⟩ ⟨jk, js, jl, jt⟩ hS.2.2.1 (by have := HP.out.2; omega)
            have g4 := hS.2.2.2.trans hb
            dsimp only at hm hb g1 g2 g3 g4
            generalize World.setCell (World.setCell (World.setCell (World.setCell (World.setCell (World.setCell (World.setCell (World.setCell (World.setCell (World.setCell (World.setCell (World.setCell (V4) _ _) _ _) _ _) _ _) _ _) _ _) _ _) _ _) _ _) _ _) _ _) _ _ = U at hm hb g1 g2 g3 g4 ⊢
            refine hK.out _ _ ⟨g1, g2, g3, g4⟩ (fun hS => ?_)
            clear hK K
            try simp only [Act.put, List.setIfInBounds_toArray, List.set_cons_zero, List.set_cons_succ]
            refine wpAnyH_done (by kernel_rfl) ?_ _
            go_wp2_with fail
            go_meet
            exact ⟨p, rfl, hm, HP.out.2, hS⟩
        · go_simp
          have hb : Below V2.heap.size V2 (V2.alloc (.cells #[.int .i64 0, .string ⟨#[]⟩, .string ⟨#[]⟩, .string ⟨#[]⟩, .int .i64 0, .string ⟨#[]⟩, .string ⟨#[]⟩, .string ⟨#[]⟩, .int .i64 0, .string ⟨#[]⟩, .string ⟨#[]⟩, .string ⟨#[]⟩] 47)) := (Below.refl _ _).alloc (Nat.le_refl _) _
          have hm : TriM (V2.alloc (.cells #[.int .i64 0, .string ⟨#[]⟩, .string ⟨#[]⟩, .string ⟨#[]⟩, .int .i64 0, .string ⟨#[]⟩, .string ⟨#[]⟩, .string ⟨#[]⟩, .int .i64 0, .string ⟨#[]⟩, .string ⟨#[]⟩, .string ⟨#[]⟩] 47)) V2.heap.size ⟨0, ⟨#[]⟩, ⟨#[]⟩, ⟨#[]⟩⟩ ⟨0, ⟨#[]⟩, ⟨#[]⟩, ⟨#[]⟩⟩ ⟨0, ⟨#[]⟩, ⟨#[]⟩, ⟨#[]⟩⟩ := TriM.new V2
          have hs : (fun w' : World => Box w' w.heap.size ⟨k, s, l, t⟩ ∧ Box w' (w.heap.size + 1) ⟨k2, s2, l2, t2⟩ ∧ Box w' (w.heap.size + 1 + 1) ⟨k3, s3, l3, t3⟩ ∧ Below w.heap.size w w') (V2.alloc (.cells #[.int .i64 0, .string ⟨#[]⟩, .string ⟨#[]⟩, .string ⟨#[]⟩, .int .i64 0, .string ⟨#[]⟩, .string ⟨#[]⟩, .string ⟨#[]⟩, .int .i64 0, .string ⟨#[]⟩, .string ⟨#[]⟩, .string ⟨#[]⟩] 47)) := ⟨hS.1.below hb, hS.2.1.below hb, hS.2.2.1.below hb, hS.2.2.2.trans (hb.mono hS.2.2.2.size)⟩
          have hlt2 : w.heap.size + 3 ≤ V2.heap.size := by have := hS.2.2.1.lt; omega
          generalize V2.alloc _ = V3 at hb hm hs ⊢
          generalize V2.heap.size = p at hm hlt2 ⊢
          have HP := Lib.hid (And.intro hm hlt2)
          clear hm hlt2 hb
          refine hK.out _ _ hs (fun hS => ?_)
          clear hK K hs
          try simp only [Act.put, List.setIfInBounds_toArray, List.set_cons_zero, List.set_cons_succ]
          refine wpAnyH_ready (rs := [5]) (by kernel_rfl) (by simp) ?_
          refine AllReadyH.cons (o := ⟨some 30, _, _, _, _, _⟩) rfl (fun K hK => ?_) (AllReadyH.nil)
          · go_simp
            refine (HGZ.out V3).mono ?_
            rintro e V4 ⟨rfl, hb⟩
            go_simp
            have hs : (fun w' : World => Box w' w.heap.size ⟨k, s, l, t⟩ ∧ Box w' (w.heap.size + 1) ⟨k2, s2, l2, t2⟩ ∧ Box w' (w.heap.size + 1 + 1) ⟨k3, s3, l3, t3⟩ ∧ Below w.heap.size w w') V4 := ⟨hS.1.below hb, hS.2.1.below hb, hS.2.2.1.below hb, hS.2.2.2.trans (hb.mono hS.2.2.2.size)⟩
            have HP2 := Lib.hid (And.intro (HP.out.1.below hb) HP.out.2)
            clear HP
            have HP := HP2
            clear HP2
            clear hb
            refine hK.out _ _ hs (fun hS => ?_)
            clear hK K hs
            try simp only [Act.put, List.setIfInBounds_toArray, List.set_cons_zero, List.set_cons_succ]
            refine wpAnyH_take (i := 6) (oi := ⟨some 31, _, _, _, _, _⟩) (v := ?_) rfl (by kernel_rfl) (by kernel_rfl) (by kernel_rfl) (fun _ _ _ h => h) (Or.inl ⟨by simp only [Region.wanted], ?_⟩) hS ?_
            rotate_left
            · intro wz hSw
              clear hSw
              go_simp
              first | done | with_reducible rfl
            try simp only [Act.put, List.setIfInBounds_toArray, List.set_cons_zero, List.set_cons_succ]
            obtain ⟨⟨p0, p1, p2, p3, p4, p5, p6, p7, p8, p9, p10, p11⟩, hfz⟩ := HP.out.1
            dsimp only at p0 p1 p2 p3 p4 p5 p6 p7 p8 p9 p10 p11
            refine wpAnyH_ready (rs := [8]) (by kernel_rfl) (by simp) ?_
            refine AllReadyH.cons (o := ⟨none, _, _, _, _, _⟩) rfl (fun K hK => ?_) AllReadyH.nil
            go_simp
            clear p0 p1 p2 p3 p4 p5 p6 p7 p8 p9 p10 p11 hfz
            have hm := HP.out.1.set ⟨gk, gs, gl, gt⟩ ⟨hk, hs', hl, ht⟩ ⟨jk, js, jl, jt⟩
            have hb := TriM.setBelow (W := V4) (p := p) (B := w.heap.size) ⟨gk, gs, gl, gt⟩ ⟨hk, hs', hl, ht⟩ ⟨jk, js, jl, jt⟩ (by have := HP.out.2; omega)
            have g1 := TriM.setOther (p := p) ⟨gk, gs, gl, gt⟩ ⟨hk, hs', hl, ht⟩ ⟨jk, js, jl, jt⟩ hS.1 (by have := HP.out.2; omega)
            have g2 := TriM.setOther (p := p) ⟨gk, gs, gl, gt⟩ ⟨hk, hs', hl, ht⟩ ⟨jk, js, jl, jt⟩ hS.2.1 (by have := HP.out.2; omega)
            have g3 := TriM.setOther (p := p) ⟨gk, gs, gl, gt⟩ ⟨hk, hs', hl, ht⟩ ⟨jk, js, jl, jt⟩ hS.2.2.1 (by have := HP.out.2; omega)
            have g4 := hS.2.2.2.trans hb
            dsimp only at hm hb g1 g2 g3 g4
            generalize World.setCell (World.setCell (World.setCell (World.setCell (World.setCell (World.setCell (World.setCell (World.setCell (World.setCell (World.setCell (World.setCell (World.setCell (V4) _ _) _ _) _ _) _ _) _ _) _ _) _ _) _ _) _ _) _ _) _ _) _ _ = U at hm hb g1 g2 g3 g4 ⊢
            refine hK.out _ _ ⟨g1, g2, g3, g4⟩ (fun hS => ?_)
            clear hK K
            try simp only [Act.put, List.setIfInBounds_toArray, List.set_cons_zero, List.set_cons_succ]
            refine wpAnyH_done (by kernel_rfl) ?_ _
            go_wp2_with fail
            go_meet
            exact ⟨p, rfl, hm, HP.out.2, hS⟩
      · go_simp
        have hb : Below V1.heap.size V1 (V1.alloc (.cells #[.int .i64 0, .string ⟨#[]⟩, .string ⟨#[]⟩, .string ⟨#[]⟩, .int .i64 0, .string ⟨#[]⟩, .string ⟨#[]⟩, .string ⟨#[]⟩, .int .i64 0, .string ⟨#[]⟩, .string ⟨#[]⟩, .string ⟨#[]⟩] 47)) := (Below.refl _ _).alloc (Nat.le_refl _) _
        have hm : TriM (V1.alloc (.cells #[.int .i64 0, .string ⟨#[]⟩, .string ⟨#[]⟩, .string ⟨#[]⟩, .int .i64 0, .string ⟨#[]⟩, .string ⟨#[]⟩, .string ⟨#[]⟩, .int .i64 0, .string ⟨#[]⟩, .string ⟨#[]⟩, .string ⟨#[]⟩] 47)) V1.heap.size ⟨0, ⟨#[]⟩, ⟨#[]⟩, ⟨#[]⟩⟩ ⟨0, ⟨#[]⟩, ⟨#[]⟩, ⟨#[]⟩⟩ ⟨0, ⟨#[]⟩, ⟨#[]⟩, ⟨#[]⟩⟩ := TriM.new V1
        have hs : (fun w' : World => Box w' w.heap.size ⟨k, s, l, t⟩ ∧ Box w' (w.heap.size + 1) ⟨k2, s2, l2, t2⟩ ∧ Box w' (w.heap.size + 1 + 1) ⟨k3, s3, l3, t3⟩ ∧ Below w.heap.size w w') (V1.alloc (.cells #[.int .i64 0, .string ⟨#[]⟩, .string ⟨#[]⟩, .string ⟨#[]⟩, .int .i64 0, .string ⟨#[]⟩, .string ⟨#[]⟩, .string ⟨#[]⟩, .int .i64 0, .string ⟨#[]⟩, .string ⟨#[]⟩, .string ⟨#[]⟩] 47)) := ⟨hS.1.below hb, hS.2.1.below hb, hS.2.2.1.below hb, hS.2.2.2.trans (hb.mono hS.2.2.2.size)⟩
        have hlt2 : w.heap.size + 3 ≤ V1.heap.size := by have := hS.2.2.1.lt; omega
        generalize V1.alloc _ = V2 at hb hm hs ⊢
        generalize V1.heap.size = p at hm hlt2 ⊢
        have HP := Lib.hid (And.intro hm hlt2)
        clear hm hlt2 hb
        refine hK.out _ _ hs (fun hS => ?_)
        clear hK K hs
        try simp only [Act.put, List.setIfInBounds_toArray, List.set_cons_zero, List.set_cons_succ]
        refine wpAnyH_ready (rs := [3]) (by kernel_rfl) (by simp) ?_
        refine AllReadyH.cons (o := ⟨some 28, _, _, _, _, _⟩) rfl (fun K hK => ?_) (AllReadyH.nil)
        · go_simp
          refine (HGY.out V2).mono ?_
          rintro e V3 ⟨rfl, hb⟩
          go_simp
          have hs : (fun w' : World => Box w' w.heap.size ⟨k, s, l, t⟩ ∧ Box w' (w.heap.size + 1) ⟨k2, s2, l2, t2⟩ ∧ Box w' (w.heap.size + 1 + 1) ⟨k3, s3, l3, t3⟩ ∧ Below w.heap.size w w') V3 := ⟨hS.1.below hb, hS.2.1.below hb, hS.2.2.1.below hb, hS.2.2.2.trans (hb.mono hS.2.2.2.size)⟩
          have HP2 := Lib.hid (And.intro (HP.out.1.below hb) HP.out.2)
          clear HP
          have HP := HP2
          clear HP2
          clear hb
          refine hK.out _ _ hs (fun hS => ?_)
          clear hK K hs
          try simp only [Act.put, List.setIfInBounds_toArray, List.set_cons_zero, List.set_cons_succ]
          refine wpAnyH_ready (rs := [5]) (by kernel_rfl) (by simp) ?_
          refine AllReadyH.cons (o := ⟨some 30, _, _, _, _, _⟩) rfl (fun K hK => ?_) (AllReadyH.nil)
          · go_simp
            refine (HGZ.out V3).mono ?_
            rintro e V4 ⟨rfl, hb⟩
            go_simp
            have hs : (fun w' : World => Box w' w.heap.size ⟨k, s, l, t⟩ ∧ Box w' (w.heap.size + 1) ⟨k2, s2, l2, t2⟩ ∧ Box w' (w.heap.size + 1 + 1) ⟨k3, s3, l3, t3⟩ ∧ Below w.heap.size w w') V4 := ⟨hS.1.below hb, hS.2.1.below hb, hS.2.2.1.below hb, hS.2.2.2.trans (hb.mono hS.2.2.2.size)⟩
            have HP2 := Lib.hid (And.intro (HP.out.1.below hb) HP.out.2)
            clear HP
            have HP := HP2
            clear HP2
            clear hb
            refine hK.out _ _ hs (fun hS => ?_)
            clear hK K hs
            try simp only [Act.put, List.setIfInBounds_toArray, List.set_cons_zero, List.set_cons_succ]
            refine wpAnyH_take (i := 6) (oi := ⟨some 31, _, _, _, _, _⟩) (v := ?_) rfl (by kernel_rfl) (by kernel_rfl) (by kernel_rfl) (fun _ _ _ h => h) (Or.inl ⟨by simp only [Region.wanted], ?_⟩) hS ?_
            rotate_left
            · intro wz hSw
              clear hSw
              go_simp
              first | done | with_reducible rfl
            try simp only [Act.put, List.setIfInBounds_toArray, List.set_cons_zero, List.set_cons_succ]
            obtain ⟨⟨p0, p1, p2, p3, p4, p5, p6, p7, p8, p9, p10, p11⟩, hfz⟩ := HP.out.1
            dsimp only at p0 p1 p2 p3 p4 p5 p6 p7 p8 p9 p10 p11
            refine wpAnyH_ready (rs := [8]) (by kernel_rfl) (by simp) ?_
            refine AllReadyH.cons (o := ⟨none, _, _, _, _, _⟩) rfl (fun K hK => ?_) AllReadyH.nil
            go_simp
            clear p0 p1 p2 p3 p4 p5 p6 p7 p8 p9 p10 p11 hfz
            have hm := HP.out.1.set ⟨gk, gs, gl, gt⟩ ⟨hk, hs', hl, ht⟩ ⟨jk, js, jl, jt⟩
            have hb := TriM.setBelow (W := V4) (p := p) (B := w.heap.size) ⟨gk, gs, gl, gt⟩ ⟨hk, hs', hl, ht⟩ ⟨jk, js, jl, jt⟩ (by have := HP.out.2; omega)
            have g1 := TriM.setOther (p := p) ⟨gk, gs, gl, gt⟩ ⟨hk, hs', hl, ht⟩ ⟨jk, js, jl, jt⟩ hS.1 (by have := HP.out.2; omega)
            have g2 := TriM.setOther (p := p) ⟨gk, gs, gl, gt⟩ ⟨hk, hs', hl, ht⟩ ⟨jk, js, jl, jt⟩ hS.2.1 (by have := HP.out.2; omega)
            have g3 := TriM.setOther (p := p) ⟨gk, gs, gl, gt⟩ ⟨hk, hs', hl, ht⟩ ⟨jk, js, jl, jt⟩ hS.2.2.1 (by have := HP.out.2; omega)
            have g4 := hS.2.2.2.trans hb
            dsimp only at hm hb g1 g2 g3 g4
            generalize World.setCell (World.setCell (World.setCell (World.setCell (World.setCell (World.setCell (World.setCell (World.setCell (World.setCell (World.setCell (World.setCell (World.setCell (V4) _ _) _ _) _ _) _ _) _ _) _ _) _ _) _ _) _ _) _ _) _ _) _ _ = U at hm hb g1 g2 g3 g4 ⊢
            refine hK.out _ _ ⟨g1, g2, g3, g4⟩ (fun hS => ?_)
            clear hK K
            try simp only [Act.put, List.setIfInBounds_toArray, List.set_cons_zero, List.set_cons_succ]
            refine wpAnyH_done (by kernel_rfl) ?_ _
            go_wp2_with fail
            go_meet
            exact ⟨p, rfl, hm, HP.out.2, hS⟩
    · go_simp
      have hb : Below V0.heap.size V0 (V0.alloc (.cells #[.int .i64 0, .string ⟨#[]⟩, .string ⟨#[]⟩, .string ⟨#[]⟩, .int .i64 0, .string ⟨#[]⟩, .string ⟨#[]⟩, .string ⟨#[]⟩, .int .i64 0, .string ⟨#[]⟩, .string ⟨#[]⟩, .string ⟨#[]⟩] 47)) := (Below.refl _ _).alloc (Nat.le_refl _) _
      have hm : TriM (V0.alloc (.cells #[.int .i64 0, .string ⟨#[]⟩, .string ⟨#[]⟩, .string ⟨#[]⟩, .int .i64 0, .string ⟨#[]⟩, .string ⟨#[]⟩, .string ⟨#[]⟩, .int .i64 0, .string ⟨#[]⟩, .string ⟨#[]⟩, .string ⟨#[]⟩] 47)) V0.heap.size ⟨0, ⟨#[]⟩, ⟨#[]⟩, ⟨#[]⟩⟩ ⟨0, ⟨#[]⟩, ⟨#[]⟩, ⟨#[]⟩⟩ ⟨0, ⟨#[]⟩, ⟨#[]⟩, ⟨#[]⟩⟩ := TriM.new V0
      have hs : (fun w' : World => Box w' w.heap.size ⟨k, s, l, t⟩ ∧ Box w' (w.heap.size + 1) ⟨k2, s2, l2, t2⟩ ∧ Box w' (w.heap.size + 1 + 1) ⟨k3, s3, l3, t3⟩ ∧ Below w.heap.size w w') (V0.alloc (.cells #[.int .i64 0, .string ⟨#[]⟩, .string ⟨#[]⟩, .string ⟨#[]⟩, .int .i64 0, .string ⟨#[]⟩, .string ⟨#[]⟩, .string ⟨#[]⟩, .int .i64 0, .string ⟨#[]⟩, .string ⟨#[]⟩, .string ⟨#[]⟩] 47)) := ⟨hS.1.below hb, hS.2.1.below hb, hS.2.2.1.below hb, hS.2.2.2.trans (hb.mono hS.2.2.2.size)⟩
      have hlt2 : w.heap.size + 3 ≤ V0.heap.size := by have := hS.2.2.1.lt; omega
      generalize V0.alloc _ = V1 at hb hm hs ⊢
      generalize V0.heap.size = p at hm hlt2 ⊢
      have HP := Lib.hid (And.intro hm hlt2)
      clear hm hlt2 hb
      refine hK.out _ _ hs (fun hS => ?_)
      clear hK K hs
      try simp only [Act.put, List.setIfInBounds_toArray, List.set_cons_zero, List.set_cons_succ]
      refine wpAnyH_ready (rs := [1]) (by kernel_rfl) (by simp) ?_
      refine AllReadyH.cons (o := ⟨some 26, _, _, _, _, _⟩) rfl (fun K hK => ?_) (AllReadyH.nil)
      · go_simp
        refine (HGX.out V1).mono ?_
        rintro e V2 ⟨rfl, hb⟩
        go_simp
        have hs : (fun w' : World => Box w' w.heap.size ⟨k, s, l, t⟩ ∧ Box w' (w.heap.size + 1) ⟨k2, s2, l2, t2⟩ ∧ Box w' (w.heap.size + 1 + 1) ⟨k3, s3, l3, t3⟩ ∧ Below w.heap.size w w') V2 := ⟨hS.1.below hb, hS.2.1.below hb, hS.2.2.1.below hb, hS.2.2.2.trans (hb.mono hS.2.2.2.size)⟩
        have HP2 := Lib.hid (And.intro (HP.out.1.below hb) HP.out.2)
        clear HP
        have HP := HP2
        clear HP2
        clear hb
        refine hK.out _ _ hs (fun hS => ?_)
        clear hK K hs
        try simp only [Act.put, List.setIfInBounds_toArray, List.set_cons_zero, List.set_cons_succ]
        refine wpAnyH_ready (rs := [3]) (by kernel_rfl) (by simp) ?_
        refine AllReadyH.cons (o := ⟨some 28, _, _, _, _, _⟩) rfl (fun K hK => ?_) (AllReadyH.nil)
        · go_simp
          refine (HGY.out V2).mono ?_
          rintro e V3 ⟨rfl, hb⟩
          go_simp
          have hs : (fun w' : World => Box w' w.heap.size ⟨k, s, l, t⟩ ∧ Box w' (w.heap.size + 1) ⟨k2, s2, l2, t2⟩ ∧ Box w' (w.heap.size + 1 + 1) ⟨k3, s3, l3, t3⟩ ∧ Below w.heap.size w w') V3 := ⟨hS.1.below hb, hS.2.1.below hb, hS.2.2.1.below hb, hS.2.2.2.trans (hb.mono hS.2.2.2.size)⟩
          have HP2 := Lib.hid (And.intro (HP.out.1.below hb) HP.out.2)
          clear HP
          have HP := HP2
          clear HP2
          clear hb
          refine hK.out _ _ hs (fun hS => ?_)
          clear hK K hs
          try simp only [Act.put, List.setIfInBounds_toArray, List.set_cons_zero, List.set_cons_succ]
          refine wpAnyH_ready (rs := [5]) (by kernel_rfl) (by simp) ?_
          refine AllReadyH.cons (o := ⟨some 30, _, _, _, _, _⟩) rfl (fun K hK => ?_) (AllReadyH.nil)
          · go_simp
            refine (HGZ.out V3).mono ?_
            rintro e V4 ⟨rfl, hb⟩
            go_simp
            have hs : (fun w' : World => Box w' w.heap.size ⟨k, s, l, t⟩ ∧ Box w' (w.heap.size + 1) ⟨k2, s2, l2, t2⟩ ∧ Box w' (w.heap.size + 1 + 1) ⟨k3, s3, l3, t3⟩ ∧ Below w.heap.size w w') V4 := ⟨hS.1.below hb, hS.2.1.below hb, hS.2.2.1.below hb, hS.2.2.2.trans (hb.mono hS.2.2.2.size)⟩
            have HP2 := Lib.hid (And.intro (HP.out.1.below hb) HP.out.2)
            clear HP
            have HP := HP2
            clear HP2
            clear hb
            refine hK.out _ _ hs (fun hS => ?_)
            clear hK K hs
            try simp only [Act.put, List.setIfInBounds_toArray, List.set_cons_zero, List.set_cons_succ]
            refine wpAnyH_take (i := 6) (oi := ⟨some 31, _, _, _, _, _⟩) (v := ?_) rfl (by kernel_rfl) (by kernel_rfl) (by kernel_rfl) (fun _ _ _ h => h) (Or.inl ⟨by simp only [Region.wanted], ?_⟩) hS ?_
            rotate_left
            · intro wz hSw
              clear hSw
              go_simp
              first | done | with_reducible rfl
            try simp only [Act.put, List.setIfInBounds_toArray, List.set_cons_zero, List.set_cons_succ]
            obtain ⟨⟨p0, p1, p2, p3, p4, p5, p6, p7, p8, p9, p10, p11⟩, hfz⟩ := HP.out.1
            dsimp only at p0 p1 p2 p3 p4 p5 p6 p7 p8 p9 p10 p11
            refine wpAnyH_ready (rs := [8]) (by kernel_rfl) (by simp) ?_
            refine AllReadyH.cons (o := ⟨none, _, _, _, _, _⟩) rfl (fun K hK => ?_) AllReadyH.nil
            go_simp
            clear p0 p1 p2 p3 p4 p5 p6 p7 p8 p9 p10 p11 hfz
            have hm := HP.out.1.set ⟨gk, gs, gl, gt⟩ ⟨hk, hs', hl, ht⟩ ⟨jk, js, jl, jt⟩
            have hb := TriM.setBelow (W := V4) (p := p) (B := w.heap.size) ⟨gk, gs, gl, gt⟩ ⟨hk, hs', hl, ht⟩ ⟨jk, js, jl, jt⟩ (by have := HP.out.2; omega)
            have g1 := TriM.setOther (p := p) ⟨gk, gs, gl, gt⟩ ⟨hk, hs', hl, ht⟩ ⟨jk, js, jl, jt⟩ hS.1 (by have := HP.out.2; omega)
            have g2 := TriM.setOther (p := p) ⟨gk, gs, gl, gt⟩ ⟨hk, hs', hl, ht⟩ ⟨jk, js, jl, jt⟩ hS.2.1 (by have := HP.out.2; omega)
            have g3 := TriM.setOther (p := p) ⟨gk, gs, gl, gt⟩ ⟨hk, hs', hl, ht⟩ ⟨jk, js, jl, jt⟩ hS.2.2.1 (by have := HP.out.2; omega)
            have g4 := hS.2.2.2.trans hb
            dsimp only at hm hb g1 g2 g3 g4
            generalize World.setCell (World.setCell (World.setCell (World.setCell (World.setCell (World.setCell (World.setCell (World.setCell (World.setCell (World.setCell (World.setCell (World.setCell (V4) _ _) _ _) _ _) _ _) _ _) _ _) _ _) _ _) _ _) _ _) _ _) _ _ = U at hm hb g1 g2 g3 g4 ⊢
            refine hK.out _ _ ⟨g1, g2, g3, g4⟩ (fun hS => ?_)
            clear hK K
            try simp only [Act.put, List.setIfInBounds_toArray, List.set_cons_zero, List.set_cons_succ]
            refine wpAnyH_done (by kernel_rfl) ?_ _
            go_wp2_with fail
            go_meet
            exact ⟨p, rfl, hm, HP.out.2, hS⟩
  case rest =>
    obtain ⟨p, rfl, hm, hp, hS⟩ := hcut
    have HM := Lib.hid hm
    have HS := Lib.hid hS
    clear hm hS HGX HGY HGZ HA
    cases raw with
    | false =>
      have HT := Lib.hid (show (fun w' : World => Tri w' p ⟨gk, gs, gl, gt⟩ ⟨hk, hs', hl, ht⟩ ⟨jk, js, jl, jt⟩ ∧ Below w.heap.size w w') wc from ⟨HM.out.1, HS.out.2.2.2⟩)
      have hck := fits_any ⟨gk, gs, gl, gt⟩ ⟨hk, hs', hl, ht⟩ ⟨jk, js, jl, jt⟩ HOX.out HOY.out HOZ.out
      have hrk := rfits_any ⟨gk, gs, gl, gt⟩ ⟨hk, hs', hl, ht⟩ ⟨jk, js, jl, jt⟩ HOX.out HOY.out HOZ.out
      unfold tri at hck hrk
      dsimp only at hck hrk
      generalize fitsOf _ _ _ = cg at hck hrk
      have HCK := Lib.hid hck
      have HRK := Lib.hid hrk
      clear hck hrk
      go_wp2_with fail
      obtain ⟨V6, hV6⟩ : ∃ V6, V6 = wc.drew := ⟨_, rfl⟩
      have hS : (fun w' : World => Tri w' p ⟨gk, gs, gl, gt⟩ ⟨hk, hs', hl, ht⟩ ⟨jk, js, jl, jt⟩ ∧ Below w.heap.size w w') V6 := by subst hV6; exact ⟨HT.out.1, HT.out.2.drew⟩
      refine wp_region_any (by kernel_rfl) ?_
      change wpAny _ _ _ _ _ _ _ (World.drew _)
      rw [← hV6]
      clear hV6
      refine wpAny_of_held (S := fun w' : World => Tri w' p ⟨gk, gs, gl, gt⟩ ⟨hk, hs', hl, ht⟩ ⟨jk, js, jl, jt⟩ ∧ Below w.heap.size w w') _ _ _ _ ?_
      try simp only [Act.put, List.setIfInBounds_toArray, List.set_cons_zero, List.set_cons_succ]
      refine wpAnyH_take (i := 0) (oi := ⟨some 39, _, _, _, _, _⟩) (v := ?_) rfl (by kernel_rfl) (by kernel_rfl) (by kernel_rfl) (fun _ _ _ h => h) (Or.inl ⟨by simp only [Region.wanted], ?_⟩) hS ?_
      rotate_left
      · intro wz hSw; obtain ⟨⟨c0, c1, c2, c3, c4, c5, c6, c7, c8, c9, c10, c11⟩, -⟩ := hSw
        (try dsimp only at hSw)
        (try go_split_ands)
        go_simp
        first | done | with_reducible rfl
      try simp only [Act.put, List.setIfInBounds_toArray, List.set_cons_zero, List.set_cons_succ]
      refine wpAnyH_take (i := 2) (oi := ⟨some 41, _, _, _, _, _⟩) (v := ?_) rfl (by kernel_rfl) (by kernel_rfl) (by kernel_rfl) (fun _ _ _ h => h) (Or.inl ⟨by simp only [Region.wanted], ?_⟩) hS ?_
      rotate_left
      · intro wz hSw; obtain ⟨⟨c0, c1, c2, c3, c4, c5, c6, c7, c8, c9, c10, c11⟩, -⟩ := hSw
        (try dsimp only at hSw)
        (try go_split_ands)
        go_simp
        first | done | with_reducible rfl
      try simp only [Act.put, List.setIfInBounds_toArray, List.set_cons_zero, List.set_cons_succ]
      refine wpAnyH_ready (rs := [1]) (by kernel_rfl) (by simp) ?_
      refine AllReadyH.cons (o := ⟨some 40, _, _, _, _, _⟩) rfl (fun K hK => ?_) AllReadyH.nil
      go_simp
      refine (HCK.out _).mono ?_
      rintro e V7 ⟨rfl, hb1⟩
      go_simp
      refine hK.out _ _ (⟨hS.1.below hb1, hS.2.trans (hb1.mono hS.2.size)⟩) (fun hS => ?_)
      clear hK K
      try simp only [Act.put, List.setIfInBounds_toArray, List.set_cons_zero, List.set_cons_succ]
      clear hb1
      refine wpAnyH_ready (rs := [3]) (by kernel_rfl) (by simp) ?_
      refine AllReadyH.cons (o := ⟨some 42, _, _, _, _, _⟩) rfl (fun K hK => ?_) AllReadyH.nil
      go_simp
      refine (HRK.out _).mono ?_
      rintro e V8 ⟨rfl, hb1⟩
      go_simp
      refine hK.out _ _ (⟨hS.1.below hb1, hS.2.trans (hb1.mono hS.2.size)⟩) (fun hS => ?_)
      clear hK K
      try simp only [Act.put, List.setIfInBounds_toArray, List.set_cons_zero, List.set_cons_succ]
      clear hb1
      refine wpAnyH_take (i := 4) (oi := ⟨some 43, _, _, _, _, _⟩) (v := ?_) rfl (by kernel_rfl) (by kernel_rfl) (by kernel_rfl) (fun _ _ _ h => h) (Or.inl ⟨by simp only [Region.wanted], ?_⟩) hS ?_
      rotate_left
      · intro wz hSw
        clear hSw
        go_simp
        first | done | with_reducible rfl
      try simp only [Act.put, List.setIfInBounds_toArray, List.set_cons_zero, List.set_cons_succ]
      refine wpAnyH_take (i := 5) (oi := ⟨some 8, _, _, _, _, _⟩) (v := ?_) rfl (by kernel_rfl) (by kernel_rfl) (by kernel_rfl) (fun _ _ _ h => h) (Or.inl ⟨by simp only [Region.wanted], ?_⟩) hS ?_
      rotate_left
      · intro wz hSw
        clear hSw
        go_simp
        first | done | with_reducible rfl
      try simp only [Act.put, List.setIfInBounds_toArray, List.set_cons_zero, List.set_cons_succ]
      refine wpAnyH_done (by kernel_rfl) ?_ _
      have HE := Lib.hid hS.2
      clear hS HCK HRK
      go_wp2_with fail
      go_ret
      exact ⟨rfl, HE.out⟩
    | true =>
      obtain ⟨j, hj⟩ : ∃ j, j = (s.size : Int) % 3 := ⟨_, rfl⟩
      have HJ := Lib.hid hj
      have hjc : j = 0 ∨ j = 1 ∨ j = 2 := by omega
      clear hj
      have hwf : (Lit.int .i64 (s.size : Int)).wf = true := by unfold maxLen at hsz; exact WalkArith.wf_i64 (by omega)
      have HWF := Lib.hid hwf
      clear hwf
      unfold maxLen at hsz
      rcases hjc with rfl | rfl | rfl
      · go_wp2_with fail
        obtain ⟨V0, hV0⟩ : ∃ V0, V0 = wc.drew := ⟨_, rfl⟩
        have hM0 : TriM V0 p ⟨gk, gs, gl, gt⟩ ⟨hk, hs', hl, ht⟩ ⟨jk, js, jl, jt⟩ := by subst hV0; exact HM.out
        have HM0 := Lib.hid hM0
        have hS : (fun w' : World => Box w' w.heap.size ⟨k, s, l, t⟩ ∧ Box w' (w.heap.size + 1) ⟨k2, s2, l2, t2⟩ ∧ Box w' (w.heap.size + 1 + 1) ⟨k3, s3, l3, t3⟩ ∧ Below w.heap.size w w') V0 := by subst hV0; exact ⟨HS.out.1, HS.out.2.1, HS.out.2.2.1, HS.out.2.2.2.drew⟩
        clear hM0
        refine wp_region_any (by kernel_rfl) ?_
        change wpAny _ _ _ _ _ _ _ (World.drew _)
        rw [← hV0]
        clear hV0
        refine wpAny_of_held (S := fun w' : World => Box w' w.heap.size ⟨k, s, l, t⟩ ∧ Box w' (w.heap.size + 1) ⟨k2, s2, l2, t2⟩ ∧ Box w' (w.heap.size + 1 + 1) ⟨k3, s3, l3, t3⟩ ∧ Below w.heap.size w w') _ _ _ _ ?_
        try simp only [Act.put, List.setIfInBounds_toArray, List.set_cons_zero, List.set_cons_succ]
        refine wpAnyH_take (i := 0) (oi := ⟨some 33, _, _, _, _, _⟩) (v := ?_) rfl (by kernel_rfl) (by kernel_rfl) (by kernel_rfl) (fun _ _ _ h => h) (Or.inl ⟨by simp only [Region.wanted], ?_⟩) hS ?_
        rotate_left
        · intro wz hSw
          clear hSw
          go_simp
          first | done | with_reducible rfl
        try simp only [Act.put, List.setIfInBounds_toArray, List.set_cons_zero, List.set_cons_succ]
        refine wpAnyH_take (i := 1) (oi := ⟨some 34, _, _, _, _, _⟩) (v := ?_) rfl (by kernel_rfl) (by kernel_rfl) (by kernel_rfl) (fun _ _ _ h => h) (Or.inl ⟨by simp only [Region.wanted], ?_⟩) hS ?_
        rotate_left
        · intro wz hSw; obtain ⟨⟨c0, c1, c2, c3⟩, -⟩ := hSw
          (try dsimp only at hSw)
          (try go_split_ands)
          go_simp
          first | done | with_reducible rfl
        try simp only [Act.put, List.setIfInBounds_toArray, List.set_cons_zero, List.set_cons_succ]
        refine wpAnyH_take (i := 2) (oi := ⟨some 35, _, _, _, _, _⟩) (v := ?_) rfl (by kernel_rfl) (by kernel_rfl) (by kernel_rfl) (fun _ _ _ h => h) (Or.inl ⟨by simp only [Region.wanted], ?_⟩) hS ?_
        rotate_left
        · intro wz hSw
          clear hSw
          go_simp
          first | done | with_reducible rfl
        try simp only [Act.put, List.setIfInBounds_toArray, List.set_cons_zero, List.set_cons_succ]
        refine wpAnyH_take (i := 4) (oi := ⟨some 37, _, _, _, _, _⟩) (v := ?_) rfl (by kernel_rfl) (by kernel_rfl) (by kernel_rfl) (fun _ _ _ h => h) (Or.inl ⟨by simp only [Region.wanted], ?_⟩) hS ?_
        rotate_left
        · intro wz hSw; obtain ⟨⟨c0, c1, c2, c3⟩, -⟩ := hSw
          (try dsimp only at hSw)
          (try go_split_ands)
          go_simp
          first | done | with_reducible rfl
        try simp only [Act.put, List.setIfInBounds_toArray, List.set_cons_zero, List.set_cons_succ]
        refine wpAnyH_ready (rs := [3]) (by kernel_rfl) (by simp) ?_
        refine AllReadyH.cons (o := ⟨some 36, _, _, _, _, _⟩) rfl (fun K hK => ?_) AllReadyH.nil
        go_simp
        refine (within_any _ 3 (by decide) (by decide) HWF.out _).mono ?_
        rintro e w' ⟨rfl, rfl⟩
        rw [← HJ.out]
        go_simp
        refine hK.out _ _ (hS) (fun hS => ?_)
        clear hK K
        try simp only [Act.put, List.setIfInBounds_toArray, List.set_cons_zero, List.set_cons_succ]
        refine wpAnyH_take (i := 5) (oi := ⟨some 38, _, _, _, _, _⟩) (v := ?_) rfl (by kernel_rfl) (by kernel_rfl) (by kernel_rfl) (fun _ _ _ h => h) (Or.inl ⟨by simp only [Region.wanted], ?_⟩) hS ?_
        rotate_left
        · intro wz hSw
          clear hSw
          go_simp
          first | done | with_reducible rfl
        try simp only [Act.put, List.setIfInBounds_toArray, List.set_cons_zero, List.set_cons_succ]
        obtain ⟨⟨p0, p1, p2, p3, p4, p5, p6, p7, p8, p9, p10, p11⟩, hfz⟩ := HM0.out
        dsimp only at p0 p1 p2 p3 p4 p5 p6 p7 p8 p9 p10 p11
        refine wpAnyH_ready (rs := [6]) (by kernel_rfl) (by simp) ?_
        refine AllReadyH.cons (o := ⟨none, _, _, _, _, _⟩) rfl (fun K hK => ?_) AllReadyH.nil
        go_simp
        clear p0 p1 p2 p3 p4 p5 p6 p7 p8 p9 p10 p11 hfz
        have hm := HM0.out.set0 ⟨k, s, l, t⟩
        have hb := TriM.set0Below (W := V0) (p := p) (B := w.heap.size) ⟨k, s, l, t⟩ (by omega)
        have g1 := TriM.set0Other (p := p) ⟨k, s, l, t⟩ hS.1 (by omega)
        have g2 := TriM.set0Other (p := p) ⟨k, s, l, t⟩ hS.2.1 (by omega)
        have g3 := TriM.set0Other (p := p) ⟨k, s, l, t⟩ hS.2.2.1 (by omega)
        have g4 := hS.2.2.2.trans hb
        dsimp only at hm hb g1 g2 g3 g4
        generalize World.setCell (World.setCell (World.setCell (World.setCell (V0) _ _) _ _) _ _) _ _ = U at hm hb g1 g2 g3 g4 ⊢
        refine hK.out _ _ ⟨g1, g2, g3, g4⟩ (fun hS => ?_)
        clear hK K
        try simp only [Act.put, List.setIfInBounds_toArray, List.set_cons_zero, List.set_cons_succ]
        refine wpAnyH_done (by kernel_rfl) ?_ _
        have HT := Lib.hid (show (fun w' : World => Tri w' p ⟨k, s, l, t⟩ ⟨hk, hs', hl, ht⟩ ⟨jk, js, jl, jt⟩ ∧ Below w.heap.size w w') U from ⟨hm.1, hS.2.2.2⟩)
        clear hS hm hb g1 g2 g3 g4 HM0 HM HS
        have hck := fits_any ⟨k, s, l, t⟩ ⟨hk, hs', hl, ht⟩ ⟨jk, js, jl, jt⟩ HOx.out HOY.out HOZ.out
        have hrk := rfits_any ⟨k, s, l, t⟩ ⟨hk, hs', hl, ht⟩ ⟨jk, js, jl, jt⟩ HOx.out HOY.out HOZ.out
        unfold tri at hck hrk
        dsimp only at hck hrk
        generalize fitsOf _ _ _ = cg at hck hrk
        have HCK := Lib.hid hck
        have HRK := Lib.hid hrk
        clear hck hrk
        go_wp2_with fail
        obtain ⟨V6, hV6⟩ : ∃ V6, V6 = U.drew := ⟨_, rfl⟩
        have hS : (fun w' : World => Tri w' p ⟨k, s, l, t⟩ ⟨hk, hs', hl, ht⟩ ⟨jk, js, jl, jt⟩ ∧ Below w.heap.size w w') V6 := by subst hV6; exact ⟨HT.out.1, HT.out.2.drew⟩
        refine wp_region_any (by kernel_rfl) ?_
        change wpAny _ _ _ _ _ _ _ (World.drew _)
        rw [← hV6]
        clear hV6
        refine wpAny_of_held (S := fun w' : World => Tri w' p ⟨k, s, l, t⟩ ⟨hk, hs', hl, ht⟩ ⟨jk, js, jl, jt⟩ ∧ Below w.heap.size w w') _ _ _ _ ?_
        try simp only [Act.put, List.setIfInBounds_toArray, List.set_cons_zero, List.set_cons_succ]
        refine wpAnyH_take (i := 0) (oi := ⟨some 39, _, _, _, _, _⟩) (v := ?_) rfl (by kernel_rfl) (by kernel_rfl) (by kernel_rfl) (fun _ _ _ h => h) (Or.inl ⟨by simp only [Region.wanted], ?_⟩) hS ?_
        rotate_left
        · intro wz hSw; obtain ⟨⟨c0, c1, c2, c3, c4, c5, c6, c7, c8, c9, c10, c11⟩, -⟩ := hSw
          (try dsimp only at hSw)
          (try go_split_ands)
          go_simp
          first | done | with_reducible rfl
        try simp only [Act.put, List.setIfInBounds_toArray, List.set_cons_zero, List.set_cons_succ]
        refine wpAnyH_take (i := 2) (oi := ⟨some 41, _, _, _, _, _⟩) (v := ?_) rfl (by kernel_rfl) (by kernel_rfl) (by kernel_rfl) (fun _ _ _ h => h) (Or.inl ⟨by simp only [Region.wanted], ?_⟩) hS ?_
        rotate_left
        · intro wz hSw; obtain ⟨⟨c0, c1, c2, c3, c4, c5, c6, c7, c8, c9, c10, c11⟩, -⟩ := hSw
          (try dsimp only at hSw)
          (try go_split_ands)
          go_simp
          first | done | with_reducible rfl
        try simp only [Act.put, List.setIfInBounds_toArray, List.set_cons_zero, List.set_cons_succ]
        refine wpAnyH_ready (rs := [1]) (by kernel_rfl) (by simp) ?_
        refine AllReadyH.cons (o := ⟨some 40, _, _, _, _, _⟩) rfl (fun K hK => ?_) AllReadyH.nil
        go_simp
        refine (HCK.out _).mono ?_
        rintro e V7 ⟨rfl, hb1⟩
        go_simp
        refine hK.out _ _ (⟨hS.1.below hb1, hS.2.trans (hb1.mono hS.2.size)⟩) (fun hS => ?_)
        clear hK K
        try simp only [Act.put, List.setIfInBounds_toArray, List.set_cons_zero, List.set_cons_succ]
        clear hb1
        refine wpAnyH_ready (rs := [3]) (by kernel_rfl) (by simp) ?_
        refine AllReadyH.cons (o := ⟨some 42, _, _, _, _, _⟩) rfl (fun K hK => ?_) AllReadyH.nil
        go_simp
        refine (HRK.out _).mono ?_
        rintro e V8 ⟨rfl, hb1⟩
        go_simp
        refine hK.out _ _ (⟨hS.1.below hb1, hS.2.trans (hb1.mono hS.2.size)⟩) (fun hS => ?_)
        clear hK K
        try simp only [Act.put, List.setIfInBounds_toArray, List.set_cons_zero, List.set_cons_succ]
        clear hb1
        refine wpAnyH_take (i := 4) (oi := ⟨some 43, _, _, _, _, _⟩) (v := ?_) rfl (by kernel_rfl) (by kernel_rfl) (by kernel_rfl) (fun _ _ _ h => h) (Or.inl ⟨by simp only [Region.wanted], ?_⟩) hS ?_
        rotate_left
        · intro wz hSw
          clear hSw
          go_simp
          first | done | with_reducible rfl
        try simp only [Act.put, List.setIfInBounds_toArray, List.set_cons_zero, List.set_cons_succ]
        refine wpAnyH_take (i := 5) (oi := ⟨some 8, _, _, _, _, _⟩) (v := ?_) rfl (by kernel_rfl) (by kernel_rfl) (by kernel_rfl) (fun _ _ _ h => h) (Or.inl ⟨by simp only [Region.wanted], ?_⟩) hS ?_
        rotate_left
        · intro wz hSw
          clear hSw
          go_simp
          first | done | with_reducible rfl
        try simp only [Act.put, List.setIfInBounds_toArray, List.set_cons_zero, List.set_cons_succ]
        refine wpAnyH_done (by kernel_rfl) ?_ _
        have HE := Lib.hid hS.2
        clear hS HCK HRK
        go_wp2_with fail
        go_ret
        exact ⟨rfl, HE.out⟩
      · go_wp2_with fail
        obtain ⟨V0, hV0⟩ : ∃ V0, V0 = wc.drew := ⟨_, rfl⟩
        have hM0 : TriM V0 p ⟨gk, gs, gl, gt⟩ ⟨hk, hs', hl, ht⟩ ⟨jk, js, jl, jt⟩ := by subst hV0; exact HM.out
        have HM0 := Lib.hid hM0
        have hS : (fun w' : World => Box w' w.heap.size ⟨k, s, l, t⟩ ∧ Box w' (w.heap.size + 1) ⟨k2, s2, l2, t2⟩ ∧ Box w' (w.heap.size + 1 + 1) ⟨k3, s3, l3, t3⟩ ∧ Below w.heap.size w w') V0 := by subst hV0; exact ⟨HS.out.1, HS.out.2.1, HS.out.2.2.1, HS.out.2.2.2.drew⟩
        clear hM0
        refine wp_region_any (by kernel_rfl) ?_
        change wpAny _ _ _ _ _ _ _ (World.drew _)
        rw [← hV0]
        clear hV0
        refine wpAny_of_held (S := fun w' : World => Box w' w.heap.size ⟨k, s, l, t⟩ ∧ Box w' (w.heap.size + 1) ⟨k2, s2, l2, t2⟩ ∧ Box w' (w.heap.size + 1 + 1) ⟨k3, s3, l3, t3⟩ ∧ Below w.heap.size w w') _ _ _ _ ?_
        try simp only [Act.put, List.setIfInBounds_toArray, List.set_cons_zero, List.set_cons_succ]
        refine wpAnyH_take (i := 0) (oi := ⟨some 33, _, _, _, _, _⟩) (v := ?_) rfl (by kernel_rfl) (by kernel_rfl) (by kernel_rfl) (fun _ _ _ h => h) (Or.inl ⟨by simp only [Region.wanted], ?_⟩) hS ?_
        rotate_left
        · intro wz hSw
          clear hSw
          go_simp
          first | done | with_reducible rfl
        try simp only [Act.put, List.setIfInBounds_toArray, List.set_cons_zero, List.set_cons_succ]
        refine wpAnyH_take (i := 1) (oi := ⟨some 34, _, _, _, _, _⟩) (v := ?_) rfl (by kernel_rfl) (by kernel_rfl) (by kernel_rfl) (fun _ _ _ h => h) (Or.inl ⟨by simp only [Region.wanted], ?_⟩) hS ?_
        rotate_left
        · intro wz hSw; obtain ⟨⟨c0, c1, c2, c3⟩, -⟩ := hSw
          (try dsimp only at hSw)
          (try go_split_ands)
          go_simp
          first | done | with_reducible rfl
        try simp only [Act.put, List.setIfInBounds_toArray, List.set_cons_zero, List.set_cons_succ]
        refine wpAnyH_take (i := 2) (oi := ⟨some 35, _, _, _, _, _⟩) (v := ?_) rfl (by kernel_rfl) (by kernel_rfl) (by kernel_rfl) (fun _ _ _ h => h) (Or.inl ⟨by simp only [Region.wanted], ?_⟩) hS ?_
        rotate_left
        · intro wz hSw
          clear hSw
          go_simp
          first | done | with_reducible rfl
        try simp only [Act.put, List.setIfInBounds_toArray, List.set_cons_zero, List.set_cons_succ]
        refine wpAnyH_take (i := 4) (oi := ⟨some 37, _, _, _, _, _⟩) (v := ?_) rfl (by kernel_rfl) (by kernel_rfl) (by kernel_rfl) (fun _ _ _ h => h) (Or.inl ⟨by simp only [Region.wanted], ?_⟩) hS ?_
        rotate_left
        · intro wz hSw; obtain ⟨⟨c0, c1, c2, c3⟩, -⟩ := hSw
          (try dsimp only at hSw)
          (try go_split_ands)
          go_simp
          first | done | with_reducible rfl
        try simp only [Act.put, List.setIfInBounds_toArray, List.set_cons_zero, List.set_cons_succ]
        refine wpAnyH_ready (rs := [3]) (by kernel_rfl) (by simp) ?_
        refine AllReadyH.cons (o := ⟨some 36, _, _, _, _, _⟩) rfl (fun K hK => ?_) AllReadyH.nil
        go_simp
        refine (within_any _ 3 (by decide) (by decide) HWF.out _).mono ?_
        rintro e w' ⟨rfl, rfl⟩
        rw [← HJ.out]
        go_simp
        refine hK.out _ _ (hS) (fun hS => ?_)
        clear hK K
        try simp only [Act.put, List.setIfInBounds_toArray, List.set_cons_zero, List.set_cons_succ]
        refine wpAnyH_take (i := 5) (oi := ⟨some 38, _, _, _, _, _⟩) (v := ?_) rfl (by kernel_rfl) (by kernel_rfl) (by kernel_rfl) (fun _ _ _ h => h) (Or.inl ⟨by simp only [Region.wanted], ?_⟩) hS ?_
        rotate_left
        · intro wz hSw
          clear hSw
          go_simp
          first | done | with_reducible rfl
        try simp only [Act.put, List.setIfInBounds_toArray, List.set_cons_zero, List.set_cons_succ]
        obtain ⟨⟨p0, p1, p2, p3, p4, p5, p6, p7, p8, p9, p10, p11⟩, hfz⟩ := HM0.out
        dsimp only at p0 p1 p2 p3 p4 p5 p6 p7 p8 p9 p10 p11
        refine wpAnyH_ready (rs := [6]) (by kernel_rfl) (by simp) ?_
        refine AllReadyH.cons (o := ⟨none, _, _, _, _, _⟩) rfl (fun K hK => ?_) AllReadyH.nil
        go_simp
        clear p0 p1 p2 p3 p4 p5 p6 p7 p8 p9 p10 p11 hfz
        have hm := HM0.out.set1 ⟨k, s, l, t⟩
        have hb := TriM.set1Below (W := V0) (p := p) (B := w.heap.size) ⟨k, s, l, t⟩ (by omega)
        have g1 := TriM.set1Other (p := p) ⟨k, s, l, t⟩ hS.1 (by omega)
        have g2 := TriM.set1Other (p := p) ⟨k, s, l, t⟩ hS.2.1 (by omega)
        have g3 := TriM.set1Other (p := p) ⟨k, s, l, t⟩ hS.2.2.1 (by omega)
        have g4 := hS.2.2.2.trans hb
        dsimp only at hm hb g1 g2 g3 g4
        generalize World.setCell (World.setCell (World.setCell (World.setCell (V0) _ _) _ _) _ _) _ _ = U at hm hb g1 g2 g3 g4 ⊢
        refine hK.out _ _ ⟨g1, g2, g3, g4⟩ (fun hS => ?_)
        clear hK K
        try simp only [Act.put, List.setIfInBounds_toArray, List.set_cons_zero, List.set_cons_succ]
        refine wpAnyH_done (by kernel_rfl) ?_ _
        have HT := Lib.hid (show (fun w' : World => Tri w' p ⟨gk, gs, gl, gt⟩ ⟨k, s, l, t⟩ ⟨jk, js, jl, jt⟩ ∧ Below w.heap.size w w') U from ⟨hm.1, hS.2.2.2⟩)
        clear hS hm hb g1 g2 g3 g4 HM0 HM HS
        have hck := fits_any ⟨gk, gs, gl, gt⟩ ⟨k, s, l, t⟩ ⟨jk, js, jl, jt⟩ HOX.out HOx.out HOZ.out
        have hrk := rfits_any ⟨gk, gs, gl, gt⟩ ⟨k, s, l, t⟩ ⟨jk, js, jl, jt⟩ HOX.out HOx.out HOZ.out
        unfold tri at hck hrk
        dsimp only at hck hrk
        generalize fitsOf _ _ _ = cg at hck hrk
        have HCK := Lib.hid hck
        have HRK := Lib.hid hrk
        clear hck hrk
        go_wp2_with fail
        obtain ⟨V6, hV6⟩ : ∃ V6, V6 = U.drew := ⟨_, rfl⟩
        have hS : (fun w' : World => Tri w' p ⟨gk, gs, gl, gt⟩ ⟨k, s, l, t⟩ ⟨jk, js, jl, jt⟩ ∧ Below w.heap.size w w') V6 := by subst hV6; exact ⟨HT.out.1, HT.out.2.drew⟩
        refine wp_region_any (by kernel_rfl) ?_
        change wpAny _ _ _ _ _ _ _ (World.drew _)
        rw [← hV6]
        clear hV6
        refine wpAny_of_held (S := fun w' : World => Tri w' p ⟨gk, gs, gl, gt⟩ ⟨k, s, l, t⟩ ⟨jk, js, jl, jt⟩ ∧ Below w.heap.size w w') _ _ _ _ ?_
        try simp only [Act.put, List.setIfInBounds_toArray, List.set_cons_zero, List.set_cons_succ]
        refine wpAnyH_take (i := 0) (oi := ⟨some 39, _, _, _, _, _⟩) (v := ?_) rfl (by kernel_rfl) (by kernel_rfl) (by kernel_rfl) (fun _ _ _ h => h) (Or.inl ⟨by simp only [Region.wanted], ?_⟩) hS ?_
        rotate_left
        · intro wz hSw; obtain ⟨⟨c0, c1, c2, c3, c4, c5, c6, c7, c8, c9, c10, c11⟩, -⟩ := hSw
          (try dsimp only at hSw)
          (try go_split_ands)
          go_simp
          first | done | with_reducible rfl
        try simp only [Act.put, List.setIfInBounds_toArray, List.set_cons_zero, List.set_cons_succ]
        refine wpAnyH_take (i := 2) (oi := ⟨some 41, _, _, _, _, _⟩) (v := ?_) rfl (by kernel_rfl) (by kernel_rfl) (by kernel_rfl) (fun _ _ _ h => h) (Or.inl ⟨by simp only [Region.wanted], ?_⟩) hS ?_
        rotate_left
        · intro wz hSw; obtain ⟨⟨c0, c1, c2, c3, c4, c5, c6, c7, c8, c9, c10, c11⟩, -⟩ := hSw
          (try dsimp only at hSw)
          (try go_split_ands)
          go_simp
          first | done | with_reducible rfl
        try simp only [Act.put, List.setIfInBounds_toArray, List.set_cons_zero, List.set_cons_succ]
        refine wpAnyH_ready (rs := [1]) (by kernel_rfl) (by simp) ?_
        refine AllReadyH.cons (o := ⟨some 40, _, _, _, _, _⟩) rfl (fun K hK => ?_) AllReadyH.nil
        go_simp
        refine (HCK.out _).mono ?_
        rintro e V7 ⟨rfl, hb1⟩
        go_simp
        refine hK.out _ _ (⟨hS.1.below hb1, hS.2.trans (hb1.mono hS.2.size)⟩) (fun hS => ?_)
        clear hK K
        try simp only [Act.put, List.setIfInBounds_toArray, List.set_cons_zero, List.set_cons_succ]
        clear hb1
        refine wpAnyH_ready (rs := [3]) (by kernel_rfl) (by simp) ?_
        refine AllReadyH.cons (o := ⟨some 42, _, _, _, _, _⟩) rfl (fun K hK => ?_) AllReadyH.nil
        go_simp
        refine (HRK.out _).mono ?_
        rintro e V8 ⟨rfl, hb1⟩
        go_simp
        refine hK.out _ _ (⟨hS.1.below hb1, hS.2.trans (hb1.mono hS.2.size)⟩) (fun hS => ?_)
        clear hK K
        try simp only [Act.put, List.setIfInBounds_toArray, List.set_cons_zero, List.set_cons_succ]
        clear hb1
        refine wpAnyH_take (i := 4) (oi := ⟨some 43, _, _, _, _, _⟩) (v := ?_) rfl (by kernel_rfl) (by kernel_rfl) (by kernel_rfl) (fun _ _ _ h => h) (Or.inl ⟨by simp only [Region.wanted], ?_⟩) hS ?_
        rotate_left
        · intro wz hSw
          clear hSw
          go_simp
          first | done | with_reducible rfl
        try simp only [Act.put, List.setIfInBounds_toArray, List.set_cons_zero, List.set_cons_succ]
        refine wpAnyH_take (i := 5) (oi := ⟨some 8, _, _, _, _, _⟩) (v := ?_) rfl (by kernel_rfl) (by kernel_rfl) (by kernel_rfl) (fun _ _ _ h => h) (Or.inl ⟨by simp only [Region.wanted], ?_⟩) hS ?_
        rotate_left
        · intro wz hSw
          clear hSw
          go_simp
          first | done | with_reducible rfl
        try simp only [Act.put, List.setIfInBounds_toArray, List.set_cons_zero, List.set_cons_succ]
        refine wpAnyH_done (by kernel_rfl) ?_ _
        have HE := Lib.hid hS.2
        clear hS HCK HRK
        go_wp2_with fail
        go_ret
        exact ⟨rfl, HE.out⟩
      · go_wp2_with fail
        obtain ⟨V0, hV0⟩ : ∃ V0, V0 = wc.drew := ⟨_, rfl⟩
        have hM0 : TriM V0 p ⟨gk, gs, gl, gt⟩ ⟨hk, hs', hl, ht⟩ ⟨jk, js, jl, jt⟩ := by subst hV0; exact HM.out
        have HM0 := Lib.hid hM0
        have hS : (fun w' : World => Box w' w.heap.size ⟨k, s, l, t⟩ ∧ Box w' (w.heap.size + 1) ⟨k2, s2, l2, t2⟩ ∧ Box w' (w.heap.size + 1 + 1) ⟨k3, s3, l3, t3⟩ ∧ Below w.heap.size w w') V0 := by subst hV0; exact ⟨HS.out.1, HS.out.2.1, HS.out.2.2.1, HS.out.2.2.2.drew⟩
        clear hM0
        refine wp_region_any (by kernel_rfl) ?_
        change wpAny _ _ _ _ _ _ _ (World.drew _)
        rw [← hV0]
        clear hV0
        refine wpAny_of_held (S := fun w' : World => Box w' w.heap.size ⟨k, s, l, t⟩ ∧ Box w' (w.heap.size + 1) ⟨k2, s2, l2, t2⟩ ∧ Box w' (w.heap.size + 1 + 1) ⟨k3, s3, l3, t3⟩ ∧ Below w.heap.size w w') _ _ _ _ ?_
        try simp only [Act.put, List.setIfInBounds_toArray, List.set_cons_zero, List.set_cons_succ]
        refine wpAnyH_take (i := 0) (oi := ⟨some 33, _, _, _, _, _⟩) (v := ?_) rfl (by kernel_rfl) (by kernel_rfl) (by kernel_rfl) (fun _ _ _ h => h) (Or.inl ⟨by simp only [Region.wanted], ?_⟩) hS ?_
        rotate_left
        · intro wz hSw
          clear hSw
          go_simp
          first | done | with_reducible rfl
        try simp only [Act.put, List.setIfInBounds_toArray, List.set_cons_zero, List.set_cons_succ]
        refine wpAnyH_take (i := 1) (oi := ⟨some 34, _, _, _, _, _⟩) (v := ?_) rfl (by kernel_rfl) (by kernel_rfl) (by kernel_rfl) (fun _ _ _ h => h) (Or.inl ⟨by simp only [Region.wanted], ?_⟩) hS ?_
        rotate_left
        · intro wz hSw; obtain ⟨⟨c0, c1, c2, c3⟩, -⟩ := hSw
          (try dsimp only at hSw)
          (try go_split_ands)
          go_simp
          first | done | with_reducible rfl
        try simp only [Act.put, List.setIfInBounds_toArray, List.set_cons_zero, List.set_cons_succ]
        refine wpAnyH_take (i := 2) (oi := ⟨some 35, _, _, _, _, _⟩) (v := ?_) rfl (by kernel_rfl) (by kernel_rfl) (by kernel_rfl) (fun _ _ _ h => h) (Or.inl ⟨by simp only [Region.wanted], ?_⟩) hS ?_
        rotate_left
        · intro wz hSw
          clear hSw
          go_simp
          first | done | with_reducible rfl
        try simp only [Act.put, List.setIfInBounds_toArray, List.set_cons_zero, List.set_cons_succ]
        refine wpAnyH_take (i := 4) (oi := ⟨some 37, _, _, _, _, _⟩) (v := ?_) rfl (by kernel_rfl) (by kernel_rfl) (by kernel_rfl) (fun _ _ _ h => h) (Or.inl ⟨by simp only [Region.wanted], ?_⟩) hS ?_
        rotate_left
        · intro wz hSw; obtain ⟨⟨c0, c1, c2, c3⟩, -⟩ := hSw
          (try dsimp only at hSw)
          (try go_split_ands)
          go_simp
          first | done | with_reducible rfl
        try simp only [Act.put, List.setIfInBounds_toArray, List.set_cons_zero, List.set_cons_succ]
        refine wpAnyH_ready (rs := [3]) (by kernel_rfl) (by simp) ?_
        refine AllReadyH.cons (o := ⟨some 36, _, _, _, _, _⟩) rfl (fun K hK => ?_) AllReadyH.nil
        go_simp
        refine (within_any _ 3 (by decide) (by decide) HWF.out _).mono ?_
        rintro e w' ⟨rfl, rfl⟩
        rw [← HJ.out]
        go_simp
        refine hK.out _ _ (hS) (fun hS => ?_)
        clear hK K
        try simp only [Act.put, List.setIfInBounds_toArray, List.set_cons_zero, List.set_cons_succ]
        refine wpAnyH_take (i := 5) (oi := ⟨some 38, _, _, _, _, _⟩) (v := ?_) rfl (by kernel_rfl) (by kernel_rfl) (by kernel_rfl) (fun _ _ _ h => h) (Or.inl ⟨by simp only [Region.wanted], ?_⟩) hS ?_
        rotate_left
        · intro wz hSw
          clear hSw
          go_simp
          first | done | with_reducible rfl
        try simp only [Act.put, List.setIfInBounds_toArray, List.set_cons_zero, List.set_cons_succ]
        obtain ⟨⟨p0, p1, p2, p3, p4, p5, p6, p7, p8, p9, p10, p11⟩, hfz⟩ := HM0.out
        dsimp only at p0 p1 p2 p3 p4 p5 p6 p7 p8 p9 p10 p11
        refine wpAnyH_ready (rs := [6]) (by kernel_rfl) (by simp) ?_
        refine AllReadyH.cons (o := ⟨none, _, _, _, _, _⟩) rfl (fun K hK => ?_) AllReadyH.nil
        go_simp
        clear p0 p1 p2 p3 p4 p5 p6 p7 p8 p9 p10 p11 hfz
        have hm := HM0.out.set2 ⟨k, s, l, t⟩
        have hb := TriM.set2Below (W := V0) (p := p) (B := w.heap.size) ⟨k, s, l, t⟩ (by omega)
        have g1 := TriM.set2Other (p := p) ⟨k, s, l, t⟩ hS.1 (by omega)
        have g2 := TriM.set2Other (p := p) ⟨k, s, l, t⟩ hS.2.1 (by omega)
        have g3 := TriM.set2Other (p := p) ⟨k, s, l, t⟩ hS.2.2.1 (by omega)
        have g4 := hS.2.2.2.trans hb
        dsimp only at hm hb g1 g2 g3 g4
        generalize World.setCell (World.setCell (World.setCell (World.setCell (V0) _ _) _ _) _ _) _ _ = U at hm hb g1 g2 g3 g4 ⊢
        refine hK.out _ _ ⟨g1, g2, g3, g4⟩ (fun hS => ?_)
        clear hK K
        try simp only [Act.put, List.setIfInBounds_toArray, List.set_cons_zero, List.set_cons_succ]
        refine wpAnyH_done (by kernel_rfl) ?_ _
        have HT := Lib.hid (show (fun w' : World => Tri w' p ⟨gk, gs, gl, gt⟩ ⟨hk, hs', hl, ht⟩ ⟨k, s, l, t⟩ ∧ Below w.heap.size w w') U from ⟨hm.1, hS.2.2.2⟩)
        clear hS hm hb g1 g2 g3 g4 HM0 HM HS
        have hck := fits_any ⟨gk, gs, gl, gt⟩ ⟨hk, hs', hl, ht⟩ ⟨k, s, l, t⟩ HOX.out HOY.out HOx.out
        have hrk := rfits_any ⟨gk, gs, gl, gt⟩ ⟨hk, hs', hl, ht⟩ ⟨k, s, l, t⟩ HOX.out HOY.out HOx.out
        unfold tri at hck hrk
        dsimp only at hck hrk
        generalize fitsOf _ _ _ = cg at hck hrk
        have HCK := Lib.hid hck
        have HRK := Lib.hid hrk
        clear hck hrk
        go_wp2_with fail
        obtain ⟨V6, hV6⟩ : ∃ V6, V6 = U.drew := ⟨_, rfl⟩
        have hS : (fun w' : World => Tri w' p ⟨gk, gs, gl, gt⟩ ⟨hk, hs', hl, ht⟩ ⟨k, s, l, t⟩ ∧ Below w.heap.size w w') V6 := by subst hV6; exact ⟨HT.out.1, HT.out.2.drew⟩
        refine wp_region_any (by kernel_rfl) ?_
        change wpAny _ _ _ _ _ _ _ (World.drew _)
        rw [← hV6]
        clear hV6
        refine wpAny_of_held (S := fun w' : World => Tri w' p ⟨gk, gs, gl, gt⟩ ⟨hk, hs', hl, ht⟩ ⟨k, s, l, t⟩ ∧ Below w.heap.size w w') _ _ _ _ ?_
        try simp only [Act.put, List.setIfInBounds_toArray, List.set_cons_zero, List.set_cons_succ]
        refine wpAnyH_take (i := 0) (oi := ⟨some 39, _, _, _, _, _⟩) (v := ?_) rfl (by kernel_rfl) (by kernel_rfl) (by kernel_rfl) (fun _ _ _ h => h) (Or.inl ⟨by simp only [Region.wanted], ?_⟩) hS ?_
        rotate_left
        · intro wz hSw; obtain ⟨⟨c0, c1, c2, c3, c4, c5, c6, c7, c8, c9, c10, c11⟩, -⟩ := hSw
          (try dsimp only at hSw)
          (try go_split_ands)
          go_simp
          first | done | with_reducible rfl
        try simp only [Act.put, List.setIfInBounds_toArray, List.set_cons_zero, List.set_cons_succ]
        refine wpAnyH_take (i := 2) (oi := ⟨some 41, _, _, _, _, _⟩) (v := ?_) rfl (by kernel_rfl) (by kernel_rfl) (by kernel_rfl) (fun _ _ _ h => h) (Or.inl ⟨by simp only [Region.wanted], ?_⟩) hS ?_
        rotate_left
        · intro wz hSw; obtain ⟨⟨c0, c1, c2, c3, c4, c5, c6, c7, c8, c9, c10, c11⟩, -⟩ := hSw
          (try dsimp only at hSw)
          (try go_split_ands)
          go_simp
          first | done | with_reducible rfl
        try simp only [Act.put, List.setIfInBounds_toArray, List.set_cons_zero, List.set_cons_succ]
        refine wpAnyH_ready (rs := [1]) (by kernel_rfl) (by simp) ?_
        refine AllReadyH.cons (o := ⟨some 40, _, _, _, _, _⟩) rfl (fun K hK => ?_) AllReadyH.nil
        go_simp
        refine (HCK.out _).mono ?_
        rintro e V7 ⟨rfl, hb1⟩
        go_simp
        refine hK.out _ _ (⟨hS.1.below hb1, hS.2.trans (hb1.mono hS.2.size)⟩) (fun hS => ?_)
        clear hK K
        try simp only [Act.put, List.setIfInBounds_toArray, List.set_cons_zero, List.set_cons_succ]
        clear hb1
        refine wpAnyH_ready (rs := [3]) (by kernel_rfl) (by simp) ?_
        refine AllReadyH.cons (o := ⟨some 42, _, _, _, _, _⟩) rfl (fun K hK => ?_) AllReadyH.nil
        go_simp
        refine (HRK.out _).mono ?_
        rintro e V8 ⟨rfl, hb1⟩
        go_simp
        refine hK.out _ _ (⟨hS.1.below hb1, hS.2.trans (hb1.mono hS.2.size)⟩) (fun hS => ?_)
        clear hK K
        try simp only [Act.put, List.setIfInBounds_toArray, List.set_cons_zero, List.set_cons_succ]
        clear hb1
        refine wpAnyH_take (i := 4) (oi := ⟨some 43, _, _, _, _, _⟩) (v := ?_) rfl (by kernel_rfl) (by kernel_rfl) (by kernel_rfl) (fun _ _ _ h => h) (Or.inl ⟨by simp only [Region.wanted], ?_⟩) hS ?_
        rotate_left
        · intro wz hSw
          clear hSw
          go_simp
          first | done | with_reducible rfl
        try simp only [Act.put, List.setIfInBounds_toArray, List.set_cons_zero, List.set_cons_succ]
        refine wpAnyH_take (i := 5) (oi := ⟨some 8, _, _, _, _, _⟩) (v := ?_) rfl (by kernel_rfl) (by kernel_rfl) (by kernel_rfl) (fun _ _ _ h => h) (Or.inl ⟨by simp only [Region.wanted], ?_⟩) hS ?_
        rotate_left
        · intro wz hSw
          clear hSw
          go_simp
          first | done | with_reducible rfl
        try simp only [Act.put, List.setIfInBounds_toArray, List.set_cons_zero, List.set_cons_succ]
        refine wpAnyH_done (by kernel_rfl) ?_ _
        have HE := Lib.hid hS.2
        clear hS HCK HRK
        go_wp2_with fail
        go_ret
        exact ⟨rfl, HE.out⟩
end Go.Proofs.Ytpoacgnncinmiaa
