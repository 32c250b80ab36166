/- The walk of the law PagerBusy, and of known. -/
import Derived.Test.YtcnfnpccbnnplaaPgSz
namespace Go.Proofs.Ytcnfnpccbnnplaa
open Go.RowKit Go.Maps
set_option maxRecDepth 100000

def NoX : Nat → Prop := fun _ => False
theorem nox_lt (w : World) : ∀ k, NoX k → k < w.heap.size := fun _ h => h.elim
theorem new_page {N : Nat} (h : 2 ≤ N) : ∃ rest, (Lg.new N).free = 1 :: rest ∧ rest = List.range' 2 (N - 2) := by
  refine ⟨List.range' 2 (N - 2), ?_, rfl⟩
  show List.range' 1 (N - 1) = _
  rw [show N - 1 = (N - 2) + 1 by omega, List.range'_succ]
theorem lgNew_new {N : Nat} (h : 2 ≤ N) : lgNew (some (Lg.new N)) = (1, 0, some { Lg.new N with free := List.range' 2 (N - 2), page := upd (Lg.new N).page 1 (zeros 504) }) := by
  obtain ⟨rest, h1, rfl⟩ := new_page h
  unfold lgNew
  simp only [h1]
  rfl

theorem known4_any (w : World) : Calls Try.prog 8 #[] w fun e w' => e = .returned (.bool true) ∧ Below w.heap.size w w' := by
  go_enter Try.func8, Try.ntmps8
  go_wp2_with fail
  refine (nd_new (w0 := w) (X := NoX) 420 420 rfl (by omega) (by omega) (Below.refl _ w) (nox_lt w)).mono ?_
  rintro e w1 ⟨r, rfl, h1, -⟩
  have H1 := Lib.hid h1
  clear h1
  go_wp2_with fail
  refine (nd_open (N := 19) H1.out (by omega) (by omega)).mono ?_
  rintro e w2 ⟨p, rfl, h2, -⟩
  have H2 := Lib.hid h2
  clear h2
  go_wp2_with fail
  refine (ps_begin H2.out).mono ?_
  rintro e w3 ⟨rfl, h3, -⟩
  have H3 := Lib.hid h3
  clear h3
  go_wp2_with fail
  refine (ps_new H3.out (by omega)).mono ?_
  rw [lgNew_new (by omega)]
  rintro e w4 ⟨rfl, h4, -⟩
  have H4 := Lib.hid h4.below
  clear h4
  go_wp2_with fail
  refine (nd_new (w0 := w) (X := NoX) 402 402 rfl (by omega) (by omega) H4.out (nox_lt _)).mono ?_
  rintro e w5 ⟨r5, rfl, h5, -⟩
  have H5 := Lib.hid h5
  clear h5
  go_wp2_with fail
  refine (nd_small H5.out).mono ?_
  rintro e w6 ⟨rfl, h6⟩
  have H6 := Lib.hid (H5.out.below.trans (h6.mono H5.out.below.size))
  clear h6
  go_wp2_with fail
  go_ret
  exact ⟨rfl, H6.out⟩

end Go.Proofs.Ytcnfnpccbnnplaa
