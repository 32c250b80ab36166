/- The walk of the law PagerBusy, and of known. -/
import Derived.Test.YtbdmlhmmdcdppaaPgSz
namespace Go.Proofs.Ytbdmlhmmdcdppaa
open Go.RowKit Go.Maps
set_option maxRecDepth 100000

def NoX : Nat → Prop := fun _ => False
theorem nox_lt (w : World) : ∀ k, NoX k → k < w.heap.size := fun _ h => h.elim
theorem new_page {N : Nat} (h : 2 ≤ N) : ∃ rest, (Lg.new N).free = 1 :: rest ∧ rest = List.range' 2 (N - 2) := by
  refine ⟨List.range' 2 (N - 2), ?_, rfl⟩
  show List.range' 1 (N - 1) = _
  rw [show N - 1 = (N - 2) + 1 by omega, List.range'_succ]
theorem lgNew_new {N : Nat} (h : 2 ≤ N) : lgNew (some (Lg.new N)) = (1, 0, some { Lg.new N with free := List.range' 2 (N - 2), page := upd (Lg.new N).page 1 (zeros 504) }) := by
  obtain ⟨rest, h1, rfl⟩ := new_page h
  unfold lgNew
  simp only [h1]
  rfl

theorem known4_any (w : World) : Calls Try.prog 10 #[] w fun e w' => e = .returned (.bool true) ∧ Below w.heap.size w w' := by
  go_enter Try.func10, Try.ntmps10
  go_wp2_with fail
  refine (nd_new (w0 := w) (X := NoX) 420 420 rfl (by omega) (by omega) (Below.refl _ w) (nox_lt w)).mono ?_
  rintro e w1 ⟨r, rfl, h1, -⟩
  have H1 := Lib.hid h1
  clear h1
  go_wp2_with fail
  refine (nd_open (N := 19) H1.out (by omega) (by omega)).mono ?_
  rintro e w2 ⟨p, rfl, h2, -⟩
  have H2 := Lib.hid h2
  clear h2
  go_wp2_with fail
  refine (ps_begin H2.out).mono ?_
  rintro e w3 ⟨rfl, h3, -⟩
  have H3 := Lib.hid h3
  clear h3
  go_wp2_with fail
  refine (ps_new H3.out (by omega)).mono ?_
  rw [lgNew_new (by omega)]
  rintro e w4 ⟨rfl, h4, -⟩
  have H4 := Lib.hid h4.below
  clear h4
  go_wp2_with fail
  refine (nd_new (w0 := w) (X := NoX) 402 402 rfl (by omega) (by omega) H4.out (nox_lt _)).mono ?_
  rintro e w5 ⟨r5, rfl, h5, -⟩
  have H5 := Lib.hid h5
  clear h5
  go_wp2_with fail
  refine (nd_small H5.out).mono ?_
  rintro e w6 ⟨rfl, h6⟩
  have H6 := Lib.hid (H5.out.below.trans (h6.mono H5.out.below.size))
  clear h6
  go_wp2_with fail
  go_ret
  exact ⟨rfl, H6.out⟩

set_option maxHeartbeats 4000000 in
theorem busy_walk (n : Int) (hn : (Lit.int .i64 n).wf = true) (v : Value) (l : List UInt8) (w : World) (hv : Bs w v l) :
    Calls Try.prog 7 #[.int .i64 n, v] w fun e w' => e = .returned (.bool true) ∧ Below w.heap.size w w' := by
  have HV := Lib.hid hv
  have HN := Lib.hid hn
  obtain ⟨ao, cap, rfl, -⟩ := id hv
  clear hv hn
  obtain ⟨m, hm⟩ : ∃ m, m = l.length := ⟨_, rfl⟩
  have HM := Lib.hid hm
  rw [← hm] at HV ⊢
  clear hm
  go_enter Try.func7, Try.ntmps7
  go_wp2_with fail
  refine (known4_any w).mono ?_
  rintro e w0 ⟨rfl, h0⟩
  have H0 := Lib.hid h0
  clear h0
  go_wp2_with fail
  refine (nd_new (w0 := w) (X := NoX) 420 420 rfl (by omega) (by omega) H0.out (nox_lt _)).mono ?_
  rintro e w1 ⟨r, rfl, h1, -⟩
  have H1 := Lib.hid h1
  clear h1
  go_wp2_with fail
  refine (nd_open (N := 19) H1.out (by omega) (by omega)).mono ?_
  rintro e w2 ⟨p, rfl, h2, -⟩
  have H2 := Lib.hid h2
  clear h2
  by_cases hl : 504 < m
  · have hl' : (504 : Int) < m := by omega
    go_wp2_with fail
    go_ret
    exact ⟨rfl, H2.out.below⟩
  have hl' : ¬ (504 : Int) < m := by omega
  go_wp2_with fail
  refine (ps_new H2.out (by omega)).mono ?_
  rintro e w3 ⟨rfl, h3, -⟩
  have H3 := Lib.hid h3
  clear h3
  go_wp2_with fail
  refine (ps_put (c := 0 + 1) 1 (by decide) _ l (HV.out.below H3.out.below) H3.out (by omega)).mono ?_
  rintro e w4 ⟨rfl, h4, -⟩
  have H4 := Lib.hid h4
  clear h4
  go_wp2_with fail
  refine (ps_drop (c := 0 + 1 + 1) 1 H4.out).mono ?_
  rintro e w5 ⟨rfl, h5, -⟩
  have H5 := Lib.hid h5
  clear h5
  go_wp2_with fail
  refine (ps_setroot (c := 0 + 1 + 1 + 1) n HN.out H5.out).mono ?_
  rintro e w6 ⟨rfl, h6, -⟩
  have h6' : Ps w w6 NoX r p 19 (0 + 1 + 1 + 1) (Lg.new 19) none := by
    by_cases hn : 0 ≤ n
    · rw [if_pos hn] at h6; exact h6
    · rw [if_neg hn] at h6; exact h6
  have H6 := Lib.hid h6'
  clear h6 h6'
  go_wp2_with fail
  refine (ps_commit (c := 0 + 1 + 1 + 1) H6.out (by omega)).mono ?_
  rintro e w7 ⟨rfl, h7, -⟩
  have H7 := Lib.hid h7
  clear h7
  go_wp2_with fail
  refine (ps_begin (c := 0 + 1 + 1 + 1 + 1) H7.out).mono ?_
  rintro e w8 ⟨rfl, h8, -⟩
  have H8 := Lib.hid h8
  clear h8
  go_wp2_with fail
  refine (ps_busy (c := 0 + 1 + 1 + 1 + 1) H8.out).mono ?_
  rintro e w9 ⟨rfl, he⟩
  replace he := he.symm
  subst he
  go_wp2_with fail
  refine (ps_new (c := 0 + 1 + 1 + 1 + 1) H8.out (by omega)).mono ?_
  rw [show (lgCommit (Lg.new 19) none).2 = Lg.new 19 from rfl, lgNew_new (by omega)]
  rintro e w10 ⟨rfl, h10, -⟩
  have H10 := Lib.hid h10
  clear h10
  go_wp2_with fail
  refine (ps_put (c := 0 + 1 + 1 + 1 + 1 + 1) 1 (by decide) _ l (HV.out.below H10.out.below) H10.out (by omega)).mono ?_
  have hu : lgUsed 19 { Lg.new 19 with free := List.range' 2 (19 - 2), page := upd (Lg.new 19).page 1 (zeros 504) } 1 := by
    refine ⟨by omega, by omega, fun hm => ?_⟩
    have := List.mem_range'_1.1 hm
    omega
  rw [lgPut_some, if_pos hu, if_neg (by rw [← HM.out]; exact hl)]
  rintro e w11 ⟨rfl, h11, -⟩
  have H11 := Lib.hid h11
  clear h11 hu
  go_wp2_with fail
  refine (ps_abort (c := 0 + 1 + 1 + 1 + 1 + 1 + 1) H11.out).mono ?_
  rintro e w12 ⟨rfl, h12, -⟩
  have H12 := Lib.hid h12
  clear h12
  go_wp2_with fail
  refine (ps_get (c := 0 + 1 + 1 + 1 + 1 + 1 + 1) 1 H12.out).mono ?_
  have hu : ¬ lgUsed 19 (Option.getD none (Lg.new 19)) 1 := by
    intro hu
    exact hu.2.2 (List.mem_range'_1.2 (by decide))
  rw [if_neg hu, if_neg hu]
  rintro e w13 ⟨v13, rfl, -, -, h13⟩
  have H13 := Lib.hid (H12.out.grow h13)
  clear h13 hu
  go_wp2_with fail
  refine (ps_begin (c := 0 + 1 + 1 + 1 + 1 + 1 + 1) H13.out).mono ?_
  rintro e w14 ⟨rfl, h14, -⟩
  have H14 := Lib.hid h14.below
  clear h14
  go_wp2_with fail
  go_ret
  exact ⟨rfl, H14.out⟩
end Go.Proofs.Ytbdmlhmmdcdppaa
