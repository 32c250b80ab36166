/- HexaWhich: for every input the law returns true and the input reads as it did; the orders lie as the text lays them. The frame is the guide's; the walk is in Dh. -/
import Derived.Test.YtpfjbcfnpfgidaaDoorRows
import Derived.Test.YtpfjbcfnpfgidaaDoorCards
import Derived.Test.YtpfjbcfnpfgidaaDoorTie
import Derived.Test.YtpfjbcfnpfgidaaDoorDh
import Derived.WalkKit
import Derived.ProofKit
import Derived.OpenShut
import Derived.ChangeOld
import Derived.LaidMore
import Derived.LaidLaws
import Derived.MakeChecks
import Derived.SevenTiedAt
import Derived.Below
namespace Go.Proofs.YtpfjbcfnpfgidaaDoor.hexaWhich
open Go.ChangeShapes Go.WideShapes Go.ChangeAt Go.RowKit
set_option linter.unusedVariables false
set_option maxRecDepth 100000

theorem own : ownKnob Tryd.prog.godebug = none := by kernel_rfl
theorem laidOut : laidOutB Tryd.prog = true := by kernel_rfl
theorem gOrd : Tryd.prog.globalNamed "triad/hexa.orders" = some 0 := by kernel_rfl
theorem tOrd : (Tryd.prog.globals[0]?).map (·.type) = some 31 := by kernel_rfl
theorem open3 {H : Type} {enc : TypeId × Value → H} {w : World} {base : Nat} {sp : Nat → Bool} {hd : Bool} {fuel : Nat} {ty : TypeId} {cs : List Value} {x : DataW H × List MemPlace}
    (ht : Tryd.prog.underlying ty = some (.array 3 3)) (hc : Tryd.prog.cellsOf ty = 3) (h : DataW.trod enc Tryd.prog w base sp hd fuel ty cs = some x) :
    ∃ a b c : Int, cs = [.int .i64 a, .int .i64 b, .int .i64 c] ∧ x.1 = .agg [.lit (.int .i64 a), .lit (.int .i64 b), .lit (.int .i64 c)] := by
  obtain ⟨xs, m, rfl, hx, hlen, hn, hel⟩ := DataW.trod_array ht h
  have c3 : Tryd.prog.cellsOf 3 = 1 := by kernel_rfl
  rw [hc] at hlen
  rw [c3] at hel
  match cs, hlen with
  | [u0, u1, u2], _ =>
    match xs, hn with
    | [x0, x1, x2], _ =>
      obtain ⟨k0, e0, f0, -⟩ := DataW.trod_int Tryd.underlying3 (show DataW.trod enc Tryd.prog w base sp hd m 3 [u0] = some x0 from hel 0 (by decide))
      obtain ⟨k1, e1, f1, -⟩ := DataW.trod_int Tryd.underlying3 (show DataW.trod enc Tryd.prog w base sp hd m 3 [u1] = some x1 from hel 1 (by decide))
      obtain ⟨k2, e2, f2, -⟩ := DataW.trod_int Tryd.underlying3 (show DataW.trod enc Tryd.prog w base sp hd m 3 [u2] = some x2 from hel 2 (by decide))
      simp only [List.cons.injEq, and_true] at e0 e1 e2
      subst e0 e1 e2 f0 f1 f2
      exact ⟨k0, k1, k2, rfl, by rw [hx]; rfl⟩
/-- The door's own heap meets the condition. -/
theorem door_met (os : Os) (args : Array Value) : laidMetH Tryd.prog [("triad/hexa.orders", Rows.laid_triad_hexa_orders)] ((World.doorLaid Tryd.prog 400 os).forCall (fun _ _ => 0) ⟨#[], args, []⟩).memory :=
  laidMetH_of_parts3 (fuel := 8) (laidMet_of_run' 8 (by kernel_rfl) (by kernel_rfl)) (by kernel_rfl) (by kernel_rfl)
theorem of_laid {W : World} (h : laidMetH Tryd.prog [("triad/hexa.orders", Rows.laid_triad_hexa_orders)] W) : OrdAt W := by
  rw [MakeChecks.laidMetH_plain _ _ _ (by kernel_rfl)] at h
  obtain ⟨ps, ⟨g0, t0, cs0, f0, p0, q0, hg0, ht0, hv0, hd0, -, -⟩, -, -⟩ := h
  obtain rfl := Option.some.inj (gOrd.symm.trans hg0)
  obtain rfl := Option.some.inj (tOrd.symm.trans ht0)
  obtain ⟨xs, m, rfl, hx, hlen, hn, hel⟩ := DataW.trod_array Tryd.underlying31 hd0
  have c30 : Tryd.prog.cellsOf 30 = 3 := by kernel_rfl
  rw [c30] at hel
  have hcell := World.var?_cell hg0 hv0
  simp only [Prod.mk.injEq, Rows.laid_triad_hexa_orders, DataW.agg.injEq] at hx
  match xs, hn with
  | [x0, x1, x2, x3, x4, x5], _ =>
    simp only [List.map_cons, List.map_nil, List.cons.injEq, and_true] at hx
    obtain ⟨⟨hx0, hx1, hx2, hx3, hx4, hx5⟩, -⟩ := hx
    have key : ∀ i a b c : Nat, ∀ y : DataW Unit × List MemPlace, [x0, x1, x2, x3, x4, x5][i]? = some y → i < 6 → DataW.agg [.lit (.int .i64 a), .lit (.int .i64 b), .lit (.int .i64 c)] = y.1 →
        W.cell? ⟨0, i * 3, none⟩ = some (.int .i64 a) ∧ W.cell? ⟨0, i * 3 + 1, none⟩ = some (.int .i64 b) ∧ W.cell? ⟨0, i * 3 + 2, none⟩ = some (.int .i64 c) := by
      intro i a b c y hy hi e
      obtain ⟨a', b', c', e1, e2⟩ := open3 Tryd.underlying30 c30 ((hel i hi).trans hy)
      rw [e2] at e
      simp only [DataW.agg.injEq, List.cons.injEq, DataW.lit.injEq, Lit.int.injEq, true_and, and_true] at e
      obtain ⟨rfl, rfl, rfl⟩ := e
      have q : ∀ j, j < 3 → cs0.toList[i * 3 + j]? = ([.int .i64 a, .int .i64 b, .int .i64 c] : List Value)[j]? := fun j hj => by
        rw [← e1, List.getElem?_take_of_lt hj, List.getElem?_drop]
      have q0 := q 0 (by decide)
      have q1 := q 1 (by decide)
      have q2 := q 2 (by decide)
      rw [Array.getElem?_toList] at q0 q1 q2
      exact ⟨(hcell _).trans q0, (hcell _).trans q1, (hcell _).trans q2⟩
    have k0 := key 0 0 1 2 x0 rfl (by decide) hx0
    have k1 := key 1 0 2 1 x1 rfl (by decide) hx1
    have k2 := key 2 1 0 2 x2 rfl (by decide) hx2
    have k3 := key 3 1 2 0 x3 rfl (by decide) hx3
    have k4 := key 4 2 0 1 x4 rfl (by decide) hx4
    have k5 := key 5 2 1 0 x5 rfl (by decide) hx5
    refine ⟨?_, k0.1, k0.2.1, k0.2.2, k1.1, k1.2.1, k1.2.2, k2.1, k2.2.1, k2.2.2, k3.1, k3.2.1, k3.2.2, k4.1, k4.2.1, k4.2.2, k5.1, k5.2.1, k5.2.2⟩
    exact World.block_lt_of_cell? W _ k0.1
theorem okWide_arr3 {w : World} {r : Reach} {base : Nat} {v : Value} {ty : TypeId} {n : Nat} {e : TypeId} (ht : Tryd.prog.underlying ty = some (.array n e)) (h : Value.okWide Tryd.prog w r base ty v) : ∃ cs, v = .agg cs := by
  simp only [Value.okWide, ht] at h
  obtain ⟨cs, h1, _⟩ := h
  exact ⟨cs, h1⟩
theorem lifted (os : Os) (started : os.Started) (H : Type) (enc : TypeId × Value → H) :
    ReturnsInHanded {} Tryd.checked os 3 .any (fun w args => (Rows.hexaWhichSpec.pre enc Tryd.prog Tryd.f3 [] false w args ∧ laidMetH Tryd.prog [("triad/hexa.orders", Rows.laid_triad_hexa_orders)] w) ∧ sizedMet enc Tryd.prog Tryd.f3 (OpenSpec.ofChange Rows.hexaWhichSpec) false w args)
      (Rows.hexaWhichSpec.post enc Tryd.prog Tryd.f3 false true false false) := by
  refine returnsInHanded_of_change_and (C := Tryd.checked) (X := fun w _ => laidMetH Tryd.prog [("triad/hexa.orders", Rows.laid_triad_hexa_orders)] w) (fun _ _ _ hh h => h.of_heap hh) own started (by kernel_rfl) Tryd.func3
    (ChangeSpec.witness_shaped (enc := enc) (C := Tryd.checked) (os := os) (X := fun w _ => laidMetH Tryd.prog [("triad/hexa.orders", Rows.laid_triad_hexa_orders)] w) false (World.doorLaid Tryd.prog 400 os) #[.agg #[.int .i64 0, .int .i64 0, .int .i64 0]] 8 rfl (World.shaped_of_RefB (by kernel_rfl) (by kernel_rfl)) (by kernel_rfl) (by kernel_rfl) (by kernel_rfl) (door_met os _)) ?_
  intro W base args ds gs before hval0 hW _ _ hL _
  have hval : ∀ (j : Nat) t v, Tryd.f3.params[j]? = some t → args[j]? = some v → Value.okWide Tryd.prog W .any base t v := hval0
  have hW' := hW
  obtain ⟨p, q, hA0, hV, rfl, hfz, hnd⟩ := hW
  have hA : DataW.TrodAll enc Tryd.prog W 0 (fun _ => true) true Tryd.f3.params.toList args.toList ds p := hA0
  rw [Tryd.params3] at hA hval
  obtain ⟨v0, vs0, d0, ds0, p0, q0, hargs, rfl, rfl, h0, r0⟩ := trodAll_cons hA
  obtain ⟨rfl, rfl, rfl⟩ := trodAll_nil r0
  obtain rfl : args = #[v0] := by cases args; simp_all
  obtain ⟨rfl, rfl⟩ := trodVars_none hV
  obtain ⟨cs, rfl⟩ := okWide_arr3 Tryd.underlying22 (hval 0 22 v0 rfl rfl)
  have k0 := h0
  have lt0 : ∀ x ∈ p0, x.block < W.heap.size := by obtain ⟨m, hm⟩ := k0; exact DataW.trod_lt m _ _ _ hm
  obtain ⟨fuel, hf⟩ := h0
  obtain ⟨a, b, c, hcs, -⟩ := open3 Tryd.underlying22 (by kernel_rfl) hf
  obtain rfl : cs = #[.int .i64 a, .int .i64 b, .int .i64 c] := by
    cases cs with | mk l => simpa [Value.cells] using hcs
  have ho := of_laid hL
  clear hA0 hval0
  refine (hexawhich_walk a b c W ho).mono fun e W' ⟨he, bel⟩ => ?_
  subst he
  exact ⟨_, rfl, _, _, _, [], _, [], hW', trodAll_mk1 (shut_bool Tryd.underlying4 _), (trodAll_cons_mk (Below.trod laidOut (by kernel_rfl) (of_decide_eq_true (by kernel_rfl)) k0 bel lt0) trodAll_mk0), rfl, bel.frame _, fun h => by cases h⟩

theorem over : Rows.HexaWhichSaid :=
  OpenClaim.holds_of_wide 3 Tryd.f3 rfl rfl rfl rfl rfl rfl rfl ⟨rfl, rfl, rfl, rfl, rfl⟩ rfl rfl rfl rfl rfl (by kernel_rfl) Tryd.func3 (by kernel_rfl)
    (of_decide_eq_true (by kernel_rfl)) (by unfold Func.isWrapper; first | (rw [if_pos (by decide +kernel)]; kernel_rfl) | (rw [if_neg (by decide +kernel)]; exact ⟨rfl, rfl⟩))
    (fun os started H enc _ => lifted os started H enc)

theorem proved : Rows.HexaWhichCardSaid :=
  Claim7.holds_tied_plain_at .later [] [.wider] true (true, "aa33261138f4a465e3267f7e41b7facdb840072c875b2a79f824f0692a8a3b5a") false
    over (fun _ h => by cases h) (by kernel_rfl) (fun _ h => by cases h) hexaWhich_row_tie rfl ⟨rfl, rfl⟩ (by kernel_rfl) rfl
    (fun f fn hf hfn => by
      obtain rfl : f = 3 := Option.some.inj ((show Tryd.prog.funcNamed "triad/triadlaw8.HexaWhich" = some 3 by kernel_rfl).symm.trans hf) |>.symm
      obtain rfl : fn = Tryd.f3 := (Option.some.inj (Tryd.func3.symm.trans hfn)).symm
      exact ⟨by kernel_rfl, fun j t ht => by
        rw [Tryd.params3] at ht
        have hm : t ∈ [22] := by simpa using Array.mem_of_getElem? ht
        have hall : ([22].all fun u => !Tryd.prog.wantsStandIn u) = true := by kernel_rfl
        exact (show Tryd.prog.wantsStandIn t = false by simpa using List.all_eq_true.1 hall t hm)⟩)
    (by kernel_rfl)
end Go.Proofs.YtpfjbcfnpfgidaaDoor.hexaWhich
