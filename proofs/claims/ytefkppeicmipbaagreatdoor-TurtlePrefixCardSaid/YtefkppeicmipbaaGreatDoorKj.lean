/- References: folder. -/
import Derived.Test.YtefkppeicmipbaaGreatDoorKi
namespace Go.Proofs.YtefkppeicmipbaaGreatDoor
open Go.RowKit Go.Shelf
set_option maxRecDepth 100000
set_option linter.unusedVariables false
theorem dir_len (l : List UInt8) : (dirL l).length ≤ l.length ∧ lastI l = ((dirL l).length : Int) - 1 ∧ l.take (dirL l).length = dirL l := by
  rcases last_slash l with ⟨h1, -, h3⟩ | ⟨x, y, e, -, h2, h3⟩
  · rw [h3]
    exact ⟨Nat.zero_le _, by unfold lastI; rw [h1]; rfl, rfl⟩
  · have hc : l.contains 47 = true := by rw [e]; simp
    rw [h3]
    refine ⟨by rw [e]; simp, ?_, ?_⟩
    · unfold lastI
      rw [hc, h2]
      simp
    · rw [e, List.length_append, List.take_append, List.take_of_length_le (by simp)]
      simp
theorem ifolder_any (b0 b1 b2 b3 b4 : ByteArray) (hs : b2.size ≤ 1000000) (r : ByteArray) (hr : r.data.toList = if ¬ b1.data.toList = [] ∧ b2.data.toList = [] then [47] else dirL b2.data.toList) (w : World) :
    Calls Tryz.prog 99 #[.agg #[.string b0, .string b1, .string b2, .string b3, .string b4]] w fun e w' => e = .returned (.string r) ∧ Below w.heap.size w w' := by
  have e1 : b1.toList.isEmpty = decide (b1.data.toList = []) := by
    rw [Lib.toList_data]
    cases b1.data.toList <;> simp
  have e2 : b2.toList.isEmpty = decide (b2.data.toList = []) := by
    rw [Lib.toList_data]
    cases b2.data.toList <;> simp
  have hd := dir_len b2.data.toList
  have HLI := Lib.hid (fun w => slast_any b2 hs w)
  rw [hd.2.1] at HLI
  obtain ⟨K, hK⟩ : ∃ K, K = (dirL b2.data.toList).length := ⟨_, rfl⟩
  rw [← hK] at HLI hd
  have hkl : (K : Int) ≤ b2.size := by have := hd.1; rw [← Lib.size_eq] at this; omega
  have hbz : (b2.size : Int) ≤ 1000000 := by omega
  obtain ⟨q, hq⟩ : ∃ q, b2.extract 0 K = q := ⟨_, rfl⟩
  have HX := Lib.hid (show q.data.toList = dirL b2.data.toList from by rw [← hq, ext_toK, hd.2.2])
  have hbel : Below w.heap.size w (w.alloc (.cells #[.string b0, .string b1, .string b2, .string b3, .string b4] 109)) := (Below.refl _ _).alloc (Nat.le_refl _) _
  have hB := Blk.new w #[.string b0, .string b1, .string b2, .string b3, .string b4] 109
  have z1 := hB.cell 1
  have z2 := hB.cell 2
  simp only [List.getElem?_toArray, List.getElem?_cons_zero, List.getElem?_cons_succ] at z1 z2
  have HR := Lib.hid hr
  have HBEL := Lib.hid hbel
  clear hd hK hr hbel hB hs
  by_cases c1 : b1.data.toList = []
  · rw [decide_eq_true c1] at e1
    have HC := Lib.hid c1
    clear c1
    go_enter Tryz.func99, Tryz.ntmps99
    go_wp2_with fail
    go_quiet ((go_at_call 112; exact Calls.quiet_of_same (HLI.out _)))
    go_wp2_with fail
    go_ret
    refine ⟨?_, HBEL.out.trans ((draws_tK _ _).mono HBEL.out.size)⟩
    exact congrArg (fun x => Ending.returned (Value.string x)) (ba_extK (by rw [HX.out, HR.out, if_neg (fun e => e.1 HC.out)]))
  rw [decide_eq_false c1] at e1
  have HC1 := Lib.hid c1
  clear c1
  by_cases c2 : b2.data.toList = []
  · rw [decide_eq_true c2] at e2
    have HC := Lib.hid c2
    clear c2
    go_enter Tryz.func99, Tryz.ntmps99
    go_wp2_with fail
    go_ret
    refine ⟨?_, HBEL.out⟩
    exact congrArg (fun x => Ending.returned (Value.string x)) (ba_extK (by rw [HR.out, if_pos ⟨HC1.out, HC.out⟩]))
  · rw [decide_eq_false c2] at e2
    have HC := Lib.hid c2
    clear c2
    go_enter Tryz.func99, Tryz.ntmps99
    go_wp2_with fail
    go_quiet ((go_at_call 112; exact Calls.quiet_of_same (HLI.out _)))
    go_wp2_with fail
    go_ret
    refine ⟨?_, HBEL.out.trans ((draws_tK _ _).mono HBEL.out.size)⟩
    exact congrArg (fun x => Ending.returned (Value.string x)) (ba_extK (by rw [HX.out, HR.out, if_neg (fun e => HC.out e.2)]))
end Go.Proofs.YtefkppeicmipbaaGreatDoor
