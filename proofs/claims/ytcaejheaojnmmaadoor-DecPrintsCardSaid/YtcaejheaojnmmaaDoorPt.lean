/- DecPrints: the walk. -/
import Derived.Test.YtcaejheaojnmmaaDoorPs
import Derived.Test.YtcaejheaojnmmaaDoorRj
namespace Go.Proofs.YtcaejheaojnmmaaDoor
open Go.RowKit Go.Shelf
set_option maxRecDepth 100000
set_option linter.unusedVariables false
set_option linter.unusedSimpArgs false

theorem print_len (m s : Int) (h : GoodD m s) : (⟨(printL m s.toNat).toArray⟩ : ByteArray).size ≤ 40 := by
  obtain ⟨k, rfl⟩ : ∃ k : Nat, s = k := ⟨s.toNat, by have := h.2.2.1; omega⟩
  have hk : k ≤ 6 := by have := h.2.2.2.1; omega
  have hn : m.natAbs ≤ 999999999999999 := by have := h.1; have := h.2.1; omega
  have hL := lenD_le m.natAbs k hn hk
  have hl := padL_length m.natAbs k
  show (printL m (k : Int).toNat).toArray.size ≤ 40
  simp only [Int.toNat_natCast, List.size_toArray]
  have ha : (absP m.natAbs k).length ≤ 32 := by
    unfold absP
    rw [List.length_append, List.length_take]
    split
    · simp; omega
    · simp; omega
  unfold printL
  split
  · simp; omega
  · omega

set_option maxHeartbeats 4000000 in
theorem prints13_walk (a p : Int) (w : World) (ha : In64 a) (hp : In64 p) (hY : TabP w) :
    Calls Tryd.prog 4 #[.int .i64 a, .int .i64 p] w fun e w' => e = .returned (.bool true) ∧ Below w.heap.size w w' := by
  have HK := Lib.hid (known13_any w)
  have HG := Lib.hid (fun w => good_in a p w ha hp)
  obtain ⟨m, hm⟩ : ∃ m, m = (goodP a p).1 := ⟨_, rfl⟩
  obtain ⟨s, hs⟩ : ∃ s : Int, s = ((goodP a p).2 : Int) := ⟨_, rfl⟩
  have h1 : GoodD m s := by rw [hm, hs]; exact good_good a p
  rw [← hm, ← hs] at HG
  clear hm hs ha hp
  have hsz := print_len m s h1
  have HP := Lib.hid (fun w ht => print_any m s w h1 ht)
  have HR := Lib.hid (fun w => rprint_any m s w h1)
  have HA := fun w => parse_any ⟨(printL m s.toNat).toArray⟩ w (by omega)
  rw [show (⟨(printL m s.toNat).toArray⟩ : ByteArray).data.toList = printL m s.toNat from rfl, print_back m s h1] at HA
  have HA := Lib.hid HA
  generalize (⟨(printL m s.toNat).toArray⟩ : ByteArray) = V at HP HR HA hsz
  have HE := fun w => equal_dec m s m s w
  have HT := Lib.hid hY
  clear hY h1
  go_enter Tryd.func4, Tryd.ntmps4
  go_wp2_with fail
  refine HK.out.mono ?_
  rintro e w1 ⟨rfl, hb1⟩
  have HB1 := Lib.hid hb1
  clear hb1
  go_wp2_with fail
  (with_reducible refine (HG.out _).mono ?_)
  rintro e w2 ⟨rfl, hb2⟩
  have HB2 := Lib.hid (HB1.out.trans (hb2.mono HB1.out.size))
  clear hb2
  have HD2 := Lib.hid (DecB.new w2 m s 27)
  have HB2a := Lib.hid (HB2.out.alloc HB2.out.size (.cells #[.int .i64 m, .int .i64 s] 27))
  go_wp2_with fail
  (with_reducible refine (HP.out _ (HT.out.below HB2a.out)).mono ?_)
  rintro e w3 ⟨rfl, hb3⟩
  have HB3 := Lib.hid (HB2a.out.trans (hb3.mono HB2a.out.size))
  have HD3 := Lib.hid (HD2.out.below hb3)
  clear hb3
  go_wp2_with fail
  (with_reducible refine (HA.out _).mono ?_)
  rintro e w4 ⟨rfl, hb4⟩
  have HB4 := Lib.hid (HB3.out.trans (hb4.mono HB3.out.size))
  have HD4 := Lib.hid (HD3.out.below hb4)
  clear hb4
  have HX4 := Lib.hid (DecB.new w4 m s 27)
  have hba := (Below.refl w4.heap.size w4).alloc (Nat.le_refl _) (.cells #[.int .i64 m, .int .i64 s] 27)
  have HB4a := Lib.hid (HB4.out.trans (hba.mono HB4.out.size))
  have HD4a := Lib.hid (HD4.out.below hba)
  clear hba
  obtain ⟨d0, d1, d2, -, -⟩ := HD4a.out
  go_wp2_with fail
  (with_reducible refine (HR.out _).mono ?_)
  rintro e w5 ⟨rfl, hb5⟩
  have HB5 := Lib.hid (HB4a.out.trans (hb5.mono HB4a.out.size))
  clear d0 d1 d2
  obtain ⟨d0, d1, d2, -, -⟩ := HD4a.out.below hb5
  obtain ⟨x0, x1, x2, -, -⟩ := HX4.out.below hb5
  clear hb5
  go_wp2_with fail
  go_ret
  exact ⟨rfl, HB5.out⟩
end Go.Proofs.YtcaejheaojnmmaaDoor
