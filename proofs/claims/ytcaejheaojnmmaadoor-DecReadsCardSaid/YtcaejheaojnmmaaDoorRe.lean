/- DecReads: the walk. -/
import Derived.Test.YtcaejheaojnmmaaDoorRd
namespace Go.Proofs.YtcaejheaojnmmaaDoor
open Go.RowKit Go.Shelf Flo
set_option maxRecDepth 100000
set_option linter.unusedVariables false
set_option linter.unusedSimpArgs false

/-- twenty texts, none too long. -/
def Row20 (w : World) (T : Nat) : Prop := T < w.heap.size ∧ ∀ k, k < 20 → ∃ Y : ByteArray, w.cell? ⟨T, k, none⟩ = some (.string Y) ∧ Y.size ≤ 400
theorem Row20.below {w w' : World} {T : Nat} (h : Row20 w T) (hb : Below w.heap.size w w') : Row20 w' T := by
  refine ⟨Nat.lt_of_lt_of_le h.1 hb.size, fun k hk => ?_⟩
  obtain ⟨Y, h1, h2⟩ := h.2 k hk
  exact ⟨Y, cellB hb h.1 h1, h2⟩
theorem row20 (w : World) (z s : ByteArray) (hz : z.size ≤ 120) (hs : s.size ≤ 60) : Row20 (w.alloc (.cells #[.string z, .string s, .string ⟨#[57, 57, 57, 57, 57, 57, 57, 57, 57, 57, 57, 57, 57, 57, 57]⟩, .string ⟨#[49, 48, 48, 48, 48, 48, 48, 48, 48, 48, 48, 48, 48, 48, 48, 48]⟩, .string ⟨#[45, 57, 57, 57, 57, 57, 57, 57, 57, 57, 57, 57, 57, 57, 57, 57, 46, 48]⟩, .string ⟨#[48, 46, 48, 48, 48, 48, 48, 49]⟩, .string ⟨#[48, 46, 48, 48, 48, 48, 48, 48, 49]⟩, .string ⟨#[48, 46, 48, 48, 48, 48, 48, 49, 48]⟩, .string ⟨#[45, 48, 46, 48]⟩, .string ⟨#[48, 48, 48, 49, 50, 46, 51, 48]⟩, .string ⟨#[43, 55]⟩, .string ⟨#[57, 57, 57, 57, 57, 57, 57, 57, 57, 57, 57, 57, 57, 57, 46, 57, 53]⟩, .string ⟨#[57, 57, 57, 57, 57, 57, 57, 57, 57, 57, 57, 57, 57, 57, 57, 46, 53]⟩, .string ⟨#[46]⟩, .string ⟨#[53, 46]⟩, .string ⟨#[46, 53]⟩, .string ⟨#[]⟩, .string ⟨#[45]⟩, .string ⟨#[43, 45, 49]⟩, .string ⟨#[49, 46, 46, 50]⟩] 9)) w.heap.size := by
  refine ⟨by simp, fun k hk => ?_⟩
  rcases Nat.lt_or_ge k 2 with h | h
  · have : k = 0 ∨ k = 1 := by omega
    rcases this with rfl | rfl
    · exact ⟨z, by simp, by omega⟩
    · exact ⟨s, by simp, by omega⟩
  · have : k = 2 ∨ k = 3 ∨ k = 4 ∨ k = 5 ∨ k = 6 ∨ k = 7 ∨ k = 8 ∨ k = 9 ∨ k = 10 ∨ k = 11 ∨ k = 12 ∨ k = 13 ∨ k = 14 ∨ k = 15 ∨ k = 16 ∨ k = 17 ∨ k = 18 ∨ k = 19 := by omega
    rcases this with rfl | rfl | rfl | rfl | rfl | rfl | rfl | rfl | rfl | rfl | rfl | rfl | rfl | rfl | rfl | rfl | rfl | rfl
    all_goals
      refine ⟨_, by simp; rfl, ?_⟩
      decide

set_option maxHeartbeats 2000000 in
theorem reads13_walk (v : Value) (l : List Int) (s : ByteArray) (w : World) (hl : Nl w v l) (hz : ∀ x ∈ l, -9223372036854775808 ≤ x ∧ x ≤ 9223372036854775807) :
    Calls Tryd.prog 3 #[v, .string s] w fun e w' => e = .returned (.bool true) ∧ Below w.heap.size w w' := by
  have HK := Lib.hid (known13_any w)
  have HL := Lib.hid hl
  have HW := Lib.hid (fun w1 (hb : Below w.heap.size w w1) => word_any v l w1 (HL.out.below hb) hz)
  clear hl hz
  by_cases hs : (60 : Int) < (s.size : Int)
  · go_enter Tryd.func3, Tryd.ntmps3
    go_wp2_with fail
    refine HK.out.mono ?_
    rintro e w1 ⟨rfl, hb⟩
    go_wp2_with fail
    go_ret
    exact ⟨rfl, hb⟩
  · have HS := Lib.hid (show s.size ≤ 60 by omega)
    go_enter Tryd.func3, Tryd.ntmps3
    go_wp2_with fail
    refine HK.out.mono ?_
    rintro e w1 ⟨rfl, hb⟩
    have HB1 := Lib.hid hb
    clear hb
    go_wp2_with fail
    refine (HW.out _ HB1.out).mono ?_
    rintro e w2 ⟨z, rfl, hz, hb⟩
    have HB2 := Lib.hid (HB1.out.trans (hb.mono HB1.out.size))
    have HZ := Lib.hid hz
    have HR := Lib.hid (row20 w2 z s HZ.out HS.out)
    have HB3 := Lib.hid (HB2.out.alloc HB2.out.size (.cells #[.string z, .string s, .string ⟨#[57, 57, 57, 57, 57, 57, 57, 57, 57, 57, 57, 57, 57, 57, 57]⟩, .string ⟨#[49, 48, 48, 48, 48, 48, 48, 48, 48, 48, 48, 48, 48, 48, 48, 48]⟩, .string ⟨#[45, 57, 57, 57, 57, 57, 57, 57, 57, 57, 57, 57, 57, 57, 57, 57, 46, 48]⟩, .string ⟨#[48, 46, 48, 48, 48, 48, 48, 49]⟩, .string ⟨#[48, 46, 48, 48, 48, 48, 48, 48, 49]⟩, .string ⟨#[48, 46, 48, 48, 48, 48, 48, 49, 48]⟩, .string ⟨#[45, 48, 46, 48]⟩, .string ⟨#[48, 48, 48, 49, 50, 46, 51, 48]⟩, .string ⟨#[43, 55]⟩, .string ⟨#[57, 57, 57, 57, 57, 57, 57, 57, 57, 57, 57, 57, 57, 57, 46, 57, 53]⟩, .string ⟨#[57, 57, 57, 57, 57, 57, 57, 57, 57, 57, 57, 57, 57, 57, 57, 46, 53]⟩, .string ⟨#[46]⟩, .string ⟨#[53, 46]⟩, .string ⟨#[46, 53]⟩, .string ⟨#[]⟩, .string ⟨#[45]⟩, .string ⟨#[43, 45, 49]⟩, .string ⟨#[49, 46, 46, 50]⟩] 9))
    clear hb hz
    go_wp2_with fail
    generalize World.alloc w2 _ = w3 at HR HB3 ⊢
    obtain ⟨T, hT⟩ : ∃ T, T = w2.heap.size := ⟨_, rfl⟩
    rw [← hT] at HR ⊢
    clear hT HB2
    go_loopw [6] (fun i wx => ∃ j : Nat, i = .int .i64 (j : Int) ∧ j ≤ 20 ∧ Row20 wx T ∧ Below w.heap.size w wx) (fun i _ => 20 - (intOf i).toNat)
    case atStart => exact ⟨0, rfl, by decide, HR.out, HB3.out⟩
    case round =>
      obtain ⟨j, rfl, hj, hR, hB⟩ := hrel
      have HRR := Lib.hid hR
      have HBB := Lib.hid hB
      clear hR hB
      by_cases hlt : j < 20
      · obtain ⟨Y, hY, hYs⟩ := HRR.out.2 j hlt
        have hTz := HRR.out.1
        have hlti : (j : Int) < 20 := by omega
        have HP := Lib.hid (fun w => parse_any Y w hYs)
        have HQ := Lib.hid (fun w => rparse_any Y w hYs)
        rw [parse_same] at HQ
        obtain ⟨vm, vs, vb, hv⟩ := ans_cases (V := ansD (signD Y.data.toList).1 (bodyD (signD Y.data.toList).2)) rfl
        rw [hv] at HP HQ
        clear hv hYs
        go_wp2_with fail
        (with_reducible refine (HP.out _).mono ?_)
        rintro e w4 ⟨rfl, hb4⟩
        have HB4 := Lib.hid hb4
        have hY4 := cellB hb4 hTz hY
        have hTz4 : T < w4.heap.size := Nat.lt_of_lt_of_le hTz hb4.size
        clear hb4
        go_wp2_with fail
        (with_reducible refine (HQ.out _).mono ?_)
        rintro e w5 ⟨rfl, hb5⟩
        have HB5 := Lib.hid hb5
        have c0 := cellB hb5 (b := w4.heap.size) (o := 0) (v := .int .i64 vm) (by simp) (by simp)
        have c1 := cellB hb5 (b := w4.heap.size) (o := 1) (v := .int .i64 vs) (by simp) (by simp)
        have hz5 := hb5.size
        have hz4 : w4.heap.size < w5.heap.size := by simp at hz5; omega
        clear hb5 hz5
        have HE := fun w => equal_dec vm vs vm vs w
        have HAll := Lib.hid (show Below wr.heap.size wr (w5.alloc (.cells #[.int .i64 vm, .int .i64 vs] 27)) from by
          have h1 : Below wr.heap.size wr (w4.alloc (.cells #[.int .i64 vm, .int .i64 vs] 27)) := HB4.out.alloc HB4.out.size _
          have h2 := h1.trans (HB5.out.mono h1.size)
          exact h2.alloc h2.size _)
        go_wp2_with fail
        exact ⟨⟨j + 1, by go_num, hlt, HRR.out.below HAll.out, HBB.out.trans (HAll.out.mono HBB.out.size)⟩, by simp [intOf]; omega⟩
      · go_wp2_with fail
        go_ret
        exact ⟨rfl, HBB.out⟩
end Go.Proofs.YtcaejheaojnmmaaDoor
