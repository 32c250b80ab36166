/- Signs: a text of pieces. -/
import Derived.Test.YtmeoleacfkbilaaDoorSn
namespace Go.Proofs.YtmeoleacfkbilaaDoor
open Go.RowKit Go.Shelf
set_option maxRecDepth 100000
set_option linter.unusedVariables false
set_option linter.unusedSimpArgs false
def StrTo (m : Nat) (w0 : World) (e : Ending) (w' : World) : Prop := ∃ t : ByteArray, e = .returned (.string t) ∧ Below w0.heap.size w0 w' ∧ t.size ≤ m
set_option maxHeartbeats 8000000 in
theorem text11_any (ao : Option Addr) (n cap : Nat) (z : List Int) (hz : z.length = n) (raw : ByteArray) (hr : raw.size ≤ 100) (w : World) (hN : Nl w (.slice ao n cap) z) :
    Calls Tryd.prog 8 #[.slice ao n cap, .string raw] w (StrTo 5000 w) := by
  have HN := Lib.hid hN
  have hnb : (n : Int) ≤ 9223372036854775807 := by
    obtain ⟨a, c, e, h1, h2, -⟩ := hN
    cases e
    have : maxLen = 9223372036854775807 := rfl
    omega
  have HZ := Lib.hid hz
  clear hN hz
  go_enter Tryd.func8, Tryd.ntmps8
  go_wp2_with fail
  go_loopg [5, 6] 41 (fun g v5 v6 wx => ∃ (i : Nat) (t : ByteArray), i ≤ 40 ∧ v6 = .int .i64 i ∧ v5 = .string t ∧ t.size ≤ 113 * i ∧ Below w.heap.size w wx ∧ 40 - i < g)
  case atStart => exact ⟨0, ⟨#[]⟩, by omega, rfl, rfl, by decide, Below.refl _ _, by omega⟩
  case round =>
    obtain ⟨i, t, hi, rfl, rfl, hts, hb, hg⟩ := hrel
    have HB := Lib.hid hb
    clear hb
    by_cases hlt : (i : Int) < n
    rotate_left
    · go_wp2_with fail
      go_ret
      unfold StrTo
      exact ⟨t, rfl, HB.out, by omega⟩
    by_cases h40 : (i : Int) < 40
    rotate_left
    · go_wp2_with fail
      go_ret
      unfold StrTo
      exact ⟨t, rfl, HB.out, by omega⟩
    have hil : i < z.length := by have := HZ.out; omega
    obtain ⟨b0, off, cap', e, hc1, hc2, hcell⟩ := (HN.out.below (show Below w.heap.size w wr from HB.out)).at (by omega)
    have hcx := hcell i hil
    obtain ⟨x, hx⟩ : ∃ x, z[i] = x := ⟨_, rfl⟩
    rw [hx] at hcx
    cases e
    have HP := Lib.hid (fun w => piece11 x w)
    have hpl := piece_len _ (piece_mem x)
    obtain ⟨p, hp⟩ : ∃ p : ByteArray, p = ⟨(pieceOf x).toArray⟩ := ⟨_, rfl⟩
    rw [← hp] at HP
    have hps : p.size ≤ 12 := by rw [Lib.size_eq, hp]; exact hpl
    have t1 : ¬ 9223372036854775807 < t.size + raw.size := by omega
    have t2 : ¬ 9223372036854775807 < t.size + raw.size + p.size := by omega
    have t3 : ¬ 9223372036854775807 < t.size + raw.size + p.size + 1 := by omega
    have t4 : ¬ 9223372036854775807 < t.size + p.size := by omega
    have t5 : ¬ 9223372036854775807 < t.size + p.size + 1 := by omega
    clear hcell hx hp hpl
    go_wp2_with fail
    all_goals
      refine (HP.out _).mono ?_
      rintro e w2 ⟨rfl, hb2⟩
      have HB2 := Lib.hid (HB.out.trans (hb2.mono HB.out.size))
      have hcx2 := (hb2.cell (p := ⟨b0, off + i, none⟩) (World.block_lt_of_cell? _ _ hcx)).trans hcx
      clear hb2 hcx
      go_wp2_with fail
      all_goals
        go_roundg (40 - (i + 1) + 1)
        case measure => omega
        case rel => exact ⟨i + 1, _, by omega, by go_num, rfl, by simp only [ByteArray.size_append]; first | omega | (have e1 : (⟨#[32]⟩ : ByteArray).size = 1 := rfl; omega), HB2.out, by omega⟩
end Go.Proofs.YtmeoleacfkbilaaDoor
