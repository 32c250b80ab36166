/- Signs: LexTokens. -/
import Derived.Test.YtmeoleacfkbilaaDoorLy
namespace Go.Proofs.YtmeoleacfkbilaaDoor
open Go.RowKit Go.Shelf
set_option maxRecDepth 100000
set_option linter.unusedVariables false
set_option linter.unusedSimpArgs false
set_option maxHeartbeats 8000000 in
theorem tokens11_walk (ao : Option Addr) (n cap : Nat) (z : List Int) (hz : z.length = n) (raw : ByteArray) (w : World) (hN : Nl w (.slice ao n cap) z) (hL : LexAt w) :
    Calls Tryd.prog 3 #[.slice ao n cap, .string raw] w fun e w' => e = .returned (.bool true) ∧ Below w.heap.size w w' := by
  have HK := Lib.hid (known11_any w hL)
  have HLA := Lib.hid (fun w' (hb : Below w.heap.size w w') => hL.below hb)
  by_cases hr : (100 : Int) < raw.size
  · clear hz hN hL
    go_enter Tryd.func3, Tryd.ntmps3
    go_wp2_with fail
    refine HK.out.mono ?_
    rintro e w1 ⟨rfl, hb1⟩
    go_wp2_with fail
    go_ret
    exact ⟨rfl, hb1⟩
  have hrn : raw.size ≤ 100 := by omega
  have HT1 := Lib.hid (fun w' (hb : Below w.heap.size w w') => text11_any ao n cap z hz ⟨#[]⟩ (by decide) w' (hN.below hb))
  have HT2 := Lib.hid (fun w' (hb : Below w.heap.size w w') => text11_any ao n cap z hz raw hrn w' (hN.below hb))
  have HRN := Lib.hid hrn
  clear hz hN hL hrn
  go_enter Tryd.func3, Tryd.ntmps3
  go_wp2_with fail
  refine HK.out.mono ?_
  rintro e w1 ⟨rfl, hb1⟩
  go_wp2_with fail
  refine (HT1.out _ hb1).mono ?_
  intro e w2 hh
  unfold StrTo at hh
  obtain ⟨s1, rfl, hb, hs1⟩ := hh
  replace hb1 := hb1.trans (hb.mono hb1.size)
  clear hb
  go_wp2_with fail
  refine (HT2.out _ hb1).mono ?_
  intro e w3 hh
  unfold StrTo at hh
  obtain ⟨s2, rfl, hb, hs2⟩ := hh
  replace hb1 := hb1.trans (hb.mono hb1.size)
  clear hb
  have hB := Blk.new w3 #[.string s1, .string s2, .string raw] 9
  have hbel := hb1.alloc hb1.size (.cells #[.string s1, .string s2, .string raw] 9)
  have HC := Lib.hid (show ∀ j : Nat, j < 3 → ∃ t : ByteArray, (#[.string s1, .string s2, .string raw] : Array Value)[j]? = some (.string t) ∧ t.size ≤ 5000 from fun j hj => by
    rcases j with _ | _ | _ | j
    · exact ⟨s1, rfl, hs1⟩
    · exact ⟨s2, rfl, hs2⟩
    · exact ⟨raw, rfl, by have := HRN.out; omega⟩
    · omega)
  clear hs1 hs2 hr
  go_wp2_with fail
  generalize hG : w3.heap.size = G at hB ⊢
  generalize hWW : World.alloc w3 _ = w4
  have hWW2 : w3.alloc (.cells #[.string s1, .string s2, .string raw] 9) = w4 := hWW
  rw [hWW2] at hB hbel
  clear hWW hWW2 hG hb1
  go_loopg [6, 7, 8, 9, 10] 4 (fun g v6 _ _ _ _ wx => ∃ i : Nat, i ≤ 3 ∧ v6 = .int .i64 i ∧ Blk wx G #[.string s1, .string s2, .string raw] 9 ∧ Below w.heap.size w wx ∧ 3 - i < g)
  case atStart => exact ⟨0, by omega, rfl, hB, hbel, by omega⟩
  case round =>
    obtain ⟨i, hi, rfl, hBk, hbe, hg⟩ := hrel
    clear hB hbel
    by_cases hlt : (i : Int) < 3
    rotate_left
    · have HB := Lib.hid hbe
      clear hBk hbe
      go_wp2_with fail
      go_ret
      exact ⟨rfl, HB.out⟩
    obtain ⟨t, ht, hts⟩ := HC.out i (by omega)
    have hca := hBk.cell i
    rw [ht] at hca
    have HX := Lib.hid (And.intro hBk hbe)
    have HTK := Lib.hid (fun w (h : LexAt w) => tokens11 t (Nat.le_trans hts (by decide)) w h.1 h.2)
    have HRT := Lib.hid (fun w => rtokens t (Nat.le_trans hts (by decide)) w)
    have hlen : (tokensL t.data.toList).1.length ≤ 1000000 := Nat.le_trans (tokens_length _) (by rw [← Lib.size_eq]; omega)
    obtain ⟨⟨R, E⟩, hR⟩ : ∃ R, R = tokensL t.data.toList := ⟨_, rfl⟩
    rw [← hR] at HTK HRT hlen
    have HLEN := Lib.hid hlen
    clear hBk hbe ht hts hR hlen
    go_wp2_with fail
    refine (HTK.out _ (HLA.out _ HX.out.2)).mono ?_
    intro e w5 hh
    unfold TksTo at hh
    obtain ⟨ax, cx, rfl, hb5, hox, -⟩ := hh
    have hca5 := (hb5.cell (p := ⟨G, i, none⟩) (World.block_lt_of_cell? _ _ hca)).trans hca
    have HX5 := Lib.hid (And.intro ((hb5.block _ HX.out.1.lt).trans HX.out.1) (And.intro (HX.out.2.trans (hb5.mono HX.out.2.size)) hox))
    clear hb5 hox hca
    go_wp2_with fail
    refine (HRT.out _).mono ?_
    intro e w6 hh
    unfold TksTo at hh
    obtain ⟨ay, cy, rfl, hb6, hoy, -⟩ := hh
    have hB6 : Blk w6 G _ _ := (hb6.block _ (Blk.lt (show Blk w5 G _ _ from HX5.out.1))).trans HX5.out.1
    have hbe6 := HX5.out.2.1.trans (hb6.mono HX5.out.2.1.size)
    have hox6 := OwK.below HX5.out.2.2 hb6
    have HX6 := Lib.hid (And.intro hB6 (And.intro hbe6 (And.intro hox6 hoy)))
    clear hb6 hoy hox6 hbe6 hB6 hca5
    go_wp2_with fail
    refine (same11_any HX6.out.2.2.1 HX6.out.2.2.2 HLEN.out).mono ?_
    rintro e w7 ⟨rfl, hb7⟩
    have HX7 := Lib.hid (And.intro ((hb7.block _ (Blk.lt HX6.out.1)).trans HX6.out.1) (HX6.out.2.1.trans (hb7.mono HX6.out.2.1.size)))
    clear hb7
    go_wp2_with fail
    go_roundg (3 - (i + 1) + 1)
    case measure => omega
    case rel => exact ⟨i + 1, by omega, by go_num, HX7.out.1, HX7.out.2, by omega⟩
end Go.Proofs.YtmeoleacfkbilaaDoor
