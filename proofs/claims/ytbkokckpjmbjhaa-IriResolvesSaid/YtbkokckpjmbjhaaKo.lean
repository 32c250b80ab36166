/- References: the law's texts of pieces. -/
import Derived.Test.YtbkokckpjmbjhaaKm
namespace Go.Proofs.Ytbkokckpjmbjhaa
open Go.RowKit Go.Shelf
set_option maxRecDepth 100000
set_option linter.unusedVariables false
def Nl (w : World) (v : Value) (l : List Int) : Prop :=
  ∃ ao cap, v = .slice ao l.length cap ∧ l.length ≤ cap ∧ cap ≤ maxLen ∧ (ao = none → cap = 0) ∧ ∀ ad, ao = some ad → ∀ j u, (l.map (Value.int .i64))[j]? = some u → w.cell? (ad.add j) = some u
theorem Nl.at {w : World} {v : Value} {l : List Int} (h : Nl w v l) (hl : 0 < l.length) :
    ∃ b off cap, v = .slice (some ⟨b, off, none⟩) l.length cap ∧ l.length ≤ cap ∧ cap ≤ maxLen ∧ ∀ j (hj : j < l.length), w.cell? ⟨b, off + j, none⟩ = some (.int .i64 l[j]) := by
  obtain ⟨ao, cap, rfl, h1, h2, h3, h4⟩ := h
  cases ao with
  | none => have := h3 rfl; omega
  | some ad =>
    obtain ⟨b, off, spot⟩ := ad
    have key : ∀ j (hj : j < l.length), w.cell? ((⟨b, off, spot⟩ : Addr).add j) = some (.int .i64 l[j]) := fun j hj => h4 _ rfl j _ (by simp [hj])
    have hs : spot = none := by simpa [Addr.add] using World.cell?_spot (key 0 hl)
    subst hs
    refine ⟨b, off, cap, rfl, h1, h2, fun j hj => ?_⟩
    have := key j hj
    rwa [Addr.add_lit] at this
theorem Nl.of_row {w : World} {a : Option Addr} {len cap : Nat} {zs : List Int}
    (h : (a = none ∧ len = 0 ∧ cap = 0 ∧ zs = []) ∨ ∃ x, a = some x ∧ len ≤ cap ∧ cap ≤ maxLen ∧ zs.length = cap ∧ (∀ i, i < zs.length → w.cell? (x.add i) = some (.int .i64 (zs.getD i 0))) ∧ ∀ n ∈ zs, (Lit.int .i64 n).wf = true) :
    ∃ l : List Int, l.length = len ∧ Nl w (.slice a len cap) l := by
  rcases h with ⟨rfl, rfl, rfl, rfl⟩ | ⟨x, rfl, hl, hm, hz, hc, hw⟩
  · exact ⟨[], rfl, none, 0, rfl, by simp, by simp [maxLen], fun _ => rfl, fun ad h => by cases h⟩
  · have hlen : (zs.take len).length = len := by simp; omega
    refine ⟨zs.take len, hlen, some x, cap, by rw [hlen], by omega, hm, (fun h => by cases h), fun ad had j u hu => ?_⟩
    cases had
    have hj : j < len := by
      have := (List.getElem?_eq_some_iff.1 hu).1
      rw [List.length_map, hlen] at this; exact this
    rw [hc j (by omega)]
    have hjz : j < zs.length := by omega
    simp [hj, hjz] at hu
    rw [← hu]
    simp [List.getD, hjz]
theorem Nl.below {w w' : World} {v : Value} {l : List Int} (h : Nl w v l) (hb : Below w.heap.size w w') : Nl w' v l := by
  obtain ⟨ao, cap, e, h1, h2, h3, h4⟩ := h
  exact ⟨ao, cap, e, h1, h2, h3, fun ad had j u hu => (hb.cell (World.block_lt_of_cell? _ _ (h4 ad had j u hu))).trans (h4 ad had j u hu)⟩
theorem Nl.le {w : World} {v : Value} {l : List Int} (h : Nl w v l) : l.length ≤ 9223372036854775807 := by
  obtain ⟨ao, cap, -, h1, h2, -, -⟩ := h
  unfold maxLen at h2
  omega
def piecesL : List (List UInt8) := [[97], [98], [47], [46, 46], [46], [58], [63], [35], [47, 47], [104, 116, 116, 112, 58], [120, 61, 121], [47, 46, 46, 47], [46, 47], []]
def pieceL (k : Nat) : List UInt8 := (piecesL[k]?).getD []
def pieceT : Array Value := #[.string ⟨#[97]⟩, .string ⟨#[98]⟩, .string ⟨#[47]⟩, .string ⟨#[46, 46]⟩, .string ⟨#[46]⟩, .string ⟨#[58]⟩, .string ⟨#[63]⟩, .string ⟨#[35]⟩, .string ⟨#[47, 47]⟩, .string ⟨#[104, 116, 116, 112, 58]⟩, .string ⟨#[120, 61, 121]⟩, .string ⟨#[47, 46, 46, 47]⟩, .string ⟨#[46, 47]⟩, .string ⟨#[]⟩]
theorem piece_row (k : Nat) (hk : k < 14) : pieceT[k]? = some (.string ⟨(pieceL k).toArray⟩) ∧ (pieceL k).length ≤ 5 ∧ ((pieceL k).all fun c => decide (c.toNat < 128)) = true := by
  obtain rfl | hk0 : k = 0 ∨ k ≠ 0 := by omega
  · exact ⟨rfl, by decide, by decide⟩
  obtain rfl | hk1 : k = 1 ∨ k ≠ 1 := by omega
  · exact ⟨rfl, by decide, by decide⟩
  obtain rfl | hk2 : k = 2 ∨ k ≠ 2 := by omega
  · exact ⟨rfl, by decide, by decide⟩
  obtain rfl | hk3 : k = 3 ∨ k ≠ 3 := by omega
  · exact ⟨rfl, by decide, by decide⟩
  obtain rfl | hk4 : k = 4 ∨ k ≠ 4 := by omega
  · exact ⟨rfl, by decide, by decide⟩
  obtain rfl | hk5 : k = 5 ∨ k ≠ 5 := by omega
  · exact ⟨rfl, by decide, by decide⟩
  obtain rfl | hk6 : k = 6 ∨ k ≠ 6 := by omega
  · exact ⟨rfl, by decide, by decide⟩
  obtain rfl | hk7 : k = 7 ∨ k ≠ 7 := by omega
  · exact ⟨rfl, by decide, by decide⟩
  obtain rfl | hk8 : k = 8 ∨ k ≠ 8 := by omega
  · exact ⟨rfl, by decide, by decide⟩
  obtain rfl | hk9 : k = 9 ∨ k ≠ 9 := by omega
  · exact ⟨rfl, by decide, by decide⟩
  obtain rfl | hk10 : k = 10 ∨ k ≠ 10 := by omega
  · exact ⟨rfl, by decide, by decide⟩
  obtain rfl | hk11 : k = 11 ∨ k ≠ 11 := by omega
  · exact ⟨rfl, by decide, by decide⟩
  obtain rfl | hk12 : k = 12 ∨ k ≠ 12 := by omega
  · exact ⟨rfl, by decide, by decide⟩
  obtain rfl | hk13 : k = 13 ∨ k ≠ 13 := by omega
  · exact ⟨rfl, by decide, by decide⟩
  omega
/-- The text that the first k numbers make. -/
def refN (l : List Int) : Nat → List UInt8
  | 0 => []
  | k + 1 => refN l k ++ pieceL ((l[k]?.getD 0) % 14).toNat
def refL (l : List Int) : List UInt8 := refN l (min l.length 10)
theorem piece_idx (x : Int) : (x % 14).toNat < 14 := by omega
theorem refN_len (l : List Int) : ∀ k, (refN l k).length ≤ 5 * k
  | 0 => Nat.le_refl _
  | k + 1 => by
    have h := refN_len l k
    have h2 := (piece_row _ (piece_idx (l[k]?.getD 0))).2.1
    unfold refN
    rw [List.length_append]
    omega
theorem refN_ascii (l : List Int) : ∀ k, ∀ c ∈ refN l k, c.toNat < 128
  | 0, c, h => by cases h
  | k + 1, c, h => by
    unfold refN at h
    rcases List.mem_append.1 h with h | h
    · exact refN_ascii l k c h
    · exact of_decide_eq_true (List.all_eq_true.1 (piece_row _ (piece_idx (l[k]?.getD 0))).2.2 c h)
theorem ref_len (l : List Int) : (refL l).length ≤ 50 := by
  have := refN_len l (min l.length 10)
  unfold refL
  omega
theorem ref_ascii (l : List Int) : ∀ c ∈ refL l, c.toNat < 128 := refN_ascii l _
set_option maxHeartbeats 4000000 in
theorem ref10_any (v : Value) (l : List Int) (hl : l.length ≤ 9223372036854775807) (w : World) (hv : Nl w v l) (z : ByteArray) (hz : z.data.toList = refL l) :
    Calls Try.prog 8 #[v] w fun e w' => e = .returned (.string z) ∧ Below w.heap.size w w' := by
  have HV := Lib.hid hv
  have HZ := Lib.hid hz
  have HW := Lib.hid (fun a w => within10_eq a 14 (by omega) (by omega) w)
  obtain ⟨ao, cap, rfl, hcap, hmax, hnil, hat⟩ := hv
  have hli : (l.length : Int) ≤ 9223372036854775807 := by omega
  clear hcap hmax hnil hat hz
  go_enter Try.func8, Try.ntmps8
  go_wp2_with fail
  go_loopw [3, 4] (fun s3 s4 wr => ∃ (k : Nat) (c : ByteArray), k ≤ min l.length 10 ∧ s4 = .int .i64 k ∧ s3 = .string c ∧ c.data.toList = refN l k ∧ Below w.heap.size w wr) (fun _ i _ => 10 - (intOf i).toNat)
  case atStart => exact ⟨0, ⟨#[]⟩, by omega, rfl, rfl, rfl, Below.refl _ _⟩
  case round =>
    obtain ⟨k, c, hk, rfl, rfl, hc, hb⟩ := hrel
    have HC := Lib.hid hc
    have HB := Lib.hid hb
    have HK := Lib.hid hk
    clear hc hb
    by_cases hlt : (k : Int) < l.length
    rotate_left
    · go_wp2_with fail
      go_ret
      refine ⟨?_, HB.out⟩
      exact congrArg (fun x => Ending.returned (Value.string x)) (ba_ext (by rw [HC.out, HZ.out]; unfold refL; congr 1; have := HK.out; omega))
    by_cases hlt2 : (k : Int) < 10
    rotate_left
    · go_wp2_with fail
      go_ret
      refine ⟨?_, HB.out⟩
      exact congrArg (fun x => Ending.returned (Value.string x)) (ba_ext (by rw [HC.out, HZ.out]; unfold refL; congr 1; have := HK.out; omega))
    have hkl : k < l.length := by omega
    obtain ⟨b, off, cap', e, -, -, hat⟩ := (show Nl _ _ _ from HV.out.below HB.out).at (by omega)
    obtain ⟨rfl, rfl⟩ : ao = some ⟨b, off, none⟩ ∧ cap = cap' := by simpa using e
    clear e
    have hx := hat k hkl
    obtain ⟨x, hxe⟩ : ∃ x, x = l[k] := ⟨_, rfl⟩
    rw [← hxe] at hx
    obtain ⟨j, hj⟩ : ∃ j : Nat, x % 14 = (j : Int) := ⟨(x % 14).toNat, by omega⟩
    have hj14 : j < 14 := by omega
    have hji : (j : Int) < 14 := by omega
    have hW2 := HW.out x
    rw [hj] at hW2
    have HW2 := Lib.hid hW2
    obtain ⟨hp1, hp2, -⟩ := piece_row j hj14
    obtain ⟨p, hp⟩ : ∃ p : ByteArray, p = ⟨(pieceL j).toArray⟩ := ⟨_, rfl⟩
    rw [← hp] at hp1
    have hps : p.size ≤ 5 := by rw [hp, Lib.size_eq]; exact hp2
    have hcs : c.size ≤ 50 := by
      rw [Lib.size_eq, HC.out]
      have := refN_len l k
      omega
    have hadd : c.size + p.size ≤ 9223372036854775807 := by omega
    obtain ⟨q, hq⟩ : ∃ q : ByteArray, c ++ p = q := ⟨_, rfl⟩
    have HQ := Lib.hid (show q.data.toList = refN l (k + 1) by
      rw [← hq]
      unfold refN
      rw [List.getElem?_eq_getElem hkl, ← hxe, Option.getD_some, hj, Int.toNat_natCast, ← HC.out]
      simp [hp])
    have hB := Blk.new wr pieceT 9
    have hbel := (show Below w.heap.size w wr from HB.out).alloc HB.out.size (.cells pieceT 9)
    have hcell := hB.cell j
    rw [hp1] at hcell
    have hxa : (wr.alloc (.cells pieceT 9)).cell? ⟨b, off + k, none⟩ = some (.int .i64 x) := by
      have h := ((Below.refl _ wr).alloc (Nat.le_refl _) (.cells pieceT 9)).cell (p := ⟨b, off + k, none⟩) (World.block_lt_of_cell? wr _ hx)
      exact h.trans hx
    unfold pieceT at hcell hbel hxa
    have HBE := Lib.hid hbel
    clear hbel hB hp1 hp2 hW2 hat hxe hj hp
    go_wp2_with fail
    refine (HW2.out _).mono ?_
    rintro e w5 ⟨rfl, hw⟩
    obtain rfl := hw.symm
    clear hw
    go_wp2_with fail
    go_roundw
    case rel => exact ⟨k + 1, q, by omega, by go_num, rfl, HQ.out, HBE.out⟩
    case measure => simp [intOf]; omega
end Go.Proofs.Ytbkokckpjmbjhaa
