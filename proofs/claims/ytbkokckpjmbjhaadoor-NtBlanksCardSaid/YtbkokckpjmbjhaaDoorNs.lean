/- triadlaw9's All, given what Good answers. -/
import Derived.Test.YtbkokckpjmbjhaaDoorNr
namespace Go.Proofs.YtbkokckpjmbjhaaDoor
open Go.RowKit Go.Shelf
set_option maxRecDepth 100000
set_option linter.unusedVariables false
/-- A sound triple, of a raw one. -/
def good9 (x : Tri3) : Tri3 :=
  (if (goodT x.1).k = 3 then ⟨2, ⟨#[108, 105, 116]⟩, nob, nob⟩ else goodT x.1,
   if (goodT x.2.1).k = 1 then goodT x.2.1 else ⟨1, ⟨#[112, 58, UInt8.ofNat (97 + x.2.1.s.size % 3)]⟩, nob, nob⟩,
   goodT x.2.2)
def GoodTo (x : Tri3) : Prop := ∀ w, Calls Tryd.prog 14 #[tri x.1 x.2.1 x.2.2] w fun e w' => e = .returned (tri (good9 x).1 (good9 x).2.1 (good9 x).2.2) ∧ Below w.heap.size w w'
def AllTo (l : List Tri3) (w : World) (e : Ending) (w' : World) : Prop := ∃ ao cap, e = .returned (.slice ao ((l.take 30).map good9).length cap) ∧ ((l.take 30).map good9).length ≤ cap ∧ Below w.heap.size w w' ∧ OwR w' w.heap.size (.slice ao ((l.take 30).map good9).length cap) ((l.take 30).map good9)
theorem take_snoc {α : Type} (l : List α) (k : Nat) (hk : k < l.length) : l.take (k + 1) = l.take k ++ [l[k]] := by
  rw [List.take_add_one, List.getElem?_eq_getElem hk]; rfl
set_option maxHeartbeats 8000000 in
theorem all9_any {w : World} {v : Value} {l : List Tri3} (h : Trs w v l) (HGO : ∀ j (hj : j < l.length), GoodTo l[j]) :
    Calls Tryd.prog 7 #[v] w (AllTo l w) := by
  obtain ⟨ao, cap, rfl, hc1, hc2, hE⟩ := id h
  have hc2' : cap ≤ 9223372036854775807 := hc2
  obtain ⟨n, hn⟩ : ∃ n, n = l.length := ⟨_, rfl⟩
  rw [← hn] at hc1 h ⊢
  have HN := Lib.hid hn
  have HH := Lib.hid h
  have HG := Lib.hid HGO
  clear hn hE hc2 h HGO
  go_enter Tryd.func7, Tryd.ntmps7
  go_wp2_with fail
  go_loopw [3, 4] (fun s i wr => ∃ (k : Nat) (sa : Option Addr) (sn sc : Nat), k ≤ n ∧ k ≤ 30 ∧ i = .int .i64 k ∧ s = .slice sa sn sc ∧ sn = k ∧ sn ≤ sc ∧ sc ≤ 9223372036854775807 ∧ OwR wr w.heap.size (.slice sa sn sc) ((l.take k).map good9) ∧ Below w.heap.size w wr) (fun _ i _ => n - (intOf i).toNat)
  case atStart => exact ⟨0, none, 0, 0, Nat.zero_le _, by omega, rfl, rfl, rfl, Nat.le_refl _, by omega, OwR.nil _ _, Below.refl _ _⟩
  case round =>
    obtain ⟨k, sa, sn, sc, hk, hk30, rfl, rfl, hsn, hsc, hsc2, ho, hbel⟩ := hrel
    have HO := Lib.hid ho
    have HB := Lib.hid hbel
    have HSN := Lib.hid hsn
    clear ho hsn
    by_cases hlt : k < n ∧ k < 30
    · have hkl : k < l.length := by rw [← HN.out]; exact hlt.1
      obtain ⟨x, hx⟩ : ∃ x, x = l[k] := ⟨_, rfl⟩
      have HX := Lib.hid hx
      obtain ⟨ao', cap', e', -, -, hE'⟩ := HH.out.below hbel
      rw [← HN.out] at e'
      simp only [Value.slice.injEq, true_and] at e'
      obtain ⟨rfl, rfl⟩ := e'
      obtain ⟨b, off, rfl, -, hA⟩ := hE' k hkl
      have hgo := HG.out k hkl
      rw [← hx] at hA hgo
      obtain ⟨g, hg⟩ : ∃ g, g = good9 x := ⟨_, rfl⟩
      unfold GoodTo at hgo
      rw [← hg] at hgo
      have HGG := Lib.hid hg
      obtain ⟨⟨x1k, x1s, x1l, x1t⟩, ⟨x2k, x2s, x2l, x2t⟩, ⟨x3k, x3s, x3l, x3t⟩⟩ := x
      obtain ⟨⟨m1k, m1s, m1l, m1t⟩, ⟨m2k, m2s, m2l, m2t⟩, ⟨m3k, m3s, m3l, m3t⟩⟩ := g
      obtain ⟨⟨c0, c1, c2, c3, -⟩, ⟨c4, c5, c6, c7, -⟩, ⟨c8, c9, c10, c11, -⟩⟩ := hA
      unfold tri at hgo
      dsimp only at c0 c1 c2 c3 c4 c5 c6 c7 c8 c9 c10 c11 hgo
      rw [Nat.add_assoc (off + k * 12)] at c5 c6 c7 c9 c10 c11
      simp only [Nat.reduceAdd] at c5 c6 c7 c9 c10 c11
      have hgoH := Lib.hid hgo
      have hl1 : (k : Int) < n := by omega
      have hl2 : (k : Int) < 30 := by omega
      clear hx hE' hg hgo hbel
      go_wp2_with fail
      refine (hgoH.out _).mono ?_
      rintro en w2 ⟨rfl, hb2⟩
      have HB2 := Lib.hid (HB.out.trans (hb2.mono HB.out.size))
      have HOA := Lib.hid (HO.out.below (hb2.alloc hb2.size (.cells #[.int .i64 m1k, .string m1s, .string m1l, .string m1t, .int .i64 m2k, .string m2s, .string m2l, .string m2t, .int .i64 m3k, .string m3s, .string m3l, .string m3t] 33)))
      have HBX := Lib.hid (show Blk (w2.alloc (.cells #[.int .i64 m1k, .string m1s, .string m1l, .string m1t, .int .i64 m2k, .string m2s, .string m2l, .string m2t, .int .i64 m3k, .string m3s, .string m3l, .string m3t] 33)) w2.heap.size (rcells1 (⟨m1k, m1s, m1l, m1t⟩, ⟨m2k, m2s, m2l, m2t⟩, ⟨m3k, m3s, m3l, m3t⟩)).toArray 33 from Blk.new w2 _ _)
      have hlen : ((l.take k).map good9).length = k := by rw [List.length_map, List.length_take]; have := HN.out; omega
      have HSL := Lib.hid (show sn + 1 = ((l.take k).map good9).length + 1 by rw [hlen, HSN.out])
      have HSM := Lib.hid (show sn + 1 ≤ 1000000 by have := HSN.out; omega)
      have HBASE := Lib.hid (show w.heap.size ≤ (w2.alloc (.cells #[.int .i64 m1k, .string m1s, .string m1l, .string m1t, .int .i64 m2k, .string m2s, .string m2l, .string m2t, .int .i64 m3k, .string m3s, .string m3l, .string m3t] 33)).heap.size from by
        have := HB2.out.size
        simp
        omega)
      clear hb2 c0 c1 c2 c3 c4 c5 c6 c7 c8 c9 c10 c11 hlen
      go_wp2_with (at_builtin; refine wpList_append_tr rfl _ _ rfl w.heap.size HBASE.out (.slice sa sn sc) ((l.take k).map good9) rfl HOA.out w2.heap.size rfl (⟨m1k, m1s, m1l, m1t⟩, ⟨m2k, m2s, m2l, m2t⟩, ⟨m3k, m3s, m3l, m3t⟩) HBX.out (sn + 1) HSL.out HSM.out ?_; intro ao5 cap5 w5 ho5 hx5 hy5 hg5 hq5)
      have hb3 := HB2.out.alloc HB2.out.size (.cells #[.int .i64 m1k, .string m1s, .string m1l, .string m1t, .int .i64 m2k, .string m2s, .string m2l, .string m2t, .int .i64 m3k, .string m3s, .string m3l, .string m3t] 33)
      have hb5 : Below w.heap.size w w5 := ⟨hg5.os.trans hb3.os, hg5.tape.trans hb3.tape, hg5.output.trans hb3.output, Nat.le_trans hb3.size hg5.size, fun j hj => (hg5.block j (Nat.lt_of_lt_of_le hj hb3.size) (fun e => absurd (HO.out.lt _ e.symm).1 (by omega))).trans (hb3.block j hj)⟩
      have HB5 := Lib.hid hb5
      have hl5 : (l.take k).map good9 ++ [(⟨m1k, m1s, m1l, m1t⟩, ⟨m2k, m2s, m2l, m2t⟩, ⟨m3k, m3s, m3l, m3t⟩)] = (l.take (k + 1)).map good9 := by
        rw [take_snoc l k hkl, List.map_append, List.map_cons, List.map_nil, ← HX.out, ← HGG.out]
      rw [hl5] at ho5
      have HO5 := Lib.hid ho5
      clear hb3 hb5 hl5 ho5 hg5 hq5
      go_roundw
      case rel =>
        have := HSN.out
        exact ⟨k + 1, ao5, sn + 1, cap5, by omega, by omega, by go_num, by first | rfl | (push_cast; rfl), by omega, hx5, hy5, HO5.out, HB5.out⟩
      case measure => simp [intOf]; omega
    · have hkl : (l.take 30) = l.take k := by
        have := HN.out
        by_cases h30 : k = 30
        · rw [h30]
        · rw [List.take_of_length_le (by omega), List.take_of_length_le (by omega)]
      have hlen : ((l.take k).map good9).length = k := by rw [List.length_map, List.length_take]; have := HN.out; omega
      have HKL := Lib.hid hkl
      have HLE := Lib.hid hlen
      clear hkl hlen
      by_cases hA : (k : Int) < n
      · have hB : ¬ ((k : Int) < 30) := by omega
        go_wp2_with fail
        go_ret
        unfold AllTo
        rw [HKL.out, HLE.out]
        have h1 := HSN.out
        subst h1
        exact ⟨sa, sc, rfl, hsc, HB.out, HO.out⟩
      · go_wp2_with fail
        go_ret
        unfold AllTo
        rw [HKL.out, HLE.out]
        have h1 := HSN.out
        subst h1
        exact ⟨sa, sc, rfl, hsc, HB.out, HO.out⟩
end Go.Proofs.YtbkokckpjmbjhaaDoor
