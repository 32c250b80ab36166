/- Terms: Parse, triadref6's. -/
import Derived.Test.YtpoacgnncinmiaaTz
import Derived.Test.YtpoacgnncinmiaaCr
namespace Go.Proofs.Ytpoacgnncinmiaa
open Go.RowKit
set_option maxRecDepth 100000
set_option linter.unusedVariables false

theorem grown_set (w : World) (p : Nat) (i : Nat) (v : Value) : w.grownBy (w.setCell ⟨p, i, none⟩ v) (some p) :=
  ⟨rfl, rfl, rfl, by simp [World.setCell], fun k _ hk => Below.heap_setCell _ _ _ _ (by simpa using hk)⟩
theorem Mine.put1 {W : World} {p : Nat} {x : Tm} (h : Mine W p x) (v : ByteArray) : Mine (W.setCell ⟨p, 1, none⟩ (.string v)) p ⟨x.k, v, x.l, x.t⟩ := by
  obtain ⟨⟨c0, c1, c2, c3⟩, f0, f1, f2, f3⟩ := h
  refine ⟨⟨?_, ?_, ?_, ?_⟩, ?_, ?_, ?_, ?_⟩
  · rw [cell_of_set c0]; simp
  · rw [cell_of_set c1]; simp
  · rw [cell_of_set c2]; simp
  · rw [cell_of_set c3]; simp
  all_goals (rw [World.frozen?_setCell]; assumption)
theorem Mine.put2 {W : World} {p : Nat} {x : Tm} (h : Mine W p x) (v : ByteArray) : Mine (W.setCell ⟨p, 2, none⟩ (.string v)) p ⟨x.k, x.s, v, x.t⟩ := by
  obtain ⟨⟨c0, c1, c2, c3⟩, f0, f1, f2, f3⟩ := h
  refine ⟨⟨?_, ?_, ?_, ?_⟩, ?_, ?_, ?_, ?_⟩
  · rw [cell_of_set c0]; simp
  · rw [cell_of_set c1]; simp
  · rw [cell_of_set c2]; simp
  · rw [cell_of_set c3]; simp
  all_goals (rw [World.frozen?_setCell]; assumption)
theorem Mine.put3 {W : World} {p : Nat} {x : Tm} (h : Mine W p x) (v : ByteArray) : Mine (W.setCell ⟨p, 3, none⟩ (.string v)) p ⟨x.k, x.s, x.l, v⟩ := by
  obtain ⟨⟨c0, c1, c2, c3⟩, f0, f1, f2, f3⟩ := h
  refine ⟨⟨?_, ?_, ?_, ?_⟩, ?_, ?_, ?_, ?_⟩
  · rw [cell_of_set c0]; simp
  · rw [cell_of_set c1]; simp
  · rw [cell_of_set c2]; simp
  · rw [cell_of_set c3]; simp
  all_goals (rw [World.frozen?_setCell]; assumption)
theorem bs_low {w : World} {v : Value} {b : List UInt8} (h : Bs w v b) : b = [] ∨ ∀ g, v.ownBlock = some g → g < w.heap.size := by
  by_cases hb : b = []
  · exact .inl hb
  · right
    obtain ⟨g, off, cap, rfl, -, -, hc⟩ := h.at (List.length_pos_iff.2 hb)
    intro g' hg
    have : g = g' := by simpa [Value.ownBlock] using hg
    subst this
    exact World.block_lt_of_cell? w _ (hc 0 (List.length_pos_iff.2 hb))
set_option maxHeartbeats 16000000 in
theorem rparse_any (v : Value) (b : List UInt8) (hb : b.length ≤ 1099511627776) (w : World) (hbs : Bs w v b) :
    Calls Try.prog 21 #[v] w fun e w' => e = .returned (.tuple #[(parseOf b).1.val, .int .i64 (parseOf b).2]) ∧ Below w.heap.size w w' := by
  have hrok := raw_ok b hb
  obtain ⟨R, hR⟩ : ∃ R, R = parseOf b := ⟨_, rfl⟩
  rw [← hR]
  obtain ⟨K, hK⟩ : ∃ K, K = wrap64 (num (tookOf b 0 1)) := ⟨_, rfl⟩
  obtain ⟨S, hS⟩ : ∃ S : ByteArray, S = ⟨(textOf (leftOf b 0 1) (errOf b 0 1)).toArray⟩ := ⟨_, rfl⟩
  obtain ⟨L, hL⟩ : ∃ L : ByteArray, L = ⟨(textOf (textLeft (leftOf b 0 1) (errOf b 0 1)) (textErr (leftOf b 0 1) (errOf b 0 1))).toArray⟩ := ⟨_, rfl⟩
  obtain ⟨T, hT⟩ : ∃ T : ByteArray, T = ⟨(textOf (textLeft (textLeft (leftOf b 0 1) (errOf b 0 1)) (textErr (leftOf b 0 1) (errOf b 0 1))) (textErr (textLeft (leftOf b 0 1) (errOf b 0 1)) (textErr (leftOf b 0 1) (errOf b 0 1)))).toArray⟩ := ⟨_, rfl⟩
  obtain ⟨E, hE⟩ : ∃ E, E = endOf (textLeft (textLeft (textLeft (leftOf b 0 1) (errOf b 0 1)) (textErr (leftOf b 0 1) (errOf b 0 1))) (textErr (textLeft (leftOf b 0 1) (errOf b 0 1)) (textErr (leftOf b 0 1) (errOf b 0 1)))) (textErr (textLeft (textLeft (leftOf b 0 1) (errOf b 0 1)) (textErr (leftOf b 0 1) (errOf b 0 1))) (textErr (textLeft (leftOf b 0 1) (errOf b 0 1)) (textErr (leftOf b 0 1) (errOf b 0 1)))) := ⟨_, rfl⟩
  have hraw : rawT b = (⟨K, S, L, T⟩, E) := by rw [hK, hS, hL, hT, hE]; rfl
  have hck := rcheck_any _ hrok
  unfold parseOf at hR
  rw [hraw] at hR hck
  unfold Tm.val at hck
  dsimp only at hR hck
  generalize checkOf _ = C at hR hck
  have HR := Lib.hid hR
  have HK := Lib.hid hK
  have HS := Lib.hid hS
  have HL := Lib.hid hL
  have HT := Lib.hid hT
  have HE := Lib.hid hE
  have HCK := Lib.hid hck
  clear hR hK hS hL hT hE hck hraw hrok
  obtain ⟨ao, cap, rfl, -⟩ := id hbs
  have hm : Mine (w.alloc (.cells #[.int .i64 0, .string ⟨#[]⟩, .string ⟨#[]⟩, .string ⟨#[]⟩] 23)) w.heap.size noT := Mine.new w
  have hbw : Below w.heap.size w (w.alloc (.cells #[.int .i64 0, .string ⟨#[]⟩, .string ⟨#[]⟩, .string ⟨#[]⟩] 23)) := (Below.refl _ _).alloc (Nat.le_refl _) _
  have hlt : w.heap.size < (w.alloc (.cells #[.int .i64 0, .string ⟨#[]⟩, .string ⟨#[]⟩, .string ⟨#[]⟩] 23)).heap.size := by simp
  obtain ⟨W, hW⟩ : ∃ W, W = w.alloc (.cells #[.int .i64 0, .string ⟨#[]⟩, .string ⟨#[]⟩, .string ⟨#[]⟩] 23) := ⟨_, rfl⟩
  rw [← hW] at hm hbw hlt
  have HBS := Lib.hid (hbs.below hbw)
  have HM := Lib.hid hm
  have HB := Lib.hid hbw
  have HLT := Lib.hid hlt
  have HW := Lib.hid hW
  have HLO := Lib.hid (bs_low hbs)
  clear hm hbw hlt hW
  go_enter Try.func21, Try.ntmps21
  go_wp2_with fail
  rw [← HW.out]
  refine (newR_any (mB := w.heap.size) _ b _ HBS.out (Nat.le_of_lt HLT.out) HLO.out).mono ?_
  rintro e w2 ⟨rfl, hrd, hb2⟩
  have hm2 := HM.out.below hb2
  have hbl2 := HB.out.trans (hb2.mono HB.out.size)
  obtain ⟨r, hr⟩ : ∃ r, r = W.heap.size := ⟨_, rfl⟩
  rw [← hr] at hrd ⊢
  have hr2 : w.heap.size < r := by rw [hr]; exact HLT.out
  have HRD := Lib.hid hrd
  have HM2 := Lib.hid hm2
  have HB2 := Lib.hid hbl2
  have HR2 := Lib.hid hr2
  clear hrd hm2 hbl2 hb2 hr hr2 HBS HLO HW
  go_wp2_with fail
  refine (byteR_any r b 0 _ HRD.out).mono ?_
  rintro e w3 ⟨rfl, hrd, hg⟩
  rw [← HK.out]
  have hm3 := HM2.out.grown hg (by have := HR2.out; intro h; injection h; omega)
  have hbl3 := HB2.out.grown hg HB2.out.size (fun q h => by have := HR2.out; injection h; omega)
  have hal : Below w3.heap.size w3 (w3.alloc (.cells #[.int .i64 K, .string ⟨#[]⟩, .string ⟨#[]⟩, .string ⟨#[]⟩] 23)) := (Below.refl _ _).alloc (Nat.le_refl _) _
  have hp : Mine (w3.alloc (.cells #[.int .i64 K, .string ⟨#[]⟩, .string ⟨#[]⟩, .string ⟨#[]⟩] 23)) w3.heap.size ⟨K, nob, nob, nob⟩ := by
    refine ⟨⟨?_, ?_, ?_, ?_⟩, ?_, ?_, ?_, ?_⟩ <;> simp [nob]
  have hrd4 := hrd.below hal
  have hm4 := hm3.below hal
  have hbl4 := hbl3.trans (hal.mono hbl3.size)
  have hpr : r < w3.heap.size := hrd.lt
  have hpw : w.heap.size < w3.heap.size := hm3.1.lt
  obtain ⟨p, hpe⟩ : ∃ p, p = w3.heap.size := ⟨_, rfl⟩
  rw [← hpe] at hp hpr hpw
  have HRD2 := Lib.hid hrd4
  have HM := Lib.hid hm4
  have HB := Lib.hid hbl4
  have HP := Lib.hid hp
  have HPR := Lib.hid hpr
  have HPW := Lib.hid hpw
  have HPE := Lib.hid hpe
  clear hrd hg hm3 hbl3 hal hp hrd4 hm4 hbl4 hpr hpw hpe HRD HM2 HB2
  go_wp2_with fail
  simp only [← HPE.out]
  refine (textR_any r (leftOf b 0 1) (errOf b 0 1) _ HRD2.out).mono ?_
  rintro e y0 ⟨rfl, hrd, hg⟩
  rw [← HS.out]
  have hm2 := HM.out.grown hg (by have := HR2.out; intro h; injection h; omega)
  have hbl2 := HB.out.grown hg HB.out.size (fun q h => by have := HR2.out; injection h; omega)
  have hp2 := HP.out.grown hg (by have := HPR.out; intro h; injection h; omega)
  have hgs := grown_set y0 p 1 (.string S)
  have hrd2 := hrd.keep (r := p) (by have := HPR.out; omega) (by have := HPW.out; omega) hgs
  have hm3 := hm2.grown hgs (by have := HPW.out; intro h; injection h; omega)
  have hbl3 := hbl2.grown hgs hbl2.size (fun q h => by have := HPW.out; injection h; omega)
  have hp3 := hp2.put1 S
  obtain ⟨⟨c0, c1, c2, c3⟩, f0, f1, f2, f3⟩ := hp2
  dsimp only at c0 c1 c2 c3 hp3
  clear HRD2 HM HB HP
  have HRD2 := Lib.hid hrd2
  have HM := Lib.hid hm3
  have HB := Lib.hid hbl3
  have HP := Lib.hid hp3
  clear hrd hg hm2 hbl2 hgs hrd2 hm3 hbl3 hp3
  go_wp2_with fail
  clear c0 c1 c2 c3 f0 f1 f2 f3
  refine (textR_any r (textLeft (leftOf b 0 1) (errOf b 0 1)) (textErr (leftOf b 0 1) (errOf b 0 1)) _ HRD2.out).mono ?_
  rintro e y1 ⟨rfl, hrd, hg⟩
  rw [← HL.out]
  have hm2 := HM.out.grown hg (by have := HR2.out; intro h; injection h; omega)
  have hbl2 := HB.out.grown hg HB.out.size (fun q h => by have := HR2.out; injection h; omega)
  have hp2 := HP.out.grown hg (by have := HPR.out; intro h; injection h; omega)
  have hgs := grown_set y1 p 2 (.string L)
  have hrd2 := hrd.keep (r := p) (by have := HPR.out; omega) (by have := HPW.out; omega) hgs
  have hm3 := hm2.grown hgs (by have := HPW.out; intro h; injection h; omega)
  have hbl3 := hbl2.grown hgs hbl2.size (fun q h => by have := HPW.out; injection h; omega)
  have hp3 := hp2.put2 L
  obtain ⟨⟨c0, c1, c2, c3⟩, f0, f1, f2, f3⟩ := hp2
  dsimp only at c0 c1 c2 c3 hp3
  clear HRD2 HM HB HP
  have HRD2 := Lib.hid hrd2
  have HM := Lib.hid hm3
  have HB := Lib.hid hbl3
  have HP := Lib.hid hp3
  clear hrd hg hm2 hbl2 hgs hrd2 hm3 hbl3 hp3
  go_wp2_with fail
  clear c0 c1 c2 c3 f0 f1 f2 f3
  refine (textR_any r (textLeft (textLeft (leftOf b 0 1) (errOf b 0 1)) (textErr (leftOf b 0 1) (errOf b 0 1))) (textErr (textLeft (leftOf b 0 1) (errOf b 0 1)) (textErr (leftOf b 0 1) (errOf b 0 1))) _ HRD2.out).mono ?_
  rintro e y2 ⟨rfl, hrd, hg⟩
  rw [← HT.out]
  have hm2 := HM.out.grown hg (by have := HR2.out; intro h; injection h; omega)
  have hbl2 := HB.out.grown hg HB.out.size (fun q h => by have := HR2.out; injection h; omega)
  have hp2 := HP.out.grown hg (by have := HPR.out; intro h; injection h; omega)
  have hgs := grown_set y2 p 3 (.string T)
  have hrd2 := hrd.keep (r := p) (by have := HPR.out; omega) (by have := HPW.out; omega) hgs
  have hm3 := hm2.grown hgs (by have := HPW.out; intro h; injection h; omega)
  have hbl3 := hbl2.grown hgs hbl2.size (fun q h => by have := HPW.out; injection h; omega)
  have hp3 := hp2.put3 T
  obtain ⟨⟨c0, c1, c2, c3⟩, f0, f1, f2, f3⟩ := hp2
  dsimp only at c0 c1 c2 c3 hp3
  clear HRD2 HM HB HP
  have HRD2 := Lib.hid hrd2
  have HM := Lib.hid hm3
  have HB := Lib.hid hbl3
  have HP := Lib.hid hp3
  clear hrd hg hm2 hbl2 hgs hrd2 hm3 hbl3 hp3
  go_wp2_with fail
  clear c0 c1 c2 c3 f0 f1 f2 f3
  refine (endR_any r _ _ _ HRD2.out).mono ?_
  rintro e z1 ⟨rfl, m, hz⟩
  rw [← HE.out]
  have hmz : Mine z1 w.heap.size noT := by rw [hz]; exact HM.out
  have hbz : Below w.heap.size w z1 := by rw [hz]; exact drewN_below HB.out _
  have hpz : Mine z1 p ⟨K, S, L, T⟩ := by rw [hz]; exact HP.out
  have HMZ := Lib.hid hmz
  have HBZ := Lib.hid hbz
  have HPZ := Lib.hid hpz
  clear hz hmz hbz hpz HRD2 HM HB HP
  by_cases hE0 : E = 0
  rotate_left
  · have HRR := Lib.hid (show R = (noT, E) by rw [HR.out, if_pos hE0])
    have hn : (E != 0) = true := by simpa using hE0
    have hn2 : (E == 0) = false := by simpa using hE0
    obtain ⟨⟨c0, c1, c2, c3⟩, f0, f1, f2, f3⟩ := HMZ.out
    unfold noT nob at c0 c1 c2 c3
    dsimp only at c0 c1 c2 c3
    clear hE0
    go_wp2_with fail
    refine bodyPost_ret (v := .tuple #[.agg #[.int .i64 0, .string ⟨#[]⟩, .string ⟨#[]⟩, .string ⟨#[]⟩], .int .i64 E]) (by simp [results, Try.results21, go_sem, cell_of_set c0, cell_of_set c1, cell_of_set c2, cell_of_set c3]) rfl ⟨?_, ?_⟩
    · rw [HRR.out]; rfl
    · exact (((HBZ.out.setCell (Nat.le_refl _) _).setCell (Nat.le_refl _) _).setCell (Nat.le_refl _) _).setCell (Nat.le_refl _) _
  subst hE0
  obtain ⟨⟨d0, d1, d2, d3⟩, -⟩ := HPZ.out
  dsimp only at d0 d1 d2 d3
  go_wp2_with fail
  refine (HCK.out _).mono ?_
  rintro e z2 ⟨rfl, hb8⟩
  have HM8 := Lib.hid (HMZ.out.below hb8)
  have HB8 := Lib.hid (HBZ.out.trans (hb8.mono HBZ.out.size))
  have HP8 := Lib.hid (HPZ.out.below hb8)
  clear hb8 HMZ HBZ HPZ d0 d1 d2 d3
  by_cases hC0 : C = 0
  rotate_left
  · have HRR := Lib.hid (show R = (noT, C) by rw [HR.out, if_neg (by simp), if_pos hC0])
    have hn : (C != 0) = true := by simpa using hC0
    have hn2 : (C == 0) = false := by simpa using hC0
    obtain ⟨⟨c0, c1, c2, c3⟩, f0, f1, f2, f3⟩ := HM8.out
    unfold noT nob at c0 c1 c2 c3
    dsimp only at c0 c1 c2 c3
    clear hC0
    go_wp2_with fail
    refine bodyPost_ret (v := .tuple #[.agg #[.int .i64 0, .string ⟨#[]⟩, .string ⟨#[]⟩, .string ⟨#[]⟩], .int .i64 C]) (by simp [results, Try.results21, go_sem, cell_of_set c0, cell_of_set c1, cell_of_set c2, cell_of_set c3]) rfl ⟨?_, ?_⟩
    · rw [HRR.out]; rfl
    · exact (((HB8.out.setCell (Nat.le_refl _) _).setCell (Nat.le_refl _) _).setCell (Nat.le_refl _) _).setCell (Nat.le_refl _) _
  subst hC0
  have HRR := Lib.hid (show R = (⟨K, S, L, T⟩, 0) by rw [HR.out, if_neg (by simp), if_neg (by simp)])
  obtain ⟨⟨d0, d1, d2, d3⟩, -⟩ := HP8.out
  obtain ⟨⟨c0, c1, c2, c3⟩, f0, f1, f2, f3⟩ := HM8.out
  dsimp only at c0 c1 c2 c3 d0 d1 d2 d3
  go_wp2_with fail
  refine bodyPost_ret (v := .tuple #[.agg #[.int .i64 K, .string S, .string L, .string T], .int .i64 0]) (by simp [results, Try.results21, go_sem, cell_of_set c0, cell_of_set c1, cell_of_set c2, cell_of_set c3]) rfl ⟨?_, ?_⟩
  · rw [HRR.out]; rfl
  · exact (((HB8.out.setCell (Nat.le_refl _) _).setCell (Nat.le_refl _) _).setCell (Nat.le_refl _) _).setCell (Nat.le_refl _) _
end Go.Proofs.Ytpoacgnncinmiaa
