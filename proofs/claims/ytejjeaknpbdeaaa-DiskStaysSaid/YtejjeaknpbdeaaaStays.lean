/- The walk of the law DiskStays. -/
import Derived.Test.YtejjeaknpbdeaaaStaysS
namespace Go.Proofs.Ytejjeaknpbdeaaa
open Go.RowKit

set_option maxRecDepth 100000 in
set_option maxHeartbeats 8000000 in
theorem stays_walk (ao to ko : Option Addr) (ac tc kc : Nat) (vs : List UInt8) (ts : List Int) (ks : List Bool) (x : Int) (w : World) (ha : Bs w (.slice ao vs.length ac) vs) (ht : Nl w (.slice to ts.length tc) ts) (hk : Bl w (.slice ko ks.length kc) ks)
    (hP : 0 < ks.length → ∀ k, (Value.slice ko ks.length kc).ownBlock = some k → k < w.heap.size) (hal : vs.length ≤ 20) (htl : ts.length ≤ 20) :
    Calls Try.prog 4 #[.slice ao vs.length ac, .slice to ts.length tc, .slice ko ks.length kc, .int .i64 x] w fun e w' => e = .returned (.bool true) ∧ Below w.heap.size w w' := by
  obtain ⟨sy, hsy, hsyl⟩ : ∃ m : Nat, withinOf x (ts.length + 1) = m ∧ m ≤ ts.length := ⟨(withinOf x (ts.length + 1)).toNat, by have := within_range x (ts.length + 1) (by omega); omega, by have := within_range x (ts.length + 1) (by omega); omega⟩
  have wx := within_any x (ts.length + 1) (by omega) (by omega)
  rw [hsy] at wx
  have HX := Lib.hid wx
  have hac : vs.length ≤ ac ∧ ac ≤ 9223372036854775807 := by
    obtain ⟨a, c, e, g1, g2, -⟩ := ha
    simp only [Value.slice.injEq, true_and] at e
    obtain ⟨rfl, rfl⟩ := e
    exact ⟨g1, g2⟩
  have htc : ts.length ≤ tc ∧ tc ≤ 9223372036854775807 := by
    obtain ⟨a, c, e, g1, g2, -⟩ := ht
    simp only [Value.slice.injEq, true_and] at e
    obtain ⟨rfl, rfl⟩ := e
    exact ⟨g1, g2⟩
  have hkc : ks.length ≤ kc ∧ kc ≤ 9223372036854775807 := by
    obtain ⟨a, c, e, g1, g2, -⟩ := hk
    simp only [Value.slice.injEq, true_and] at e
    obtain ⟨rfl, rfl⟩ := e
    exact ⟨g1, g2⟩
  have hal' : (vs.length : Int) ≤ 20 := by omega
  have htl' : (ts.length : Int) ≤ 20 := by omega
  obtain ⟨hac1, hac2⟩ := hac
  obtain ⟨htc1, htc2⟩ := htc
  obtain ⟨hkc1, hkc2⟩ := hkc
  clear wx hsy
  go_enter Try.func4, Try.ntmps4
  go_wp2_with fail
  refine (known_any _).mono ?_
  rintro e w0 ⟨rfl, hb0⟩
  go_wp2_with fail
  refine (st_new 4 w _ hb0).mono ?_
  rintro e w1 ⟨r, rfl, h1⟩
  have h1 : St w w1 r (Dsk.new 4) := h1
  go_wp2_with fail
  refine (HX.out _).mono ?_
  rintro e w9 ⟨rfl, hw9⟩
  replace hw9 := hw9.symm
  subst hw9
  have hq0 : Sq w (w1.alloc (.cells #[.int .u8 0, .int .u8 0, .int .u8 0, .int .u8 0] 38)) r (Dsk.new 4) w1.heap.size [0, 0, 0, 0] := by
    obtain ⟨g1, P, g2, g3⟩ := h1
    exact Sq.of (g1.alloc g1.size _) g1.size (Blk.new w1 _ _) (g2.moved (Q := fun _ => False) ((Moved.refl _ w1).alloc _) (fun _ _ hq => hq)) (fun k hk => ⟨(g3 k hk).1, by have := (g3 k hk).2; omega⟩)
  generalize (w1.alloc _) = w2 at hq0 ⊢
  generalize w1.heap.size = q at hq0 ⊢
  clear HX
  go_wp2_with fail
  go_loopw [11] (fun i wr => ∃ (k : Nat) (s : Dsk) (W : List UInt8), k ≤ ts.length ∧ i = .int .i64 k ∧ Sq w wr r s q W ∧ Inv ks sy s W k) (fun i _ => 20 - (intOf i).toNat)
  case atStart => exact ⟨0, _, _, Nat.zero_le _, rfl, hq0, stays_start ks sy⟩
  case round =>
    obtain ⟨k, s, W, hkn, rfl, hs, hI⟩ := hrel
    have hso : s.ops ≤ 4611686018427387904 := by have := hI.ops; omega
    have hss : s.stop ≤ 9223372036854775807 := by rw [hI.stop]; decide
    have hsi : s.since.length ≤ 1073741824 := by have := hI.since; omega
    by_cases hlt : k < ts.length
    · obtain ⟨tb, tf, tc', e, -, -, htc⟩ := ht.at (by omega)
      simp only [Value.slice.injEq, true_and] at e
      obtain ⟨rfl, rfl⟩ := e
      have htk := htc k hlt
      have htb : tb < w.heap.size := World.block_lt_of_cell? _ _ htk
      obtain ⟨y, hy⟩ : ∃ y, y = ts[k] := ⟨_, rfl⟩
      rw [← hy] at htk
      obtain ⟨p, hpy, hp⟩ : ∃ p : Nat, withinOf y 4 = p ∧ p < 4 := ⟨(withinOf y 4).toNat, by have := within_range y 4 (by decide); omega, by have := within_range y 4 (by decide); omega⟩
      have wp' := within_any y 4 (by decide) (by decide)
      rw [hpy] at wp'
      have HP := Lib.hid wp'
      clear wp' hpy htc hy
      have hk20 : k < 20 := by omega
      clear hq0 h1 hb0
      rcases Nat.lt_trichotomy k sy with hph | hph | hph
      · by_cases hva : k < vs.length
        · obtain ⟨ab, af, ac', e, -, -, hac⟩ := ha.at (by omega)
          simp only [Value.slice.injEq, true_and] at e
          obtain ⟨rfl, rfl⟩ := e
          have hak := hac k hva
          have hab : ab < w.heap.size := World.block_lt_of_cell? _ _ hak
          clear hac
          have h4 := hs
          have hM := hI.other (by omega)
          clear hI hs
          have hso4 := hso
          have hss4 := hss
          have hsi4 := hsi
          obtain ⟨w4, hw4⟩ : ∃ w4, w4 = wr := ⟨_, rfl⟩
          rw [← hw4] at h4 ⊢
          clear hw4
          obtain ⟨s4, hs4⟩ : ∃ s4, s4 = s := ⟨_, rfl⟩
          rw [← hs4] at h4 hM hso4 hss4 hsi4
          clear hs4 hso hss hsi
          have hct := (h4.1.cell (p := ⟨tb, tf + k, none⟩) htb).trans htk
          have hcv := (h4.1.cell (p := ⟨ab, af + k, none⟩) hab).trans hak
          obtain ⟨v, hv⟩ : ∃ v, v = vs[k] := ⟨_, rfl⟩
          obtain ⟨z, hz⟩ : ∃ z : Int, z = (v.toNat : Int) := ⟨_, rfl⟩
          have hvz : Value.int .u8 z = vb v := by rw [hz]; rfl
          rw [← hv, ← hvz] at hcv
          have HZ := Lib.hid hvz
          clear hv hz hvz
          go_wp2_with fail
          refine (HP.out _).mono ?_
          rintro e w8 ⟨rfl, hw8⟩
          replace hw8 := hw8.symm
          subst hw8
          go_wp2_with fail
          refine (sq_write r s4 p _ [v] q W w _ (h4.alloc _) (Bs.one _ v _ HZ.out) hso4 hss4 hsi4).mono ?_
          rw [show writeErr s4 (p : Int) [v] = 0 from hM.writeErr p hp v]
          rintro e w5 ⟨rfl, h5⟩
          clear hct hso4 hss4 hsi4
          clear hcv
          have hct5 := (h5.1.cell (p := ⟨tb, tf + k, none⟩) htb).trans htk
          have hI5 := Lib.hid (hM.write p hp v (W.set p v) (fun _ => rfl) (fun h => absurd (.inl hph) h))
          have hcq : w5.cell? ⟨q, p, none⟩ = some (vb (W[p]'(by rw [hM.wlen]; exact hp))) := by rw [h5.2.2.1.cell]; simp [vbs, hM.wlen, hp]
          obtain ⟨old, hold⟩ : ∃ old, old = vb (W[p]'(by rw [hM.wlen]; exact hp)) := ⟨_, rfl⟩
          rw [← hold] at hcq
          have hfq : w5.frozen? ⟨q, p, none⟩ = false := h5.2.2.1.frozen p
          have hS := h5.set p v
          rw [← HZ.out] at hS
          have HS := Lib.hid hS
          clear hS hold h4 hM h5
          generalize s4.write p [v] = s5 at hI5 HS
          go_wp2_with fail
          refine (HP.out _).mono ?_
          rintro e w8 ⟨rfl, hw8⟩
          replace hw8 := hw8.symm
          subst hw8
          go_wp2_with fail
          go_roundw
          case rel => exact ⟨k + 1, s5, _, by omega, by go_num, HS.out, hI5.out⟩
          case measure => simp [intOf]; omega
        · have h4 := hs
          have hM := hI.other (by omega)
          clear hI hs
          have hso4 := hso
          have hss4 := hss
          have hsi4 := hsi
          obtain ⟨w4, hw4⟩ : ∃ w4, w4 = wr := ⟨_, rfl⟩
          rw [← hw4] at h4 ⊢
          clear hw4
          obtain ⟨s4, hs4⟩ : ∃ s4, s4 = s := ⟨_, rfl⟩
          rw [← hs4] at h4 hM hso4 hss4 hsi4
          clear hs4 hso hss hsi
          have hct := (h4.1.cell (p := ⟨tb, tf + k, none⟩) htb).trans htk
          obtain ⟨v, hv⟩ : ∃ v, v = byteOf ((k : Int) + 1) := ⟨_, rfl⟩
          have hvz : Value.int .u8 ((k : Int) + 1) = vb v := by rw [hv, vb_byteOf]; congr 1; omega
          have HZ := Lib.hid hvz
          clear hv hvz
          go_wp2_with fail
          refine (HP.out _).mono ?_
          rintro e w8 ⟨rfl, hw8⟩
          replace hw8 := hw8.symm
          subst hw8
          go_wp2_with fail
          refine (sq_write r s4 p _ [v] q W w _ (h4.alloc _) (Bs.one _ v _ HZ.out) hso4 hss4 hsi4).mono ?_
          rw [show writeErr s4 (p : Int) [v] = 0 from hM.writeErr p hp v]
          rintro e w5 ⟨rfl, h5⟩
          clear hct hso4 hss4 hsi4
          have hct5 := (h5.1.cell (p := ⟨tb, tf + k, none⟩) htb).trans htk
          have hI5 := Lib.hid (hM.write p hp v (W.set p v) (fun _ => rfl) (fun h => absurd (.inl hph) h))
          have hcq : w5.cell? ⟨q, p, none⟩ = some (vb (W[p]'(by rw [hM.wlen]; exact hp))) := by rw [h5.2.2.1.cell]; simp [vbs, hM.wlen, hp]
          obtain ⟨old, hold⟩ : ∃ old, old = vb (W[p]'(by rw [hM.wlen]; exact hp)) := ⟨_, rfl⟩
          rw [← hold] at hcq
          have hfq : w5.frozen? ⟨q, p, none⟩ = false := h5.2.2.1.frozen p
          have hS := h5.set p v
          rw [← HZ.out] at hS
          have HS := Lib.hid hS
          clear hS hold h4 hM h5
          generalize s4.write p [v] = s5 at hI5 HS
          go_wp2_with fail
          refine (HP.out _).mono ?_
          rintro e w8 ⟨rfl, hw8⟩
          replace hw8 := hw8.symm
          subst hw8
          go_wp2_with fail
          go_roundw
          case rel => exact ⟨k + 1, s5, _, by omega, by go_num, HS.out, hI5.out⟩
          case measure => simp [intOf]; omega
      · subst hph
        rw [show (k : Int) = k from rfl]
        by_cases hkl : k - k < ks.length
        · obtain ⟨kb, kf, kc', e, -, -, hkc⟩ := hk.at (by omega)
          simp only [Value.slice.injEq, true_and] at e
          obtain ⟨rfl, rfl⟩ := e
          have hkk := hkc (k - k) hkl
          have hkb : kb < w.heap.size := World.block_lt_of_cell? _ _ hkk
          clear hkc
          cases hkv : ks[k - k] with
          | true =>
            have hke : ks.getD (k - k) false = true := by rw [List.getD_eq_getElem?_getD, List.getElem?_eq_getElem hkl]; exact hkv
            rw [hkv] at hkk
            clear hkv
            by_cases hva : k < vs.length
            · obtain ⟨ab, af, ac', e, -, -, hac⟩ := ha.at (by omega)
              simp only [Value.slice.injEq, true_and] at e
              obtain ⟨rfl, rfl⟩ := e
              have hak := hac k hva
              have hab : ab < w.heap.size := World.block_lt_of_cell? _ _ hak
              clear hac
              go_wp2_with fail
              have hsn := hI.sync
              refine (sq_sync r s q W w _ hs hso hss).mono ?_
              rw [hsn.1]
              rintro e w4 ⟨rfl, h4⟩
              have hM := hsn.2
              clear hsn hI hs
              have hso4 : s.sync.ops ≤ 4611686018427387904 := by have := hM.ops; omega
              have hss4 : s.sync.stop ≤ 9223372036854775807 := by rw [hM.stop]; decide
              have hsi4 : s.sync.since.length ≤ 1073741824 := by have := hM.since; omega
              clear hso hss hsi
              generalize s.sync = s4 at h4 hM hso4 hss4 hsi4
              have hct := (h4.1.cell (p := ⟨tb, tf + k, none⟩) htb).trans htk
              have hcv := (h4.1.cell (p := ⟨ab, af + k, none⟩) hab).trans hak
              obtain ⟨v, hv⟩ : ∃ v, v = vs[k] := ⟨_, rfl⟩
              obtain ⟨z, hz⟩ : ∃ z : Int, z = (v.toNat : Int) := ⟨_, rfl⟩
              have hvz : Value.int .u8 z = vb v := by rw [hz]; rfl
              rw [← hv, ← hvz] at hcv
              have HZ := Lib.hid hvz
              clear hv hz hvz
              go_wp2_with fail
              refine (HP.out _).mono ?_
              rintro e w8 ⟨rfl, hw8⟩
              replace hw8 := hw8.symm
              subst hw8
              go_wp2_with fail
              refine (sq_write r s4 p _ [v] q W w _ (h4.alloc _) (Bs.one _ v _ HZ.out) hso4 hss4 hsi4).mono ?_
              rw [show writeErr s4 (p : Int) [v] = 0 from hM.writeErr p hp v]
              rintro e w5 ⟨rfl, h5⟩
              clear hct hso4 hss4 hsi4
              clear hcv
              have hct5 := (h5.1.cell (p := ⟨tb, tf + k, none⟩) htb).trans htk
              have hck5 := (h5.1.cell (p := ⟨kb, kf + (k - k), none⟩) hkb).trans hkk
              rw [Nat.sub_self, Nat.add_zero] at hck5
              have hI5 := Lib.hid (hM.write p hp v (W.set p v) (fun _ => rfl) (fun h => absurd (.inr hke) h))
              have hcq : w5.cell? ⟨q, p, none⟩ = some (vb (W[p]'(by rw [hM.wlen]; exact hp))) := by rw [h5.2.2.1.cell]; simp [vbs, hM.wlen, hp]
              obtain ⟨old, hold⟩ : ∃ old, old = vb (W[p]'(by rw [hM.wlen]; exact hp)) := ⟨_, rfl⟩
              rw [← hold] at hcq
              have hfq : w5.frozen? ⟨q, p, none⟩ = false := h5.2.2.1.frozen p
              have hS := h5.set p v
              rw [← HZ.out] at hS
              have HS := Lib.hid hS
              clear hS hold h4 hM h5
              generalize s4.write p [v] = s5 at hI5 HS
              go_wp2_with fail
              refine (HP.out _).mono ?_
              rintro e w8 ⟨rfl, hw8⟩
              replace hw8 := hw8.symm
              subst hw8
              go_wp2_with fail
              go_roundw
              case rel => exact ⟨k + 1, s5, _, by omega, by go_num, HS.out, hI5.out⟩
              case measure => simp [intOf]; omega
            · go_wp2_with fail
              have hsn := hI.sync
              refine (sq_sync r s q W w _ hs hso hss).mono ?_
              rw [hsn.1]
              rintro e w4 ⟨rfl, h4⟩
              have hM := hsn.2
              clear hsn hI hs
              have hso4 : s.sync.ops ≤ 4611686018427387904 := by have := hM.ops; omega
              have hss4 : s.sync.stop ≤ 9223372036854775807 := by rw [hM.stop]; decide
              have hsi4 : s.sync.since.length ≤ 1073741824 := by have := hM.since; omega
              clear hso hss hsi
              generalize s.sync = s4 at h4 hM hso4 hss4 hsi4
              have hct := (h4.1.cell (p := ⟨tb, tf + k, none⟩) htb).trans htk
              obtain ⟨v, hv⟩ : ∃ v, v = byteOf ((k : Int) + 1) := ⟨_, rfl⟩
              have hvz : Value.int .u8 ((k : Int) + 1) = vb v := by rw [hv, vb_byteOf]; congr 1; omega
              have HZ := Lib.hid hvz
              clear hv hvz
              go_wp2_with fail
              refine (HP.out _).mono ?_
              rintro e w8 ⟨rfl, hw8⟩
              replace hw8 := hw8.symm
              subst hw8
              go_wp2_with fail
              refine (sq_write r s4 p _ [v] q W w _ (h4.alloc _) (Bs.one _ v _ HZ.out) hso4 hss4 hsi4).mono ?_
              rw [show writeErr s4 (p : Int) [v] = 0 from hM.writeErr p hp v]
              rintro e w5 ⟨rfl, h5⟩
              clear hct hso4 hss4 hsi4
              have hct5 := (h5.1.cell (p := ⟨tb, tf + k, none⟩) htb).trans htk
              have hck5 := (h5.1.cell (p := ⟨kb, kf + (k - k), none⟩) hkb).trans hkk
              rw [Nat.sub_self, Nat.add_zero] at hck5
              have hI5 := Lib.hid (hM.write p hp v (W.set p v) (fun _ => rfl) (fun h => absurd (.inr hke) h))
              have hcq : w5.cell? ⟨q, p, none⟩ = some (vb (W[p]'(by rw [hM.wlen]; exact hp))) := by rw [h5.2.2.1.cell]; simp [vbs, hM.wlen, hp]
              obtain ⟨old, hold⟩ : ∃ old, old = vb (W[p]'(by rw [hM.wlen]; exact hp)) := ⟨_, rfl⟩
              rw [← hold] at hcq
              have hfq : w5.frozen? ⟨q, p, none⟩ = false := h5.2.2.1.frozen p
              have hS := h5.set p v
              rw [← HZ.out] at hS
              have HS := Lib.hid hS
              clear hS hold h4 hM h5
              generalize s4.write p [v] = s5 at hI5 HS
              go_wp2_with fail
              refine (HP.out _).mono ?_
              rintro e w8 ⟨rfl, hw8⟩
              replace hw8 := hw8.symm
              subst hw8
              go_wp2_with fail
              go_roundw
              case rel => exact ⟨k + 1, s5, _, by omega, by go_num, HS.out, hI5.out⟩
              case measure => simp [intOf]; omega
          | false =>
            have hke : ks.getD (k - k) false = false := by rw [List.getD_eq_getElem?_getD, List.getElem?_eq_getElem hkl]; exact hkv
            rw [hkv] at hkk
            clear hkv
            by_cases hva : k < vs.length
            · obtain ⟨ab, af, ac', e, -, -, hac⟩ := ha.at (by omega)
              simp only [Value.slice.injEq, true_and] at e
              obtain ⟨rfl, rfl⟩ := e
              have hak := hac k hva
              have hab : ab < w.heap.size := World.block_lt_of_cell? _ _ hak
              clear hac
              go_wp2_with fail
              have hsn := hI.sync
              refine (sq_sync r s q W w _ hs hso hss).mono ?_
              rw [hsn.1]
              rintro e w4 ⟨rfl, h4⟩
              have hM := hsn.2
              clear hsn hI hs
              have hso4 : s.sync.ops ≤ 4611686018427387904 := by have := hM.ops; omega
              have hss4 : s.sync.stop ≤ 9223372036854775807 := by rw [hM.stop]; decide
              have hsi4 : s.sync.since.length ≤ 1073741824 := by have := hM.since; omega
              clear hso hss hsi
              generalize s.sync = s4 at h4 hM hso4 hss4 hsi4
              have hct := (h4.1.cell (p := ⟨tb, tf + k, none⟩) htb).trans htk
              have hcv := (h4.1.cell (p := ⟨ab, af + k, none⟩) hab).trans hak
              obtain ⟨v, hv⟩ : ∃ v, v = vs[k] := ⟨_, rfl⟩
              obtain ⟨z, hz⟩ : ∃ z : Int, z = (v.toNat : Int) := ⟨_, rfl⟩
              have hvz : Value.int .u8 z = vb v := by rw [hz]; rfl
              rw [← hv, ← hvz] at hcv
              have HZ := Lib.hid hvz
              clear hv hz hvz
              go_wp2_with fail
              refine (HP.out _).mono ?_
              rintro e w8 ⟨rfl, hw8⟩
              replace hw8 := hw8.symm
              subst hw8
              go_wp2_with fail
              refine (sq_write r s4 p _ [v] q W w _ (h4.alloc _) (Bs.one _ v _ HZ.out) hso4 hss4 hsi4).mono ?_
              rw [show writeErr s4 (p : Int) [v] = 0 from hM.writeErr p hp v]
              rintro e w5 ⟨rfl, h5⟩
              clear hct hso4 hss4 hsi4
              clear hcv
              have hct5 := (h5.1.cell (p := ⟨tb, tf + k, none⟩) htb).trans htk
              have hck5 := (h5.1.cell (p := ⟨kb, kf + (k - k), none⟩) hkb).trans hkk
              rw [Nat.sub_self, Nat.add_zero] at hck5
              have hI5 := Lib.hid (hM.write p hp v W (fun h => absurd h (by rintro (h | h); omega; rw [hke] at h; cases h)) (fun _ => rfl))
              have HS := Lib.hid h5
              clear h4 hM h5
              generalize s4.write p [v] = s5 at hI5 HS
              go_wp2_with fail
              go_roundw
              case rel => exact ⟨k + 1, s5, _, by omega, by go_num, HS.out, hI5.out⟩
              case measure => simp [intOf]; omega
            · go_wp2_with fail
              have hsn := hI.sync
              refine (sq_sync r s q W w _ hs hso hss).mono ?_
              rw [hsn.1]
              rintro e w4 ⟨rfl, h4⟩
              have hM := hsn.2
              clear hsn hI hs
              have hso4 : s.sync.ops ≤ 4611686018427387904 := by have := hM.ops; omega
              have hss4 : s.sync.stop ≤ 9223372036854775807 := by rw [hM.stop]; decide
              have hsi4 : s.sync.since.length ≤ 1073741824 := by have := hM.since; omega
              clear hso hss hsi
              generalize s.sync = s4 at h4 hM hso4 hss4 hsi4
              have hct := (h4.1.cell (p := ⟨tb, tf + k, none⟩) htb).trans htk
              obtain ⟨v, hv⟩ : ∃ v, v = byteOf ((k : Int) + 1) := ⟨_, rfl⟩
              have hvz : Value.int .u8 ((k : Int) + 1) = vb v := by rw [hv, vb_byteOf]; congr 1; omega
              have HZ := Lib.hid hvz
              clear hv hvz
              go_wp2_with fail
              refine (HP.out _).mono ?_
              rintro e w8 ⟨rfl, hw8⟩
              replace hw8 := hw8.symm
              subst hw8
              go_wp2_with fail
              refine (sq_write r s4 p _ [v] q W w _ (h4.alloc _) (Bs.one _ v _ HZ.out) hso4 hss4 hsi4).mono ?_
              rw [show writeErr s4 (p : Int) [v] = 0 from hM.writeErr p hp v]
              rintro e w5 ⟨rfl, h5⟩
              clear hct hso4 hss4 hsi4
              have hct5 := (h5.1.cell (p := ⟨tb, tf + k, none⟩) htb).trans htk
              have hck5 := (h5.1.cell (p := ⟨kb, kf + (k - k), none⟩) hkb).trans hkk
              rw [Nat.sub_self, Nat.add_zero] at hck5
              have hI5 := Lib.hid (hM.write p hp v W (fun h => absurd h (by rintro (h | h); omega; rw [hke] at h; cases h)) (fun _ => rfl))
              have HS := Lib.hid h5
              clear h4 hM h5
              generalize s4.write p [v] = s5 at hI5 HS
              go_wp2_with fail
              go_roundw
              case rel => exact ⟨k + 1, s5, _, by omega, by go_num, HS.out, hI5.out⟩
              case measure => simp [intOf]; omega
        · have hke : ks.getD (k - k) false = false := by rw [List.getD_eq_getElem?_getD, List.getElem?_eq_none (by omega)]; rfl
          by_cases hva : k < vs.length
          · obtain ⟨ab, af, ac', e, -, -, hac⟩ := ha.at (by omega)
            simp only [Value.slice.injEq, true_and] at e
            obtain ⟨rfl, rfl⟩ := e
            have hak := hac k hva
            have hab : ab < w.heap.size := World.block_lt_of_cell? _ _ hak
            clear hac
            go_wp2_with fail
            have hsn := hI.sync
            refine (sq_sync r s q W w _ hs hso hss).mono ?_
            rw [hsn.1]
            rintro e w4 ⟨rfl, h4⟩
            have hM := hsn.2
            clear hsn hI hs
            have hso4 : s.sync.ops ≤ 4611686018427387904 := by have := hM.ops; omega
            have hss4 : s.sync.stop ≤ 9223372036854775807 := by rw [hM.stop]; decide
            have hsi4 : s.sync.since.length ≤ 1073741824 := by have := hM.since; omega
            clear hso hss hsi
            generalize s.sync = s4 at h4 hM hso4 hss4 hsi4
            have hct := (h4.1.cell (p := ⟨tb, tf + k, none⟩) htb).trans htk
            have hcv := (h4.1.cell (p := ⟨ab, af + k, none⟩) hab).trans hak
            obtain ⟨v, hv⟩ : ∃ v, v = vs[k] := ⟨_, rfl⟩
            obtain ⟨z, hz⟩ : ∃ z : Int, z = (v.toNat : Int) := ⟨_, rfl⟩
            have hvz : Value.int .u8 z = vb v := by rw [hz]; rfl
            rw [← hv, ← hvz] at hcv
            have HZ := Lib.hid hvz
            clear hv hz hvz
            go_wp2_with fail
            refine (HP.out _).mono ?_
            rintro e w8 ⟨rfl, hw8⟩
            replace hw8 := hw8.symm
            subst hw8
            go_wp2_with fail
            refine (sq_write r s4 p _ [v] q W w _ (h4.alloc _) (Bs.one _ v _ HZ.out) hso4 hss4 hsi4).mono ?_
            rw [show writeErr s4 (p : Int) [v] = 0 from hM.writeErr p hp v]
            rintro e w5 ⟨rfl, h5⟩
            clear hct hso4 hss4 hsi4
            clear hcv
            have hct5 := (h5.1.cell (p := ⟨tb, tf + k, none⟩) htb).trans htk
            have hko : ¬ (k : Int) - k < ks.length := by omega
            have hI5 := Lib.hid (hM.write p hp v W (fun h => absurd h (by rintro (h | h); omega; rw [hke] at h; cases h)) (fun _ => rfl))
            have HS := Lib.hid h5
            clear h4 hM h5
            generalize s4.write p [v] = s5 at hI5 HS
            go_wp2_with fail
            go_roundw
            case rel => exact ⟨k + 1, s5, _, by omega, by go_num, HS.out, hI5.out⟩
            case measure => simp [intOf]; omega
          · go_wp2_with fail
            have hsn := hI.sync
            refine (sq_sync r s q W w _ hs hso hss).mono ?_
            rw [hsn.1]
            rintro e w4 ⟨rfl, h4⟩
            have hM := hsn.2
            clear hsn hI hs
            have hso4 : s.sync.ops ≤ 4611686018427387904 := by have := hM.ops; omega
            have hss4 : s.sync.stop ≤ 9223372036854775807 := by rw [hM.stop]; decide
            have hsi4 : s.sync.since.length ≤ 1073741824 := by have := hM.since; omega
            clear hso hss hsi
            generalize s.sync = s4 at h4 hM hso4 hss4 hsi4
            have hct := (h4.1.cell (p := ⟨tb, tf + k, none⟩) htb).trans htk
            obtain ⟨v, hv⟩ : ∃ v, v = byteOf ((k : Int) + 1) := ⟨_, rfl⟩
            have hvz : Value.int .u8 ((k : Int) + 1) = vb v := by rw [hv, vb_byteOf]; congr 1; omega
            have HZ := Lib.hid hvz
            clear hv hvz
            go_wp2_with fail
            refine (HP.out _).mono ?_
            rintro e w8 ⟨rfl, hw8⟩
            replace hw8 := hw8.symm
            subst hw8
            go_wp2_with fail
            refine (sq_write r s4 p _ [v] q W w _ (h4.alloc _) (Bs.one _ v _ HZ.out) hso4 hss4 hsi4).mono ?_
            rw [show writeErr s4 (p : Int) [v] = 0 from hM.writeErr p hp v]
            rintro e w5 ⟨rfl, h5⟩
            clear hct hso4 hss4 hsi4
            have hct5 := (h5.1.cell (p := ⟨tb, tf + k, none⟩) htb).trans htk
            have hko : ¬ (k : Int) - k < ks.length := by omega
            have hI5 := Lib.hid (hM.write p hp v W (fun h => absurd h (by rintro (h | h); omega; rw [hke] at h; cases h)) (fun _ => rfl))
            have HS := Lib.hid h5
            clear h4 hM h5
            generalize s4.write p [v] = s5 at hI5 HS
            go_wp2_with fail
            go_roundw
            case rel => exact ⟨k + 1, s5, _, by omega, by go_num, HS.out, hI5.out⟩
            case measure => simp [intOf]; omega
      · by_cases hkl : k - sy < ks.length
        · obtain ⟨kb, kf, kc', e, -, -, hkc⟩ := hk.at (by omega)
          simp only [Value.slice.injEq, true_and] at e
          obtain ⟨rfl, rfl⟩ := e
          have hkk := hkc (k - sy) hkl
          have hkb : kb < w.heap.size := World.block_lt_of_cell? _ _ hkk
          clear hkc
          cases hkv : ks[k - sy] with
          | true =>
            have hke : ks.getD (k - sy) false = true := by rw [List.getD_eq_getElem?_getD, List.getElem?_eq_getElem hkl]; exact hkv
            rw [hkv] at hkk
            clear hkv
            by_cases hva : k < vs.length
            · obtain ⟨ab, af, ac', e, -, -, hac⟩ := ha.at (by omega)
              simp only [Value.slice.injEq, true_and] at e
              obtain ⟨rfl, rfl⟩ := e
              have hak := hac k hva
              have hab : ab < w.heap.size := World.block_lt_of_cell? _ _ hak
              clear hac
              have h4 := hs
              have hM := hI.other (by omega)
              clear hI hs
              have hso4 := hso
              have hss4 := hss
              have hsi4 := hsi
              obtain ⟨w4, hw4⟩ : ∃ w4, w4 = wr := ⟨_, rfl⟩
              rw [← hw4] at h4 ⊢
              clear hw4
              obtain ⟨s4, hs4⟩ : ∃ s4, s4 = s := ⟨_, rfl⟩
              rw [← hs4] at h4 hM hso4 hss4 hsi4
              clear hs4 hso hss hsi
              have hct := (h4.1.cell (p := ⟨tb, tf + k, none⟩) htb).trans htk
              have hcv := (h4.1.cell (p := ⟨ab, af + k, none⟩) hab).trans hak
              obtain ⟨v, hv⟩ : ∃ v, v = vs[k] := ⟨_, rfl⟩
              obtain ⟨z, hz⟩ : ∃ z : Int, z = (v.toNat : Int) := ⟨_, rfl⟩
              have hvz : Value.int .u8 z = vb v := by rw [hz]; rfl
              rw [← hv, ← hvz] at hcv
              have HZ := Lib.hid hvz
              clear hv hz hvz
              go_wp2_with fail
              refine (HP.out _).mono ?_
              rintro e w8 ⟨rfl, hw8⟩
              replace hw8 := hw8.symm
              subst hw8
              go_wp2_with fail
              refine (sq_write r s4 p _ [v] q W w _ (h4.alloc _) (Bs.one _ v _ HZ.out) hso4 hss4 hsi4).mono ?_
              rw [show writeErr s4 (p : Int) [v] = 0 from hM.writeErr p hp v]
              rintro e w5 ⟨rfl, h5⟩
              clear hct hso4 hss4 hsi4
              clear hcv
              have hct5 := (h5.1.cell (p := ⟨tb, tf + k, none⟩) htb).trans htk
              have hck5 := (h5.1.cell (p := ⟨kb, kf + (k - sy), none⟩) hkb).trans hkk
              have hI5 := Lib.hid (hM.write p hp v (W.set p v) (fun _ => rfl) (fun h => absurd (.inr hke) h))
              have hcq : w5.cell? ⟨q, p, none⟩ = some (vb (W[p]'(by rw [hM.wlen]; exact hp))) := by rw [h5.2.2.1.cell]; simp [vbs, hM.wlen, hp]
              obtain ⟨old, hold⟩ : ∃ old, old = vb (W[p]'(by rw [hM.wlen]; exact hp)) := ⟨_, rfl⟩
              rw [← hold] at hcq
              have hfq : w5.frozen? ⟨q, p, none⟩ = false := h5.2.2.1.frozen p
              have hS := h5.set p v
              rw [← HZ.out] at hS
              have HS := Lib.hid hS
              clear hS hold h4 hM h5
              generalize s4.write p [v] = s5 at hI5 HS
              go_wp2_with fail
              refine (HP.out _).mono ?_
              rintro e w8 ⟨rfl, hw8⟩
              replace hw8 := hw8.symm
              subst hw8
              go_wp2_with fail
              go_roundw
              case rel => exact ⟨k + 1, s5, _, by omega, by go_num, HS.out, hI5.out⟩
              case measure => simp [intOf]; omega
            · have h4 := hs
              have hM := hI.other (by omega)
              clear hI hs
              have hso4 := hso
              have hss4 := hss
              have hsi4 := hsi
              obtain ⟨w4, hw4⟩ : ∃ w4, w4 = wr := ⟨_, rfl⟩
              rw [← hw4] at h4 ⊢
              clear hw4
              obtain ⟨s4, hs4⟩ : ∃ s4, s4 = s := ⟨_, rfl⟩
              rw [← hs4] at h4 hM hso4 hss4 hsi4
              clear hs4 hso hss hsi
              have hct := (h4.1.cell (p := ⟨tb, tf + k, none⟩) htb).trans htk
              obtain ⟨v, hv⟩ : ∃ v, v = byteOf ((k : Int) + 1) := ⟨_, rfl⟩
              have hvz : Value.int .u8 ((k : Int) + 1) = vb v := by rw [hv, vb_byteOf]; congr 1; omega
              have HZ := Lib.hid hvz
              clear hv hvz
              go_wp2_with fail
              refine (HP.out _).mono ?_
              rintro e w8 ⟨rfl, hw8⟩
              replace hw8 := hw8.symm
              subst hw8
              go_wp2_with fail
              refine (sq_write r s4 p _ [v] q W w _ (h4.alloc _) (Bs.one _ v _ HZ.out) hso4 hss4 hsi4).mono ?_
              rw [show writeErr s4 (p : Int) [v] = 0 from hM.writeErr p hp v]
              rintro e w5 ⟨rfl, h5⟩
              clear hct hso4 hss4 hsi4
              have hct5 := (h5.1.cell (p := ⟨tb, tf + k, none⟩) htb).trans htk
              have hck5 := (h5.1.cell (p := ⟨kb, kf + (k - sy), none⟩) hkb).trans hkk
              have hI5 := Lib.hid (hM.write p hp v (W.set p v) (fun _ => rfl) (fun h => absurd (.inr hke) h))
              have hcq : w5.cell? ⟨q, p, none⟩ = some (vb (W[p]'(by rw [hM.wlen]; exact hp))) := by rw [h5.2.2.1.cell]; simp [vbs, hM.wlen, hp]
              obtain ⟨old, hold⟩ : ∃ old, old = vb (W[p]'(by rw [hM.wlen]; exact hp)) := ⟨_, rfl⟩
              rw [← hold] at hcq
              have hfq : w5.frozen? ⟨q, p, none⟩ = false := h5.2.2.1.frozen p
              have hS := h5.set p v
              rw [← HZ.out] at hS
              have HS := Lib.hid hS
              clear hS hold h4 hM h5
              generalize s4.write p [v] = s5 at hI5 HS
              go_wp2_with fail
              refine (HP.out _).mono ?_
              rintro e w8 ⟨rfl, hw8⟩
              replace hw8 := hw8.symm
              subst hw8
              go_wp2_with fail
              go_roundw
              case rel => exact ⟨k + 1, s5, _, by omega, by go_num, HS.out, hI5.out⟩
              case measure => simp [intOf]; omega
          | false =>
            have hke : ks.getD (k - sy) false = false := by rw [List.getD_eq_getElem?_getD, List.getElem?_eq_getElem hkl]; exact hkv
            rw [hkv] at hkk
            clear hkv
            by_cases hva : k < vs.length
            · obtain ⟨ab, af, ac', e, -, -, hac⟩ := ha.at (by omega)
              simp only [Value.slice.injEq, true_and] at e
              obtain ⟨rfl, rfl⟩ := e
              have hak := hac k hva
              have hab : ab < w.heap.size := World.block_lt_of_cell? _ _ hak
              clear hac
              have h4 := hs
              have hM := hI.other (by omega)
              clear hI hs
              have hso4 := hso
              have hss4 := hss
              have hsi4 := hsi
              obtain ⟨w4, hw4⟩ : ∃ w4, w4 = wr := ⟨_, rfl⟩
              rw [← hw4] at h4 ⊢
              clear hw4
              obtain ⟨s4, hs4⟩ : ∃ s4, s4 = s := ⟨_, rfl⟩
              rw [← hs4] at h4 hM hso4 hss4 hsi4
              clear hs4 hso hss hsi
              have hct := (h4.1.cell (p := ⟨tb, tf + k, none⟩) htb).trans htk
              have hcv := (h4.1.cell (p := ⟨ab, af + k, none⟩) hab).trans hak
              obtain ⟨v, hv⟩ : ∃ v, v = vs[k] := ⟨_, rfl⟩
              obtain ⟨z, hz⟩ : ∃ z : Int, z = (v.toNat : Int) := ⟨_, rfl⟩
              have hvz : Value.int .u8 z = vb v := by rw [hz]; rfl
              rw [← hv, ← hvz] at hcv
              have HZ := Lib.hid hvz
              clear hv hz hvz
              go_wp2_with fail
              refine (HP.out _).mono ?_
              rintro e w8 ⟨rfl, hw8⟩
              replace hw8 := hw8.symm
              subst hw8
              go_wp2_with fail
              refine (sq_write r s4 p _ [v] q W w _ (h4.alloc _) (Bs.one _ v _ HZ.out) hso4 hss4 hsi4).mono ?_
              rw [show writeErr s4 (p : Int) [v] = 0 from hM.writeErr p hp v]
              rintro e w5 ⟨rfl, h5⟩
              clear hct hso4 hss4 hsi4
              clear hcv
              have hct5 := (h5.1.cell (p := ⟨tb, tf + k, none⟩) htb).trans htk
              have hck5 := (h5.1.cell (p := ⟨kb, kf + (k - sy), none⟩) hkb).trans hkk
              have hI5 := Lib.hid (hM.write p hp v W (fun h => absurd h (by rintro (h | h); omega; rw [hke] at h; cases h)) (fun _ => rfl))
              have HS := Lib.hid h5
              clear h4 hM h5
              generalize s4.write p [v] = s5 at hI5 HS
              go_wp2_with fail
              go_roundw
              case rel => exact ⟨k + 1, s5, _, by omega, by go_num, HS.out, hI5.out⟩
              case measure => simp [intOf]; omega
            · have h4 := hs
              have hM := hI.other (by omega)
              clear hI hs
              have hso4 := hso
              have hss4 := hss
              have hsi4 := hsi
              obtain ⟨w4, hw4⟩ : ∃ w4, w4 = wr := ⟨_, rfl⟩
              rw [← hw4] at h4 ⊢
              clear hw4
              obtain ⟨s4, hs4⟩ : ∃ s4, s4 = s := ⟨_, rfl⟩
              rw [← hs4] at h4 hM hso4 hss4 hsi4
              clear hs4 hso hss hsi
              have hct := (h4.1.cell (p := ⟨tb, tf + k, none⟩) htb).trans htk
              obtain ⟨v, hv⟩ : ∃ v, v = byteOf ((k : Int) + 1) := ⟨_, rfl⟩
              have hvz : Value.int .u8 ((k : Int) + 1) = vb v := by rw [hv, vb_byteOf]; congr 1; omega
              have HZ := Lib.hid hvz
              clear hv hvz
              go_wp2_with fail
              refine (HP.out _).mono ?_
              rintro e w8 ⟨rfl, hw8⟩
              replace hw8 := hw8.symm
              subst hw8
              go_wp2_with fail
              refine (sq_write r s4 p _ [v] q W w _ (h4.alloc _) (Bs.one _ v _ HZ.out) hso4 hss4 hsi4).mono ?_
              rw [show writeErr s4 (p : Int) [v] = 0 from hM.writeErr p hp v]
              rintro e w5 ⟨rfl, h5⟩
              clear hct hso4 hss4 hsi4
              have hct5 := (h5.1.cell (p := ⟨tb, tf + k, none⟩) htb).trans htk
              have hck5 := (h5.1.cell (p := ⟨kb, kf + (k - sy), none⟩) hkb).trans hkk
              have hI5 := Lib.hid (hM.write p hp v W (fun h => absurd h (by rintro (h | h); omega; rw [hke] at h; cases h)) (fun _ => rfl))
              have HS := Lib.hid h5
              clear h4 hM h5
              generalize s4.write p [v] = s5 at hI5 HS
              go_wp2_with fail
              go_roundw
              case rel => exact ⟨k + 1, s5, _, by omega, by go_num, HS.out, hI5.out⟩
              case measure => simp [intOf]; omega
        · have hke : ks.getD (k - sy) false = false := by rw [List.getD_eq_getElem?_getD, List.getElem?_eq_none (by omega)]; rfl
          by_cases hva : k < vs.length
          · obtain ⟨ab, af, ac', e, -, -, hac⟩ := ha.at (by omega)
            simp only [Value.slice.injEq, true_and] at e
            obtain ⟨rfl, rfl⟩ := e
            have hak := hac k hva
            have hab : ab < w.heap.size := World.block_lt_of_cell? _ _ hak
            clear hac
            have h4 := hs
            have hM := hI.other (by omega)
            clear hI hs
            have hso4 := hso
            have hss4 := hss
            have hsi4 := hsi
            obtain ⟨w4, hw4⟩ : ∃ w4, w4 = wr := ⟨_, rfl⟩
            rw [← hw4] at h4 ⊢
            clear hw4
            obtain ⟨s4, hs4⟩ : ∃ s4, s4 = s := ⟨_, rfl⟩
            rw [← hs4] at h4 hM hso4 hss4 hsi4
            clear hs4 hso hss hsi
            have hct := (h4.1.cell (p := ⟨tb, tf + k, none⟩) htb).trans htk
            have hcv := (h4.1.cell (p := ⟨ab, af + k, none⟩) hab).trans hak
            obtain ⟨v, hv⟩ : ∃ v, v = vs[k] := ⟨_, rfl⟩
            obtain ⟨z, hz⟩ : ∃ z : Int, z = (v.toNat : Int) := ⟨_, rfl⟩
            have hvz : Value.int .u8 z = vb v := by rw [hz]; rfl
            rw [← hv, ← hvz] at hcv
            have HZ := Lib.hid hvz
            clear hv hz hvz
            go_wp2_with fail
            refine (HP.out _).mono ?_
            rintro e w8 ⟨rfl, hw8⟩
            replace hw8 := hw8.symm
            subst hw8
            go_wp2_with fail
            refine (sq_write r s4 p _ [v] q W w _ (h4.alloc _) (Bs.one _ v _ HZ.out) hso4 hss4 hsi4).mono ?_
            rw [show writeErr s4 (p : Int) [v] = 0 from hM.writeErr p hp v]
            rintro e w5 ⟨rfl, h5⟩
            clear hct hso4 hss4 hsi4
            clear hcv
            have hct5 := (h5.1.cell (p := ⟨tb, tf + k, none⟩) htb).trans htk
            have hko : ¬ (k : Int) - sy < ks.length := by omega
            have hI5 := Lib.hid (hM.write p hp v W (fun h => absurd h (by rintro (h | h); omega; rw [hke] at h; cases h)) (fun _ => rfl))
            have HS := Lib.hid h5
            clear h4 hM h5
            generalize s4.write p [v] = s5 at hI5 HS
            go_wp2_with fail
            go_roundw
            case rel => exact ⟨k + 1, s5, _, by omega, by go_num, HS.out, hI5.out⟩
            case measure => simp [intOf]; omega
          · have h4 := hs
            have hM := hI.other (by omega)
            clear hI hs
            have hso4 := hso
            have hss4 := hss
            have hsi4 := hsi
            obtain ⟨w4, hw4⟩ : ∃ w4, w4 = wr := ⟨_, rfl⟩
            rw [← hw4] at h4 ⊢
            clear hw4
            obtain ⟨s4, hs4⟩ : ∃ s4, s4 = s := ⟨_, rfl⟩
            rw [← hs4] at h4 hM hso4 hss4 hsi4
            clear hs4 hso hss hsi
            have hct := (h4.1.cell (p := ⟨tb, tf + k, none⟩) htb).trans htk
            obtain ⟨v, hv⟩ : ∃ v, v = byteOf ((k : Int) + 1) := ⟨_, rfl⟩
            have hvz : Value.int .u8 ((k : Int) + 1) = vb v := by rw [hv, vb_byteOf]; congr 1; omega
            have HZ := Lib.hid hvz
            clear hv hvz
            go_wp2_with fail
            refine (HP.out _).mono ?_
            rintro e w8 ⟨rfl, hw8⟩
            replace hw8 := hw8.symm
            subst hw8
            go_wp2_with fail
            refine (sq_write r s4 p _ [v] q W w _ (h4.alloc _) (Bs.one _ v _ HZ.out) hso4 hss4 hsi4).mono ?_
            rw [show writeErr s4 (p : Int) [v] = 0 from hM.writeErr p hp v]
            rintro e w5 ⟨rfl, h5⟩
            clear hct hso4 hss4 hsi4
            have hct5 := (h5.1.cell (p := ⟨tb, tf + k, none⟩) htb).trans htk
            have hko : ¬ (k : Int) - sy < ks.length := by omega
            have hI5 := Lib.hid (hM.write p hp v W (fun h => absurd h (by rintro (h | h); omega; rw [hke] at h; cases h)) (fun _ => rfl))
            have HS := Lib.hid h5
            clear h4 hM h5
            generalize s4.write p [v] = s5 at hI5 HS
            go_wp2_with fail
            go_roundw
            case rel => exact ⟨k + 1, s5, _, by omega, by go_num, HS.out, hI5.out⟩
            case measure => simp [intOf]; omega
    · obtain rfl : k = ts.length := by omega
      clear hq0 h1 hb0
      by_cases hse : sy = ts.length
      · rw [hse] at hI ⊢
        have hsn := hI.sync
        go_wp2_with fail
        refine (sq_sync r s q W w _ hs hso hss).mono ?_
        rw [hsn.1]
        rintro e w5 ⟨rfl, h5⟩
        have hF := hsn.2.fin
        have hsi5 : s.sync.since.length ≤ 1073741824 := by have := hsn.2.since; omega
        clear hsn hI hs hso hss hsi
        generalize s.sync = s5 at h5 hF hsi5
        have hkw := hk.moved (Moved.of_below h5.1 (fun _ => False)) (fun _ _ _ h => h)
        have hWl := hF.wlen
        have hRd : ∀ (j : Nat) (hj : j < 4), faultOf (s5.crash ks) j = 0 ∧ readOf (s5.crash ks) j = W[j]'(by rw [hWl]; exact hj) :: zeros 511 := fun j hj => hF.read j hj
        go_wp2_with fail
        refine (sq_crash r s5 _ ks q W w _ h5 hkw hP hsi5).mono ?_
        rintro e w6 ⟨rfl, h6⟩
        clear hkw h5 hF hsi5
        generalize s5.crash ks = s6 at h6 hRd
        go_wp2_with fail
        go_loopw [13] (fun i wr => ∃ j : Nat, j ≤ 4 ∧ i = .int .i64 j ∧ Sq w wr r s6 q W) (fun i _ => 4 - (intOf i).toNat)
        case atStart => exact ⟨0, Nat.zero_le _, rfl, h6⟩
        case round =>
          obtain ⟨j, hj4, rfl, hs⟩ := hrel
          by_cases hj : j < 4
          · obtain ⟨f1, f2⟩ := hRd j hj
            have F1 := Lib.hid f1
            have F2 := Lib.hid f2
            clear f1 f2 hRd h6
            go_wp2_with fail
            refine (sq_read r s6 j q W w _ hs).mono ?_
            rw [F1.out, F2.out]
            rintro e w7 ⟨v, rfl, hv, h7⟩
            obtain ⟨gb, cb, rfl, hb1, hb2, -, -, hbc⟩ := hv.word (by simp [zeros_length])
            have hb2' : cb ≤ 9223372036854775807 := hb2
            obtain ⟨c, hc⟩ : ∃ c : Int, c = ((W[j]'(by rw [hWl]; exact hj)).toNat : Int) := ⟨_, rfl⟩
            have hc0 : w7.cell? ⟨gb, 0, none⟩ = some (.int .u8 c) := by rw [hbc 0 (by simp), hc]; rfl
            have hc511 : w7.cell? ⟨gb, 511, none⟩ = some (.int .u8 0) := by
              rw [hbc 511 (by simp [zeros_length])]
              have : ((W[j]'(by rw [hWl]; exact hj)) :: zeros 511)[511]'(by simp [zeros_length]) = 0 := by simp only [List.getElem_cons_succ, zeros, List.getElem_replicate]
              rw [this]; rfl
            have hcq : w7.cell? ⟨q, j, none⟩ = some (.int .u8 c) := by rw [h7.2.2.1.cell, hc]; simp [vbs, vb, hWl, hj]
            have H7 := Lib.hid h7.drew
            clear hbc hc hv h7 hs F1 F2 hb2 hWl
            go_wp2_with fail
            go_region
            go_wp2
            go_roundw
            case rel => exact ⟨j + 1, by omega, by go_num, H7.out⟩
            case measure => simp [intOf]; omega
          · obtain rfl : j = 4 := by omega
            go_wp2_with fail
            go_ret
            exact ⟨rfl, hs.1⟩
      · have hF := hI.fin (by omega)
        have h5 := hs
        have hsi5 := hsi
        obtain ⟨s5, hs5⟩ : ∃ s5, s5 = s := ⟨_, rfl⟩
        rw [← hs5] at h5 hF hsi5
        have hse' : ((sy : Int) == ts.length) = false := by simpa using (by omega : (sy : Int) ≠ ts.length)
        clear hs5 hs hI hso hss hsi
        have hkw := hk.moved (Moved.of_below h5.1 (fun _ => False)) (fun _ _ _ h => h)
        have hWl := hF.wlen
        have hRd : ∀ (j : Nat) (hj : j < 4), faultOf (s5.crash ks) j = 0 ∧ readOf (s5.crash ks) j = W[j]'(by rw [hWl]; exact hj) :: zeros 511 := fun j hj => hF.read j hj
        go_wp2_with fail
        refine (sq_crash r s5 _ ks q W w _ h5 hkw hP hsi5).mono ?_
        rintro e w6 ⟨rfl, h6⟩
        clear hkw h5 hF hsi5
        generalize s5.crash ks = s6 at h6 hRd
        go_wp2_with fail
        go_loopw [13] (fun i wr => ∃ j : Nat, j ≤ 4 ∧ i = .int .i64 j ∧ Sq w wr r s6 q W) (fun i _ => 4 - (intOf i).toNat)
        case atStart => exact ⟨0, Nat.zero_le _, rfl, h6⟩
        case round =>
          obtain ⟨j, hj4, rfl, hs⟩ := hrel
          by_cases hj : j < 4
          · obtain ⟨f1, f2⟩ := hRd j hj
            have F1 := Lib.hid f1
            have F2 := Lib.hid f2
            clear f1 f2 hRd h6
            go_wp2_with fail
            refine (sq_read r s6 j q W w _ hs).mono ?_
            rw [F1.out, F2.out]
            rintro e w7 ⟨v, rfl, hv, h7⟩
            obtain ⟨gb, cb, rfl, hb1, hb2, -, -, hbc⟩ := hv.word (by simp [zeros_length])
            have hb2' : cb ≤ 9223372036854775807 := hb2
            obtain ⟨c, hc⟩ : ∃ c : Int, c = ((W[j]'(by rw [hWl]; exact hj)).toNat : Int) := ⟨_, rfl⟩
            have hc0 : w7.cell? ⟨gb, 0, none⟩ = some (.int .u8 c) := by rw [hbc 0 (by simp), hc]; rfl
            have hc511 : w7.cell? ⟨gb, 511, none⟩ = some (.int .u8 0) := by
              rw [hbc 511 (by simp [zeros_length])]
              have : ((W[j]'(by rw [hWl]; exact hj)) :: zeros 511)[511]'(by simp [zeros_length]) = 0 := by simp only [List.getElem_cons_succ, zeros, List.getElem_replicate]
              rw [this]; rfl
            have hcq : w7.cell? ⟨q, j, none⟩ = some (.int .u8 c) := by rw [h7.2.2.1.cell, hc]; simp [vbs, vb, hWl, hj]
            have H7 := Lib.hid h7.drew
            clear hbc hc hv h7 hs F1 F2 hb2 hWl
            go_wp2_with fail
            go_region
            go_wp2
            go_roundw
            case rel => exact ⟨j + 1, by omega, by go_num, H7.out⟩
            case measure => simp [intOf]; omega
          · obtain rfl : j = 4 := by omega
            go_wp2_with fail
            go_ret
            exact ⟨rfl, hs.1⟩

theorem stays_all (ao to ko : Option Addr) (ac tc kc : Nat) (vs : List UInt8) (ts : List Int) (ks : List Bool) (x : Int) (w : World) (ha : Bs w (.slice ao vs.length ac) vs) (ht : Nl w (.slice to ts.length tc) ts) (hk : Bl w (.slice ko ks.length kc) ks) :
    Calls Try.prog 4 #[.slice ao vs.length ac, .slice to ts.length tc, .slice ko ks.length kc, .int .i64 x] w fun e w' => e = .returned (.bool true) ∧ Below w.heap.size w w' := by
  have hP : 0 < ks.length → ∀ k, (Value.slice ko ks.length kc).ownBlock = some k → k < w.heap.size := by
    intro h0 k hq
    obtain ⟨b, o, c, e, -, -, hc⟩ := hk.at h0
    rw [e] at hq
    simp [Value.ownBlock] at hq
    subst hq
    exact World.block_lt_of_cell? _ _ (hc 0 h0)
  by_cases h1 : (20 : Int) < ts.length
  · clear ha ht hk hP
    go_enter Try.func4, Try.ntmps4
    go_wp2_with fail
    refine (known_any _).mono ?_
    rintro e w1 ⟨rfl, hb1⟩
    go_wp2_with fail
    go_ret
    exact ⟨rfl, hb1⟩
  by_cases h2 : (20 : Int) < vs.length
  · clear ha ht hk hP
    go_enter Try.func4, Try.ntmps4
    go_wp2_with fail
    refine (known_any _).mono ?_
    rintro e w1 ⟨rfl, hb1⟩
    go_wp2_with fail
    go_ret
    exact ⟨rfl, hb1⟩
  exact stays_walk ao to ko ac tc kc vs ts ks x w ha ht hk hP (by omega) (by omega)
end Go.Proofs.Ytejjeaknpbdeaaa
