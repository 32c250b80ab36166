/- Crash and Stop beside the pager; the walk of the law PagerKept. -/
import Derived.Test.YtbdmlhmmdcdppaaPgTurns
import Derived.Deep.QuietTactic
import Derived.BigQuiet
namespace Go.Proofs.Ytbdmlhmmdcdppaa
open Go.RowKit Go.Maps
set_option maxRecDepth 100000

section
variable {w0 w w' : World} {X : Nat → Prop} {r p N c : Nat} {A : Ab} {S : Stt} {T : Option Tx} {G : Lg} {H : Option Lg}
theorem Lx.disk {B : Ab} {f : FuncId} {args : Array Value} {R : Ending → Prop} (h : Lx w0 w X r p A S T) (hc : ∀ P, (∀ k, P k → w0.heap.size ≤ k ∧ k < w.heap.size ∧ ¬ X k) → DkA w P r A → Calls Try.prog f args w fun e w' => R e ∧ DkA w' P r B ∧ Moved P w w') :
    Calls Try.prog f args w fun e w' => R e ∧ Lx w0 w' X r p B S T ∧ Mx w0 X w w' := by
  obtain ⟨h1, h2, P, Q, h3, h4, h5, h6⟩ := h
  refine (hc P h5 h3).mono ?_
  rintro e w' ⟨hR, g1, g2⟩
  have hs := g2.size
  have hm : Mx w0 X w w' := g2.mono (fun k hk => ⟨(h5 k hk).1, (h5 k hk).2.2⟩)
  exact ⟨hR, ⟨h1.trans (hm.below (fun k hk => hk.1) h1.size), fun k hk => Nat.lt_of_lt_of_le (h2 k hk) hs, P, Q, g1, h4.moved g2 (fun k hk => (h6 k hk).2.2.2), fun k hk => ⟨(h5 k hk).1, Nat.lt_of_lt_of_le (h5 k hk).2.1 hs, (h5 k hk).2.2⟩, fun k hk => ⟨(h6 k hk).1, Nat.lt_of_lt_of_le (h6 k hk).2.1 hs, (h6 k hk).2.2⟩⟩, hm⟩
theorem lx_stop (n : Int) (h : Lx w0 w X r p A S T) : Calls Try.prog 23 #[.pointer (some ⟨r, 0, none⟩), .int .i64 n] w fun e w' => e = .returned (.tuple #[]) ∧ Lx w0 w' X r p (A.stopAt n) S T ∧ Mx w0 X w w' := by
  refine h.disk (R := fun e => e = .returned (.tuple #[])) (fun P hP hd => ?_)
  obtain ⟨s, g1, g2, rfl⟩ := hd
  refine (stop_any P r s n w g1).mono ?_
  rintro e w' ⟨rfl, hd, hm⟩
  exact ⟨rfl, ⟨_, hd, g2, rfl⟩, hm⟩
theorem lx_crash (v : Value) (keep : List Bool) (h : Lx w0 w X r p A S T) (hv : Bl w v keep) (hP : 0 < keep.length → ∀ k, v.ownBlock = some k → k < w0.heap.size ∨ X k) (hs : A.since.length ≤ 1073741824) :
    Calls Try.prog 24 #[.pointer (some ⟨r, 0, none⟩), v] w fun e w' => e = .returned (.tuple #[]) ∧ Lx w0 w' X r p (A.crash keep) S T ∧ Mx w0 X w w' := by
  refine h.disk (R := fun e => e = .returned (.tuple #[])) (fun P hPP hd => ?_)
  obtain ⟨s, g1, g2, rfl⟩ := hd
  refine (crash_any P r s v keep w g1 hv (fun h0 k hk hp => ?_) (by simpa [abs] using hs)).mono ?_
  · rcases hP h0 k hk with e | e
    · have := (hPP k hp).1; omega
    · exact (hPP k hp).2.2 e
  · rintro e w' ⟨rfl, hd, hm⟩
    exact ⟨rfl, ⟨_, hd, rfl, abs_crash s keep⟩, hm⟩
theorem ps_crash (v : Value) (keep : List Bool) (h : Ps w0 w X r p N c G H) (hv : Bl w v keep) (hP : 0 < keep.length → ∀ k, v.ownBlock = some k → k < w0.heap.size ∨ X k) :
    Calls Try.prog 24 #[.pointer (some ⟨r, 0, none⟩), v] w fun e w' => e = .returned (.tuple #[]) ∧ Ps w0 w' X r p N c G H ∧ Mx w0 X w w' := by
  obtain ⟨A, K, T, h, k1, k2, k3, k4, k5⟩ := h
  refine (lx_crash v keep h hv hP (by rw [k1.since]; exact Nat.zero_le _)).mono ?_
  rintro e w' ⟨rfl, g1, g2⟩
  exact ⟨rfl, ⟨_, K, T, g1, (k1.crash keep).1, k2, (k1.crash keep).2, k4, k5⟩, g2⟩
end

def keptPage (bs : List (List UInt8)) (k : Nat) (H : Lg) : Prop := H.free = List.range' (k + 1) (18 - k) ∧ ∀ i (hi : i < bs.length), i < k → H.page (i + 1) = page bs[i] ∧ bs[i].length ≤ 504

theorem Bl.three (w : World) (a b c : Bool) (t : TypeId) : Bl (w.alloc (.cells #[.bool a, .bool b, .bool c] t)) (.slice (some ⟨w.heap.size, 0, none⟩) 3 3) [a, b, c] := by
  refine ⟨_, 3, rfl, by simp, by simp [maxLen], (fun e => by cases e), fun ad had j u hu => ?_⟩
  cases had
  rw [Addr.add_lit, Nat.zero_add, (Blk.new w _ _).cell]
  simpa using hu

set_option maxHeartbeats 4000000 in
theorem kept_walk (v : Value) (bs : List (List UInt8)) (root : Int) (w : World) (hv : Bss w v bs) :
    Calls Try.prog 9 #[v, .int .i64 root] w fun e w' => e = .returned (.bool true) ∧ Below w.heap.size w w' := by
  obtain ⟨ao, cap, rfl, hc1, hc2, -⟩ := id hv
  have hc2' : cap ≤ 9223372036854775807 := hc2
  obtain ⟨n, hn⟩ : ∃ n, n = bs.length := ⟨_, rfl⟩
  have HN := Lib.hid hn
  have HV := Lib.hid hv
  rw [← hn] at hc1 HV ⊢
  clear hn hv hc2
  by_cases hn15 : (15 : Int) < n
  · go_enter Try.func9, Try.ntmps9
    go_wp2_with fail
    refine (known4_any w).mono ?_
    rintro e w0 ⟨rfl, h0⟩
    have H0 := Lib.hid h0
    clear h0
    go_wp2_with fail
    go_ret
    exact ⟨rfl, H0.out⟩
  have hr := within_range root 1000 (by decide)
  have hwt := within4_any root 1000 (by decide) (by decide)
  obtain ⟨rt, hrt⟩ : ∃ y, y = withinOf root 1000 := ⟨_, rfl⟩
  rw [← hrt] at hr hwt
  have HW := Lib.hid hwt
  clear hwt hrt
  go_enter Try.func9, Try.ntmps9
  go_wp2_with fail
  refine (known4_any w).mono ?_
  rintro e w0 ⟨rfl, h0⟩
  have H0 := Lib.hid h0
  clear h0
  go_wp2_with fail
  refine (nd_new (w0 := w) (X := NoX) 420 420 rfl (by omega) (by omega) H0.out (nox_lt _)).mono ?_
  rintro e w1 ⟨r, rfl, h1, -⟩
  have H1 := Lib.hid h1
  clear h1
  go_wp2_with fail
  refine (nd_open (N := 19) H1.out (by omega) (by omega)).mono ?_
  rintro e w2 ⟨p, rfl, h2, -⟩
  have H2 := Lib.hid h2
  clear h2
  go_wp2_with fail
  refine (ps_begin H2.out).mono ?_
  rintro e w3 ⟨rfl, h3, -⟩
  have H3 := Lib.hid h3
  clear h3
  go_wp2_with fail
  go_loopw [8, 9, 10] (fun i _ _ wr => ∃ k : Nat, k ≤ n ∧ i = .int .i64 k ∧ ∃ H : Lg, keptPage bs k H ∧ Ps w wr NoX r p 19 (2 * k) G0 (some H)) (fun i _ _ _ => n - (intOf i).toNat)
  case atStart => exact ⟨0, Nat.zero_le _, rfl, _, ⟨rfl, fun i _ h => by omega⟩, H3.out⟩
  case round =>
    obtain ⟨k, hk, rfl, H, hf, hps⟩ := hrel
    have HF := Lib.hid hf
    have HP := Lib.hid hps
    clear hf hps
    by_cases hlt : k < n
    · have hkb : k < bs.length := by rw [← HN.out]; exact hlt
      have hnew : lgNew (some H) = ((k : Int) + 1, 0, some { H with free := List.range' (k + 1 + 1) (18 - (k + 1)), page := upd H.page (k + 1) (zeros 504) }) := by
        have hh := HF.out.1
        rw [show 18 - k = (18 - (k + 1)) + 1 by omega, List.range'_succ] at hh
        unfold lgNew
        simp only [hh]
        rfl
      have hc := ps_new HP.out (by omega)
      rw [hnew] at hc
      have HC := Lib.hid hc
      clear hc hnew
      go_wp2_with fail
      refine HC.out.mono ?_
      rintro e w4 ⟨rfl, h4, -⟩
      have H4 := Lib.hid h4
      obtain ⟨ao', cap', hsl, -, -, hE⟩ := HV.out.below h4.below
      rw [← HN.out] at hsl
      simp only [Value.slice.injEq, true_and] at hsl
      obtain ⟨rfl, rfl⟩ := hsl
      obtain ⟨b, off, rfl, u, cu, hu⟩ := hE k hkb
      obtain ⟨bo, bc, rfl, hb1, hb2, -⟩ := id hu
      have hb2' : bc ≤ 9223372036854775807 := hb2
      obtain ⟨q, hq⟩ : ∃ q, q = bs[k].length := ⟨_, rfl⟩
      have HU := Lib.hid hu
      have HQ := Lib.hid hq
      rw [← hq] at cu hb1 HU
      clear h4 hE hu hq hb2 HC
      by_cases h504 : (504 : Int) < q
      · go_wp2_with fail
        go_ret
        exact ⟨rfl, H4.out.below⟩
      have hput := ps_put ((k : Int) + 1) (WalkArith.wf_i64 (by omega)) _ _ HU.out H4.out (by omega)
      have hus : lgUsed 19 { H with free := List.range' (k + 1 + 1) (18 - (k + 1)), page := upd H.page (k + 1) (zeros 504) } ((k : Int) + 1) := by
        refine ⟨by omega, by omega, fun hm => ?_⟩
        have := List.mem_range'_1.1 hm
        omega
      rw [lgPut_some, if_pos hus, if_neg (by rw [← HQ.out]; omega)] at hput
      have HPUT := Lib.hid hput
      clear hput hus
      go_wp2_with fail
      refine HPUT.out.mono ?_
      rintro e w5 ⟨rfl, h5, -⟩
      have H5 := Lib.hid h5
      clear h5 HPUT
      go_wp2_with fail
      go_roundw
      case rel =>
        refine ⟨k + 1, by omega, by go_num, _, ⟨rfl, fun i hi hik => ?_⟩, H5.out⟩
        show upd (upd H.page (k + 1) (zeros 504)) ((k : Int) + 1).toNat (page bs[k]) (i + 1) = page bs[i] ∧ _
        have e1 : ((k : Int) + 1).toNat = k + 1 := by omega
        rw [e1]
        unfold upd
        by_cases e : i = k
        · subst e
          rw [if_pos rfl]
          exact ⟨rfl, by rw [← HQ.out]; omega⟩
        · rw [if_neg (by omega), if_neg (by omega)]
          exact HF.out.2 i hi (by omega)
      case measure => simp [intOf]; omega
    · obtain rfl : k = n := by omega
      go_wp2_with fail
      refine (HW.out wr).mono ?_
      rintro e w4 ⟨rfl, he⟩
      replace he := he.symm
      subst he
      go_wp2_with fail
      refine (ps_setroot rt (WalkArith.wf_i64 (by omega)) HP.out).mono ?_
      rintro e w5 ⟨rfl, h5, -⟩
      rw [if_pos hr.1] at h5
      have hrt0 : lgRoot (some H) rt = 0 := by unfold lgRoot; rw [if_pos hr.1]; rfl
      rw [hrt0]
      have H5 := Lib.hid (show Ps w w5 NoX r p 19 (2 * k) G0 (some { H with root := rt }) from h5)
      have hcm := ps_commit H5.out (by omega)
      rw [show lgCommit G0 (some { H with root := rt }) = (0, { H with root := rt }) from rfl] at hcm
      have HCM := Lib.hid hcm
      clear h5 hrt0 hcm
      go_wp2_with fail
      refine HCM.out.mono ?_
      rintro e w6 ⟨rfl, h6, -⟩
      have hal : Below w6.heap.size w6 (w6.alloc (.cells #[.bool true, .bool false, .bool true] 4)) := (Below.refl _ w6).alloc (Nat.le_refl _) _
      have H6 := Lib.hid (h6.take hal)
      have hbl := Bl.three w6 true false true 4
      have HBL := Lib.hid hbl
      have hsz : (w6.alloc (.cells #[.bool true, .bool false, .bool true] 4)).heap.size = w6.heap.size + 1 := by simp
      have HSZ := Lib.hid hsz
      clear h6 hal hbl hsz HCM
      go_wp2_with fail
      refine (ps_crash _ [true, false, true] H6.out HBL.out (fun _ q hq => .inr (.inr ?_))).mono ?_
      · have : w6.heap.size = q := Option.some.inj hq
        have := HSZ.out
        omega
      rintro e w7 ⟨rfl, h7, -⟩
      have H7 := Lib.hid h7
      obtain ⟨X7, hX7⟩ : ∃ X7 : Nat → Prop, X7 = (fun q => NoX q ∨ (w6.heap.size ≤ q ∧ q < (w6.alloc (.cells #[.bool true, .bool false, .bool true] 4)).heap.size)) := ⟨_, rfl⟩
      rw [← hX7] at H7
      clear h7 hX7
      go_wp2_with fail
      refine (ps_open H7.out (by omega) (by omega)).mono ?_
      rintro e w8 ⟨p8, rfl, h8, -⟩
      have H8 := Lib.hid h8
      have hro := ps_root H8.out
      rw [show ((none : Option Lg).getD { H with root := rt }).root = rt from rfl] at hro
      have hfr := ps_free H8.out
      have hfl : ((((none : Option Lg).getD { H with root := rt }).free.length : Nat) : Int) = 18 - (k : Int) := by
        show ((H.free.length : Nat) : Int) = _
        rw [HF.out.1]; simp; omega
      rw [hfl] at hfr
      have HRO := Lib.hid hro
      have HFR := Lib.hid hfr
      clear h8 hro hfr hfl
      go_wp2_with fail
      refine HRO.out.mono ?_
      rintro e w9 ⟨rfl, he⟩
      replace he := he.symm
      subst he
      clear HRO
      go_wp2_with fail
      refine HFR.out.mono ?_
      rintro e w9 ⟨rfl, he⟩
      replace he := he.symm
      subst he
      clear HFR
      go_wp2_with fail
      go_loopw [13, 14, 15] (fun i _ _ wr => ∃ j : Nat, j ≤ k ∧ i = .int .i64 j ∧ Ps w wr X7 r p8 19 (2 * k + 1) { H with root := rt } none) (fun i _ _ _ => k - (intOf i).toNat)
      case atStart => exact ⟨0, Nat.zero_le _, rfl, H8.out⟩
      case round =>
        obtain ⟨j, hj, rfl, hps⟩ := hrel
        have HP9 := Lib.hid hps
        clear hps
        by_cases hlt : j < k
        · have hus : lgUsed 19 ((none : Option Lg).getD { H with root := rt }) ((1 : Int) + j) := by
            refine ⟨by omega, by omega, fun hm => ?_⟩
            rw [show ((none : Option Lg).getD { H with root := rt }).free = H.free from rfl, HF.out.1] at hm
            have := List.mem_range'_1.1 hm
            omega
          have hjb : j < bs.length := by rw [← HN.out]; exact hlt
          have hfj := HF.out.2 j hjb hlt
          have hg := ps_get ((1 : Int) + j) HP9.out
          rw [if_pos hus, if_pos hus, show ((none : Option Lg).getD { H with root := rt }).page = H.page from rfl, show ((1 : Int) + j).toNat = j + 1 by omega, hfj.1] at hg
          have HG := Lib.hid hg
          have hj2 : (1 : Int) + j ≤ 18 := by omega
          clear hg hus
          go_wp2_with fail
          refine HG.out.mono ?_
          rintro e w10 ⟨vv, rfl, hbv, -, hb10⟩
          have hpl : (page bs[j]).length = 504 := page_length _ hfj.2
          obtain ⟨ao2, cap2, rfl, d1, d2, -⟩ := id hbv
          have d2' : cap2 ≤ 9223372036854775807 := d2
          have ht := hbv.takes bs[j].length (by omega)
          rw [show (page bs[j]).take bs[j].length = bs[j] by unfold page; simp] at ht
          have HPS := Lib.hid (HP9.out.grow hb10)
          obtain ⟨ao', cap', hsl, -, -, hE⟩ := HV.out.below HPS.out.below
          rw [← HN.out] at hsl
          simp only [Value.slice.injEq, true_and] at hsl
          obtain ⟨rfl, rfl⟩ := hsl
          obtain ⟨b, off, rfl, u, cu, hu⟩ := hE j hjb
          obtain ⟨bo, bc, rfl, hb1, hb2, -⟩ := id hu
          have hb2' : bc ≤ 9223372036854775807 := hb2
          obtain ⟨Y, hY⟩ : ∃ Y : ByteArray, Y = ⟨bs[j].toArray⟩ := ⟨_, rfl⟩
          have f1 : ∀ m, (convert 34 9 (.slice ao2 bs[j].length cap2)).run Try.prog (w10.drewN m) = .ok (.string Y) (w10.drewN m) := by
            intro m; rw [hY]; exact run_conv_bytes (ht.below (grownBy_below (grownBy_drewN _ _ _)))
          have f2 : ∀ m, (convert 34 9 (.slice bo bs[j].length bc)).run Try.prog (w10.drewN m) = .ok (.string Y) (w10.drewN m) := by
            intro m; rw [hY]; exact run_conv_bytes (hu.below (grownBy_below (grownBy_drewN _ _ _)))
          obtain ⟨q, hq⟩ : ∃ q, q = bs[j].length := ⟨_, rfl⟩
          rw [hpl] at d1 ⊢
          have hq5 := hfj.2
          rw [← hq] at cu hb1 f1 f2 hq5
          have hq6 : (q : Int) ≤ 504 := by omega
          have hlt' : (j : Int) < k := by omega
          clear hE hu hq hb2 d2 ht hbv hY hfj hb10 HG hpl
          go_wp2_with fail
          go_quiet (fail)
          go_wp2
          go_roundw
          case rel => exact ⟨j + 1, by omega, by go_num, HPS.out.grow (grownBy_below (grownBy_drewN _ _ _))⟩
          case measure => simp [intOf]; omega
        · go_wp2_with fail
          go_ret
          exact ⟨rfl, HP9.out.below⟩
end Go.Proofs.Ytbdmlhmmdcdppaa
