/- The walk of the law PagerFull: the pages run out, and one given back comes again. -/
import Derived.Test.YtbdmlhmmdcdppaaPgKept
import Derived.IntWalk
namespace Go.Proofs.Ytbdmlhmmdcdppaa
open Go.RowKit Go.Maps
set_option maxRecDepth 100000

theorem Bs.kept {w0 w w' : World} {X : Nat → Prop} {v : Value} {l : List UInt8} (h : Bs w v l) (hm : Mx w0 X w w') (hX : ∀ k, v.ownBlock = some k → X k) : Bs w' v l := h.moved hm (fun k hk hp => hp.2 (hX k hk))
def fullFree (m k : Nat) (H : Lg) : Prop := H.free = List.range' (k + 1) (m + 1 - k)

set_option maxHeartbeats 4000000 in
theorem full_walk (size again : Int) (w : World) :
    Calls Try.prog 8 #[.int .i64 size, .int .i64 again] w fun e w' => e = .returned (.bool true) ∧ Below w.heap.size w w' := by
  have hr := within_range size 15 (by decide)
  have hwt := within4_any size 15 (by decide) (by decide)
  obtain ⟨m, hm⟩ : ∃ m : Nat, withinOf size 15 = m := ⟨(withinOf size 15).toNat, by omega⟩
  rw [hm] at hr hwt
  have hm15 : m < 15 := by omega
  have hr2 := within_range again (403 + (m : Int) - 402) (by omega)
  have hwt2 := within4_any again (403 + (m : Int) - 402) (by omega) (by omega)
  obtain ⟨s, hs⟩ : ∃ s : Nat, withinOf again (403 + (m : Int) - 402) = s := ⟨(withinOf again (403 + (m : Int) - 402)).toNat, by omega⟩
  rw [hs] at hr2 hwt2
  have hsm : s ≤ m := by omega
  have HW := Lib.hid hwt
  have HW2 := Lib.hid hwt2
  clear hwt hwt2 hr hr2 hm hs
  have hmk := run_make_bytes 504 504 rfl (by omega)
  obtain ⟨o, ho⟩ : ∃ o : Obj, o = .cells (vbs (zeros 504)).toArray 5 := ⟨_, rfl⟩
  rw [← ho] at hmk
  have HOB : Hid (∀ w : World, Bs (w.alloc o) (.slice (some ⟨w.heap.size, 0, none⟩) 504 504) (zeros 504)) := Lib.hid (fun w => by
    have := (Blk.own (base := w.heap.size) (Blk.new w (vbs (zeros 504)).toArray 5) (Nat.le_refl _) (by rw [zeros_length]; simp [maxLen])).bs
    rw [zeros_length] at this
    rw [ho]; exact this)
  obtain ⟨Y, hY⟩ : ∃ Y : ByteArray, Y = ⟨(zeros 504).toArray⟩ := ⟨_, rfl⟩
  have HY := Lib.hid hY
  clear ho hY
  go_enter Try.func8, Try.ntmps8
  go_wp2_with fail
  refine (known4_any w).mono ?_
  rintro e w0 ⟨rfl, h0⟩
  have H0 := Lib.hid h0
  clear h0
  go_wp2_with fail
  refine (HW.out w0).mono ?_
  rintro e w4 ⟨rfl, he⟩
  replace he := he.symm
  subst he
  clear HW
  go_wp2_with fail
  refine (nd_new (w0 := w) (X := NoX) (403 + m) (403 + m) (by omega) (by omega) (by omega) H0.out (nox_lt _)).mono ?_
  rintro e w1 ⟨r, rfl, h1, -⟩
  rw [show 403 + m = 401 + (2 + m) by omega] at h1
  have H1 := Lib.hid h1
  clear h1
  go_wp2_with fail
  refine (nd_open (N := 2 + m) H1.out (by omega) (by omega)).mono ?_
  rintro e w2 ⟨p, rfl, h2, -⟩
  have H2 := Lib.hid h2
  clear h2
  go_wp2_with fail
  refine (ps_begin H2.out).mono ?_
  rintro e w3 ⟨rfl, h3, -⟩
  have H3 := Lib.hid h3
  have hfr := ps_free h3
  have hfl : ((((some (Lg.new (2 + m)) : Option Lg).getD (Lg.new (2 + m))).free.length : Nat) : Int) = 403 + (m : Int) - 402 := by
    show ((List.range' 1 (2 + m - 1)).length : Int) = _
    rw [List.length_range']; omega
  rw [hfl] at hfr
  have HFR := Lib.hid hfr
  clear h3 hfr hfl
  go_wp2_with fail
  refine HFR.out.mono ?_
  rintro e w4 ⟨rfl, he⟩
  replace he := he.symm
  subst he
  clear HFR
  go_wp2_with fail
  go_loopw [7, 8, 9, 10, 11] (fun i _ _ _ _ wr => ∃ k : Nat, k ≤ m + 1 ∧ i = .int .i64 ((k : Int) + 1) ∧ ∃ H : Lg, fullFree m k H ∧ Ps w wr NoX r p (2 + m) (2 * k) (Lg.new (2 + m)) (some H)) (fun i _ _ _ _ _ => m + 2 - (intOf i).toNat)
  case atStart => exact ⟨0, Nat.zero_le _, rfl, _, (by show List.range' 1 (2 + m - 1) = List.range' (0 + 1) (m + 1 - 0); congr 1; omega), H3.out⟩
  case round =>
    obtain ⟨k, hk, rfl, H, hf, hps⟩ := hrel
    have HF := Lib.hid hf
    have HP := Lib.hid hps
    clear hf hps
    by_cases hlt : k < m + 1
    · have hnew : lgNew (some H) = ((k : Int) + 1, 0, some { H with free := List.range' (k + 1 + 1) (m + 1 - (k + 1)), page := upd H.page (k + 1) (zeros 504) }) := by
        have hh : H.free = _ := HF.out
        rw [show m + 1 - k = (m + 1 - (k + 1)) + 1 by omega, List.range'_succ] at hh
        unfold lgNew
        simp only [hh]
        rfl
      have hc := ps_new HP.out (by omega)
      rw [hnew] at hc
      obtain ⟨H', hH'⟩ : ∃ H' : Lg, H' = { H with free := List.range' (k + 1 + 1) (m + 1 - (k + 1)), page := upd H.page (k + 1) (zeros 504) } := ⟨_, rfl⟩
      rw [← hH'] at hc
      have hF' : fullFree m (k + 1) H' := by rw [hH']; rfl
      have hpg : H'.page (k + 1) = zeros 504 := by rw [hH']; show upd H.page (k + 1) (zeros 504) (k + 1) = _; unfold upd; rw [if_pos rfl]
      have hus : lgUsed (2 + m) H' ((k : Int) + 1) := by
        refine ⟨by omega, by omega, fun hm => ?_⟩
        rw [show H'.free = _ from hF'] at hm
        have := List.mem_range'_1.1 hm
        omega
      have HC := Lib.hid hc
      have HF2 := Lib.hid hF'
      have HUS := Lib.hid hus
      have HPG := Lib.hid hpg
      have hle : (k : Int) + 1 ≤ 403 + (m : Int) - 402 := by omega
      clear hc hnew hH' hF' hpg hus
      go_wp2_with fail
      refine HC.out.mono ?_
      rintro e w4 ⟨rfl, h4, -⟩
      have H4 := Lib.hid h4
      clear h4 HC
      have hg := ps_get ((k : Int) + 1) H4.out
      rw [show (some H' : Option Lg).getD (Lg.new (2 + m)) = H' from rfl, if_pos HUS.out, if_pos HUS.out, show ((k : Int) + 1).toNat = k + 1 by omega, HPG.out] at hg
      have HG := Lib.hid hg
      clear hg
      go_wp2_with fail
      refine HG.out.mono ?_
      rintro e w5 ⟨bv, rfl, hbv, hown, hb5⟩
      have hlt5 := fun g hg => hbv.own_lt (by rw [zeros_length]; omega) (g := g) hg
      obtain ⟨c, hcv, hcn⟩ : ∃ c : UInt8, c = UInt8.ofNat (k + 1) ∧ (c.toNat : Int) = (k : Int) + 1 := ⟨_, rfl, by simp; omega⟩
      have hwr : IntKind.u8.wrap ((k : Int) + 1) = (k : Int) + 1 := IntWalk.u8_in _ (by omega)
      have ha1 : Below w5.heap.size w5 (w5.alloc o) := (Below.refl w5.heap.size w5).alloc (Nat.le_refl _) _
      have ha2 : Below w5.heap.size w5 ((w5.alloc o).alloc (.cells #[.int .u8 ((k : Int) + 1)] 5)).drew := (ha1.alloc ha1.size _).drew
      have ha3 : Below (w5.alloc o).heap.size (w5.alloc o) ((w5.alloc o).alloc (.cells #[.int .u8 ((k : Int) + 1)] 5)).drew := ((Below.refl _ _).alloc (Nat.le_refl _) _).drew
      have hx2 : Bs ((w5.alloc o).alloc (.cells #[.int .u8 ((k : Int) + 1)] 5)).drew (.slice (some ⟨(w5.alloc o).heap.size, 0, none⟩) 1 1) [c] := (Bs.one (w5.alloc o) c _ (by unfold vb; rw [hcn])).drew
      have hsz5 : (w5.alloc o).heap.size = w5.heap.size + 1 := by simp
      have hsz6 : ((w5.alloc o).alloc (.cells #[.int .u8 ((k : Int) + 1)] 5)).drew.heap.size = w5.heap.size + 2 := by simp [World.drew]
      rw [hsz5] at hx2
      have h6 := H4.out.take (hb5.trans (ha2.mono hb5.size))
      rw [hsz6] at h6
      have hput := ps_put ((k : Int) + 1) (WalkArith.wf_i64 (by omega)) _ _ hx2 h6 (by omega)
      rw [lgPut_some, if_pos HUS.out, if_neg (by simp)] at hput
      obtain ⟨H2, hH2⟩ : ∃ H2 : Lg, H2 = { H' with page := upd H'.page ((k : Int) + 1).toNat (page [c]) } := ⟨_, rfl⟩
      rw [← hH2] at hput
      have hf2 : fullFree m (k + 1) H2 := by rw [hH2]; exact HF2.out
      have HB5 := Lib.hid hbv
      have HS1 : Hid (Bs (w5.alloc o) bv (zeros 504)) := Lib.hid (hbv.below ha1)
      have HS2 : Hid (Bs (w5.alloc o) (.slice (some ⟨w5.heap.size, 0, none⟩) 504 504) (zeros 504)) := Lib.hid (HOB.out w5)
      have HS3 : Hid (Bs ((w5.alloc o).alloc (.cells #[.int .u8 ((k : Int) + 1)] 5)).drew bv (zeros 504)) := Lib.hid (hbv.below ha2)
      have HS4 : Hid (Bs ((w5.alloc o).alloc (.cells #[.int .u8 ((k : Int) + 1)] 5)).drew (.slice (some ⟨w5.heap.size, 0, none⟩) 504 504) (zeros 504)) := Lib.hid (HS2.out.below ha3)
      have HQ1 : Hid (∀ q, bv.ownBlock = some q → NoX q ∨ (w4.heap.size ≤ q ∧ q < w5.heap.size + 2)) := Lib.hid (fun q hq => .inr ⟨hown q hq, by have := hlt5 q hq; omega⟩)
      have HQ2 : Hid (∀ q, (Value.slice (some ⟨w5.heap.size, 0, none⟩) 504 504).ownBlock = some q → NoX q ∨ (w4.heap.size ≤ q ∧ q < w5.heap.size + 2)) := Lib.hid (fun q hq => .inr (by have e : w5.heap.size = q := Option.some.inj hq; have := hb5.size; omega))
      have HPUT := Lib.hid hput
      have HF3 := Lib.hid hf2
      have hfl : ((((some H2 : Option Lg).getD (Lg.new (2 + m))).free.length : Nat) : Int) = 403 + (m : Int) - 402 - ((k : Int) + 1) := by
        show ((H2.free.length : Nat) : Int) = _
        rw [show H2.free = _ from hf2, List.length_range']; omega
      have HFL := Lib.hid hfl
      clear hb5 hcv hcn ha1 ha2 ha3 hx2 hlt5 hown hbv HG hsz5 hsz6 h6 hput hH2 hf2 hfl HOB
      go_wp2_with fail
      have hw1 : IntKind.i64.wrap (403 + (m : Int) - 402) = 403 + (m : Int) - 402 := IntWalk.i64_in _ (by omega)
      have hw2 : IntKind.i64.wrap (403 + (m : Int) - 402 - ((k : Int) + 1)) = 403 + (m : Int) - 402 - ((k : Int) + 1) := IntWalk.i64_in _ (by omega)
      refine wp_region_any (by kernel_rfl) ?_
      change wpAny _ _ _ _ _ _ _ (World.drew _)
      refine wpAny_of_held (S := fun (w' : World) => Bs w' bv (zeros 504)) _ _ _ _ ?_
      have hS : (fun (w' : World) => Bs w' bv (zeros 504)) _ := HB5.out.drew
      try simp only [Act.put, List.setIfInBounds_toArray, List.set_cons_zero, List.set_cons_succ]
      refine wpAnyH_take (i := 0) (oi := ⟨some 61, _, _, _, _, _⟩) (v := ?_) rfl (by kernel_rfl) (by kernel_rfl) (by kernel_rfl) (fun _ _ _ h => h) (Or.inl ⟨by rfl, ?_⟩) hS ?_
      rotate_left
      · intro wz hSw
        clear hSw
        go_simp
        first | done | with_reducible rfl
      try simp only [Act.put, List.setIfInBounds_toArray, List.set_cons_zero, List.set_cons_succ]
      refine wpAnyH_take (i := 1) (oi := ⟨some 62, _, _, _, _, _⟩) (v := ?_) rfl (by kernel_rfl) (by kernel_rfl) (by kernel_rfl) (fun _ _ _ h => h) (Or.inl ⟨by rfl, ?_⟩) hS ?_
      rotate_left
      · intro wz hSw
        clear hSw
        go_simp
        first | done | with_reducible rfl
      try simp only [Act.put, List.setIfInBounds_toArray, List.set_cons_zero, List.set_cons_succ]
      refine wpAnyH_take (i := 2) (oi := ⟨some 63, _, _, _, _, _⟩) (v := ?_) rfl (by kernel_rfl) (by kernel_rfl) (by kernel_rfl) (fun _ _ _ h => h) (Or.inl ⟨by rfl, ?_⟩) hS ?_
      rotate_left
      · intro wz hSw
        clear hSw
        go_simp
        first | done | with_reducible rfl
      try simp only [Act.put, List.setIfInBounds_toArray, List.set_cons_zero, List.set_cons_succ]
      refine wpAnyH_take (i := 3) (oi := ⟨some 64, _, _, _, _, _⟩) (v := ?_) rfl (by kernel_rfl) (by kernel_rfl) (by kernel_rfl) (fun _ _ _ h => h) (Or.inl ⟨by rfl, ?_⟩) hS ?_
      rotate_left
      · intro wz hSw
        clear hSw
        go_simp
        first | done | with_reducible rfl
      try simp only [Act.put, List.setIfInBounds_toArray, List.set_cons_zero, List.set_cons_succ]
      refine wpAnyH_take (i := 4) (oi := ⟨some 65, _, _, _, _, _⟩) (v := ?_) rfl (by kernel_rfl) (by kernel_rfl) (by kernel_rfl) (fun _ _ _ h => h) (Or.inl ⟨by rfl, ?_⟩) hS ?_
      rotate_left
      · intro wz hSw
        clear hSw
        go_simp
        first | done | with_reducible rfl
      try simp only [Act.put, List.setIfInBounds_toArray, List.set_cons_zero, List.set_cons_succ]
      refine wpAnyH_take (i := 5) (oi := ⟨some 66, _, _, _, _, _⟩) (v := ?_) rfl (by kernel_rfl) (by kernel_rfl) (by kernel_rfl) (fun _ _ _ h => h) (Or.inl ⟨by rfl, ?_⟩) hS ?_
      rotate_left
      · intro wz hSw
        clear hSw
        go_simp
        first | done | with_reducible rfl
      try simp only [Act.put, List.setIfInBounds_toArray, List.set_cons_zero, List.set_cons_succ]
      refine wpAnyH_take (i := 6) (oi := ⟨some 67, _, _, _, _, _⟩) (v := ?_) rfl (by kernel_rfl) (by kernel_rfl) (by kernel_rfl) (fun _ _ _ h => h) (Or.inl ⟨by rfl, ?_⟩) hS ?_
      rotate_left
      · intro wz hSw
        clear hSw
        go_simp
        first | done | with_reducible rfl
      try simp only [Act.put, List.setIfInBounds_toArray, List.set_cons_zero, List.set_cons_succ]
      refine wpAnyH_take (i := 7) (oi := ⟨some 68, _, _, _, _, _⟩) (v := ?_) rfl (by kernel_rfl) (by kernel_rfl) (by kernel_rfl) (fun _ _ _ h => h) (Or.inl ⟨by rfl, ?_⟩) hS ?_
      rotate_left
      · intro wz hSw
        clear hSw
        go_simp
        first | done | with_reducible rfl
      try simp only [Act.put, List.setIfInBounds_toArray, List.set_cons_zero, List.set_cons_succ]
      refine wpAnyH_take (i := 8) (oi := ⟨some 69, _, _, _, _, _⟩) (v := ?_) rfl (by kernel_rfl) (by kernel_rfl) (by kernel_rfl) (fun _ _ _ h => h) (Or.inl ⟨by rfl, ?_⟩) hS ?_
      rotate_left
      · intro wz hSw
        clear hSw
        go_simp
        first | done | with_reducible rfl
      try simp only [Act.put, List.setIfInBounds_toArray, List.set_cons_zero, List.set_cons_succ]
      refine wpAnyH_take (i := 9) (oi := ⟨some 70, _, _, _, _, _⟩) (v := ?_) rfl (by kernel_rfl) (by kernel_rfl) (by kernel_rfl) (fun _ _ _ h => h) (Or.inl ⟨by rfl, ?_⟩) hS ?_
      rotate_left
      · intro wz hSw
        clear hSw
        go_simp
        first | done | with_reducible rfl
      try simp only [Act.put, List.setIfInBounds_toArray, List.set_cons_zero, List.set_cons_succ]
      refine wpAnyH_take (i := 10) (oi := ⟨some 71, _, _, _, _, _⟩) (v := ?_) rfl (by kernel_rfl) (by kernel_rfl) (by kernel_rfl) (fun _ _ _ h => h) (Or.inl ⟨by rfl, ?_⟩) hS ?_
      rotate_left
      · intro wz hSw
        clear hSw
        go_simp
        first | done | with_reducible rfl
      try simp only [Act.put, List.setIfInBounds_toArray, List.set_cons_zero, List.set_cons_succ]
      refine wpAnyH_take (i := 11) (oi := ⟨some 72, _, _, _, _, _⟩) (v := ?_) rfl (by kernel_rfl) (by kernel_rfl) (by kernel_rfl) (fun _ _ _ h => h) (Or.inl ⟨by rfl, ?_⟩) hS ?_
      rotate_left
      · intro wz hSw
        clear hSw
        go_simp
        first | done | with_reducible rfl
      try simp only [Act.put, List.setIfInBounds_toArray, List.set_cons_zero, List.set_cons_succ]
      refine wpAnyH_take (i := 12) (oi := ⟨some 73, _, _, _, _, _⟩) (v := ?_) rfl (by kernel_rfl) (by kernel_rfl) (by kernel_rfl) (fun _ _ _ h => h) (Or.inl ⟨by rfl, ?_⟩) hS ?_
      rotate_left
      · intro wz hSw
        clear hSw
        go_simp
        first | done | with_reducible rfl
      try simp only [Act.put, List.setIfInBounds_toArray, List.set_cons_zero, List.set_cons_succ]
      refine wpAnyH_take (i := 13) (oi := ⟨some 74, _, _, _, _, _⟩) (v := ?_) rfl (by kernel_rfl) (by kernel_rfl) (by kernel_rfl) (fun _ _ _ h => h) (Or.inl ⟨by rfl, ?_⟩) hS ?_
      rotate_left
      · intro wz hSw; have hcz := run_conv_bytes hSw; rw [← HY.out] at hcz
        clear hSw
        go_simp
        first | done | with_reducible rfl
      try simp only [Act.put, List.setIfInBounds_toArray, List.set_cons_zero, List.set_cons_succ]
      refine wpAnyH_ready (rs := [14]) (by kernel_rfl) (by simp) ?_
      refine AllReadyH.cons (o := ⟨some 75, _, _, _, _, _⟩) rfl (fun K hK => ?_) AllReadyH.nil
      go_simp
      refine hK.out _ _ (HS1.out) (fun hS => ?_)
      clear hK K
      try simp only [Act.put, List.setIfInBounds_toArray, List.set_cons_zero, List.set_cons_succ]
      have hS' : (fun (w' : World) => Bs w' bv (zeros 504) ∧ Bs w' (.slice (some ⟨w5.heap.size, 0, none⟩) 504 504) (zeros 504)) (_) := ⟨hS, HS2.out⟩
      refine wpAnyH_mono (S' := fun (w' : World) => Bs w' bv (zeros 504) ∧ Bs w' (.slice (some ⟨w5.heap.size, 0, none⟩) 504 504) (zeros 504)) (fun _ h => h.1) _ _ _ _ ?_
      clear hS
      have hS := hS'
      clear hS'
      refine wpAnyH_take (i := 15) (oi := ⟨some 76, _, _, _, _, _⟩) (v := ?_) rfl (by kernel_rfl) (by kernel_rfl) (by kernel_rfl) (fun _ _ _ h => h) (Or.inl ⟨by rfl, ?_⟩) hS ?_
      rotate_left
      · intro wz hSw; have hcz := run_conv_bytes hSw.2; rw [← HY.out] at hcz
        clear hSw
        go_simp
        first | done | with_reducible rfl
      try simp only [Act.put, List.setIfInBounds_toArray, List.set_cons_zero, List.set_cons_succ]
      refine wpAnyH_take (i := 16) (oi := ⟨some 77, _, _, _, _, _⟩) (v := ?_) rfl (by kernel_rfl) (by kernel_rfl) (by kernel_rfl) (fun _ _ _ h => h) (Or.inl ⟨by rfl, ?_⟩) hS ?_
      rotate_left
      · intro wz hSw
        clear hSw
        go_simp
        first | done | with_reducible rfl
      try simp only [Act.put, List.setIfInBounds_toArray, List.set_cons_zero, List.set_cons_succ]
      refine wpAnyH_take (i := 17) (oi := ⟨some 78, _, _, _, _, _⟩) (v := ?_) rfl (by kernel_rfl) (by kernel_rfl) (by kernel_rfl) (fun _ _ _ h => h) (Or.inl ⟨by rfl, ?_⟩) hS ?_
      rotate_left
      · intro wz hSw
        clear hSw
        go_simp
        first | done | with_reducible rfl
      try simp only [Act.put, List.setIfInBounds_toArray, List.set_cons_zero, List.set_cons_succ]
      refine wpAnyH_take (i := 18) (oi := ⟨some 79, _, _, _, _, _⟩) (v := ?_) rfl (by kernel_rfl) (by kernel_rfl) (by kernel_rfl) (fun _ _ _ h => h) (Or.inl ⟨by rfl, ?_⟩) hS ?_
      rotate_left
      · intro wz hSw
        clear hSw
        go_simp
        first | done | with_reducible rfl
      try simp only [Act.put, List.setIfInBounds_toArray, List.set_cons_zero, List.set_cons_succ]
      refine wpAnyH_take (i := 19) (oi := ⟨some 80, _, _, _, _, _⟩) (v := ?_) rfl (by kernel_rfl) (by kernel_rfl) (by kernel_rfl) (fun _ _ _ h => h) (Or.inl ⟨by rfl, ?_⟩) hS ?_
      rotate_left
      · intro wz hSw
        clear hSw
        go_simp
        first | done | with_reducible rfl
      try simp only [Act.put, List.setIfInBounds_toArray, List.set_cons_zero, List.set_cons_succ]
      refine wpAnyH_take (i := 20) (oi := ⟨some 81, _, _, _, _, _⟩) (v := ?_) rfl (by kernel_rfl) (by kernel_rfl) (by kernel_rfl) (fun _ _ _ h => h) (Or.inl ⟨by rfl, ?_⟩) hS ?_
      rotate_left
      · intro wz hSw
        clear hSw
        go_simp
        first | done | with_reducible rfl
      try simp only [Act.put, List.setIfInBounds_toArray, List.set_cons_zero, List.set_cons_succ]
      refine wpAnyH_take (i := 21) (oi := ⟨some 82, _, _, _, _, _⟩) (v := ?_) rfl (by kernel_rfl) (by kernel_rfl) (by kernel_rfl) (fun _ _ _ h => h) (Or.inl ⟨by rfl, ?_⟩) hS ?_
      rotate_left
      · intro wz hSw
        clear hSw
        go_simp
        first | done | with_reducible rfl
      try simp only [Act.put, List.setIfInBounds_toArray, List.set_cons_zero, List.set_cons_succ]
      refine wpAnyH_take (i := 22) (oi := ⟨some 83, _, _, _, _, _⟩) (v := ?_) rfl (by kernel_rfl) (by kernel_rfl) (by kernel_rfl) (fun _ _ _ h => h) (Or.inl ⟨by rfl, ?_⟩) hS ?_
      rotate_left
      · intro wz hSw
        clear hSw
        go_simp
        first | done | with_reducible rfl
      try simp only [Act.put, List.setIfInBounds_toArray, List.set_cons_zero, List.set_cons_succ]
      refine wpAnyH_ready (rs := [23]) (by kernel_rfl) (by simp) ?_
      refine AllReadyH.cons (o := ⟨some 84, _, _, _, _, _⟩) rfl (fun K hK => ?_) AllReadyH.nil
      go_simp
      refine hK.out _ _ (⟨HS3.out, HS4.out⟩) (fun hS => ?_)
      clear hK K
      try simp only [Act.put, List.setIfInBounds_toArray, List.set_cons_zero, List.set_cons_succ]
      refine wpAnyH_ready (rs := [24]) (by kernel_rfl) (by simp) ?_
      refine AllReadyH.cons (o := ⟨some 85, _, _, _, _, _⟩) rfl (fun K hK => ?_) AllReadyH.nil
      go_simp
      refine HPUT.out.mono ?_
      rintro e w9 ⟨rfl, h9, hm9⟩
      have HS5 := Lib.hid (HS3.out.kept hm9 HQ1.out)
      have HS6 := Lib.hid (HS4.out.kept hm9 HQ2.out)
      have hfr := ps_free h9
      rw [HFL.out] at hfr
      have HFR := Lib.hid hfr
      have H9 := Lib.hid (h9.less (X' := NoX) (fun _ h => .inl h))
      clear h9 hm9 hfr
      go_simp
      refine hK.out _ _ (⟨HS5.out, HS6.out⟩) (fun hS => ?_)
      clear hK K
      try simp only [Act.put, List.setIfInBounds_toArray, List.set_cons_zero, List.set_cons_succ]
      refine wpAnyH_take (i := 25) (oi := ⟨some 86, _, _, _, _, _⟩) (v := ?_) rfl (by kernel_rfl) (by kernel_rfl) (by kernel_rfl) (fun _ _ _ h => h) (Or.inl ⟨by rfl, ?_⟩) hS ?_
      rotate_left
      · intro wz hSw
        clear hSw
        go_simp
        first | done | with_reducible rfl
      try simp only [Act.put, List.setIfInBounds_toArray, List.set_cons_zero, List.set_cons_succ]
      refine wpAnyH_take (i := 26) (oi := ⟨some 87, _, _, _, _, _⟩) (v := ?_) rfl (by kernel_rfl) (by kernel_rfl) (by kernel_rfl) (fun _ _ _ h => h) (Or.inl ⟨by rfl, ?_⟩) hS ?_
      rotate_left
      · intro wz hSw
        clear hSw
        go_simp
        first | done | with_reducible rfl
      try simp only [Act.put, List.setIfInBounds_toArray, List.set_cons_zero, List.set_cons_succ]
      refine wpAnyH_take (i := 27) (oi := ⟨some 88, _, _, _, _, _⟩) (v := ?_) rfl (by kernel_rfl) (by kernel_rfl) (by kernel_rfl) (fun _ _ _ h => h) (Or.inl ⟨by rfl, ?_⟩) hS ?_
      rotate_left
      · intro wz hSw
        clear hSw
        go_simp
        first | done | with_reducible rfl
      try simp only [Act.put, List.setIfInBounds_toArray, List.set_cons_zero, List.set_cons_succ]
      refine wpAnyH_take (i := 28) (oi := ⟨some 89, _, _, _, _, _⟩) (v := ?_) rfl (by kernel_rfl) (by kernel_rfl) (by kernel_rfl) (fun _ _ _ h => h) (Or.inl ⟨by rfl, ?_⟩) hS ?_
      rotate_left
      · intro wz hSw
        clear hSw
        go_simp
        first | done | with_reducible rfl
      try simp only [Act.put, List.setIfInBounds_toArray, List.set_cons_zero, List.set_cons_succ]
      refine wpAnyH_take (i := 30) (oi := ⟨some 91, _, _, _, _, _⟩) (v := ?_) rfl (by kernel_rfl) (by kernel_rfl) (by kernel_rfl) (fun _ _ _ h => h) (Or.inl ⟨by rfl, ?_⟩) hS ?_
      rotate_left
      · intro wz hSw
        clear hSw
        go_simp
        first | done | with_reducible rfl
      try simp only [Act.put, List.setIfInBounds_toArray, List.set_cons_zero, List.set_cons_succ]
      refine wpAnyH_take (i := 31) (oi := ⟨some 92, _, _, _, _, _⟩) (v := ?_) rfl (by kernel_rfl) (by kernel_rfl) (by kernel_rfl) (fun _ _ _ h => h) (Or.inl ⟨by rfl, ?_⟩) hS ?_
      rotate_left
      · intro wz hSw
        clear hSw
        go_simp
        first | done | with_reducible rfl
      try simp only [Act.put, List.setIfInBounds_toArray, List.set_cons_zero, List.set_cons_succ]
      refine wpAnyH_take (i := 32) (oi := ⟨some 93, _, _, _, _, _⟩) (v := ?_) rfl (by kernel_rfl) (by kernel_rfl) (by kernel_rfl) (fun _ _ _ h => h) (Or.inl ⟨by rfl, ?_⟩) hS ?_
      rotate_left
      · intro wz hSw
        clear hSw
        go_simp
        first | done | with_reducible rfl
      try simp only [Act.put, List.setIfInBounds_toArray, List.set_cons_zero, List.set_cons_succ]
      refine wpAnyH_take (i := 33) (oi := ⟨some 94, _, _, _, _, _⟩) (v := ?_) rfl (by kernel_rfl) (by kernel_rfl) (by kernel_rfl) (fun _ _ _ h => h) (Or.inl ⟨by rfl, ?_⟩) hS ?_
      rotate_left
      · intro wz hSw
        clear hSw
        go_simp
        first | done | with_reducible rfl
      try simp only [Act.put, List.setIfInBounds_toArray, List.set_cons_zero, List.set_cons_succ]
      refine wpAnyH_ready (rs := [29]) (by kernel_rfl) (by simp) ?_
      refine AllReadyH.cons (o := ⟨some 90, _, _, _, _, _⟩) rfl (fun K hK => ?_) AllReadyH.nil
      go_simp
      refine HFR.out.mono ?_
      rintro e w10 ⟨rfl, he⟩
      replace he := he.symm
      subst he
      go_simp
      refine hK.out _ _ (⟨HS5.out, HS6.out⟩) (fun hS => ?_)
      clear hK K
      try simp only [Act.put, List.setIfInBounds_toArray, List.set_cons_zero, List.set_cons_succ]
      refine wpAnyH_take (i := 34) (oi := ⟨some 95, _, _, _, _, _⟩) (v := ?_) rfl (by kernel_rfl) (by kernel_rfl) (by kernel_rfl) (fun _ _ _ h => h) (Or.inl ⟨by rfl, ?_⟩) hS ?_
      rotate_left
      · intro wz hSw
        clear hSw
        go_simp
        first | done | with_reducible rfl
      try simp only [Act.put, List.setIfInBounds_toArray, List.set_cons_zero, List.set_cons_succ]
      refine wpAnyH_take (i := 35) (oi := ⟨some 96, _, _, _, _, _⟩) (v := ?_) rfl (by kernel_rfl) (by kernel_rfl) (by kernel_rfl) (fun _ _ _ h => h) (Or.inl ⟨by rfl, ?_⟩) hS ?_
      rotate_left
      · intro wz hSw
        clear hSw
        go_simp
        first | done | with_reducible rfl
      try simp only [Act.put, List.setIfInBounds_toArray, List.set_cons_zero, List.set_cons_succ]
      refine wpAnyH_done (by kernel_rfl) ?_ _
      clear hwr hS hw1 hw2
      go_wp2_with fail
      go_roundw
      case rel => exact ⟨k + 1, by omega, by go_num, _, HF3.out, H9.out⟩
      case measure => simp [intOf]; omega
    · obtain rfl : k = m + 1 := by omega
      have hfe : H.free = [] := by
        have hh : H.free = _ := HF.out
        rw [hh, Nat.sub_self]; rfl
      have hnew : lgNew (some H) = (0, 14, some H) := by
        unfold lgNew
        simp only [hfe]
      have hc := ps_new HP.out (by omega)
      rw [hnew] at hc
      have HC := Lib.hid hc
      have HFE := Lib.hid hfe
      clear hc hnew hfe HF HP
      go_wp2_with fail
      refine HC.out.mono ?_
      rintro e w4 ⟨rfl, h4, -⟩
      have H4 := Lib.hid h4
      clear h4 HC
      go_wp2_with fail
      refine (HW2.out w4).mono ?_
      rintro e w5 ⟨rfl, he⟩
      replace he := he.symm
      subst he
      clear HW2
      have hus : lgUsed (2 + m) H (1 + (s : Int)) := ⟨by omega, by omega, by rw [HFE.out]; simp⟩
      have hd := ps_drop (1 + (s : Int)) H4.out
      rw [lgDrop_some, if_pos hus, HFE.out, show (1 + (s : Int)).toNat = s + 1 by omega] at hd
      obtain ⟨H1, hH1⟩ : ∃ H1 : Lg, H1 = { H with free := [s + 1] } := ⟨_, rfl⟩
      rw [← hH1] at hd
      have hf1 : H1.free = [s + 1] := by rw [hH1]
      have HDR := Lib.hid hd
      have HF1 := Lib.hid hf1
      clear hus hd hH1 hf1 HFE
      go_wp2_with fail
      refine HDR.out.mono ?_
      rintro e w6 ⟨rfl, h6, -⟩
      have hnew : lgNew (some H1) = (1 + (s : Int), 0, some { H1 with free := [], page := upd H1.page (s + 1) (zeros 504) }) := by
        unfold lgNew
        simp only [HF1.out]
        rw [show (((s + 1 : Nat)) : Int) = 1 + (s : Int) by omega]
      have hc := ps_new h6 (by omega)
      rw [hnew] at hc
      obtain ⟨H2, hH2⟩ : ∃ H2 : Lg, H2 = { H1 with free := [], page := upd H1.page (s + 1) (zeros 504) } := ⟨_, rfl⟩
      rw [← hH2] at hc
      have hus : lgUsed (2 + m) H2 (1 + (s : Int)) := ⟨by omega, by omega, by rw [hH2]; simp⟩
      have hpg : H2.page (s + 1) = zeros 504 := by rw [hH2]; show upd H1.page (s + 1) (zeros 504) (s + 1) = _; unfold upd; rw [if_pos rfl]
      have HC := Lib.hid hc
      have HUS := Lib.hid hus
      have HPG := Lib.hid hpg
      clear h6 hc hnew hH2 hus hpg HDR H4
      go_wp2_with fail
      refine HC.out.mono ?_
      rintro e w7 ⟨rfl, h7, -⟩
      have H7 := Lib.hid h7
      have hg := ps_get (1 + (s : Int)) h7
      rw [show (some H2 : Option Lg).getD (Lg.new (2 + m)) = H2 from rfl, if_pos HUS.out, if_pos HUS.out, show (1 + (s : Int)).toNat = s + 1 by omega, HPG.out] at hg
      have HG := Lib.hid hg
      clear h7 hg HC
      go_wp2_with fail
      refine HG.out.mono ?_
      rintro e w8 ⟨bv, rfl, hbv, hown, hb8⟩
      have hlt8 := hbv.own_lt (by rw [zeros_length]; omega)
      have ha1 : Below w8.heap.size w8 (w8.alloc o).drew := ((Below.refl w8.heap.size w8).alloc (Nat.le_refl _) _).drew
      have hsz : (w8.alloc o).drew.heap.size = w8.heap.size + 1 := by simp [World.drew]
      have h9 := H7.out.take (hb8.trans (ha1.mono hb8.size))
      rw [hsz] at h9
      have hcm := ps_commit h9 (by omega)
      rw [show lgCommit (Lg.new (2 + m)) (some H2) = (0, H2) from rfl] at hcm
      have HCM := Lib.hid hcm
      have HB8 := Lib.hid hbv
      have HS1 : Hid (Bs (w8.alloc o).drew bv (zeros 504)) := Lib.hid (hbv.below ha1)
      have HS2 : Hid (Bs (w8.alloc o).drew (.slice (some ⟨w8.heap.size, 0, none⟩) 504 504) (zeros 504)) := Lib.hid (HOB.out w8)
      have HQ1 : Hid (∀ q, bv.ownBlock = some q → NoX q ∨ (w7.heap.size ≤ q ∧ q < w8.heap.size + 1)) := Lib.hid (fun q hq => .inr ⟨hown q hq, by have := hlt8 q hq; omega⟩)
      have HQ2 : Hid (∀ q, (Value.slice (some ⟨w8.heap.size, 0, none⟩) 504 504).ownBlock = some q → NoX q ∨ (w7.heap.size ≤ q ∧ q < w8.heap.size + 1)) := Lib.hid (fun q hq => .inr (by have e : w8.heap.size = q := Option.some.inj hq; have := hb8.size; omega))
      clear hbv hown hb8 hlt8 ha1 hsz h9 hcm HG HOB
      go_wp2_with fail
      refine wp_region_any (by kernel_rfl) ?_
      change wpAny _ _ _ _ _ _ _ (World.drew _)
      refine wpAny_of_held (S := fun (w' : World) => Bs w' bv (zeros 504)) _ _ _ _ ?_
      have hS : (fun (w' : World) => Bs w' bv (zeros 504)) _ := HB8.out.drew
      try simp only [Act.put, List.setIfInBounds_toArray, List.set_cons_zero, List.set_cons_succ]
      refine wpAnyH_take (i := 0) (oi := ⟨some 126, _, _, _, _, _⟩) (v := ?_) rfl (by kernel_rfl) (by kernel_rfl) (by kernel_rfl) (fun _ _ _ h => h) (Or.inl ⟨by rfl, ?_⟩) hS ?_
      rotate_left
      · intro wz hSw
        clear hSw
        go_simp
        first | done | with_reducible rfl
      try simp only [Act.put, List.setIfInBounds_toArray, List.set_cons_zero, List.set_cons_succ]
      refine wpAnyH_take (i := 1) (oi := ⟨some 127, _, _, _, _, _⟩) (v := ?_) rfl (by kernel_rfl) (by kernel_rfl) (by kernel_rfl) (fun _ _ _ h => h) (Or.inl ⟨by rfl, ?_⟩) hS ?_
      rotate_left
      · intro wz hSw
        clear hSw
        go_simp
        first | done | with_reducible rfl
      try simp only [Act.put, List.setIfInBounds_toArray, List.set_cons_zero, List.set_cons_succ]
      refine wpAnyH_take (i := 2) (oi := ⟨some 128, _, _, _, _, _⟩) (v := ?_) rfl (by kernel_rfl) (by kernel_rfl) (by kernel_rfl) (fun _ _ _ h => h) (Or.inl ⟨by rfl, ?_⟩) hS ?_
      rotate_left
      · intro wz hSw
        clear hSw
        go_simp
        first | done | with_reducible rfl
      try simp only [Act.put, List.setIfInBounds_toArray, List.set_cons_zero, List.set_cons_succ]
      refine wpAnyH_take (i := 3) (oi := ⟨some 129, _, _, _, _, _⟩) (v := ?_) rfl (by kernel_rfl) (by kernel_rfl) (by kernel_rfl) (fun _ _ _ h => h) (Or.inl ⟨by rfl, ?_⟩) hS ?_
      rotate_left
      · intro wz hSw
        clear hSw
        go_simp
        first | done | with_reducible rfl
      try simp only [Act.put, List.setIfInBounds_toArray, List.set_cons_zero, List.set_cons_succ]
      refine wpAnyH_take (i := 4) (oi := ⟨some 130, _, _, _, _, _⟩) (v := ?_) rfl (by kernel_rfl) (by kernel_rfl) (by kernel_rfl) (fun _ _ _ h => h) (Or.inl ⟨by rfl, ?_⟩) hS ?_
      rotate_left
      · intro wz hSw
        clear hSw
        go_simp
        first | done | with_reducible rfl
      try simp only [Act.put, List.setIfInBounds_toArray, List.set_cons_zero, List.set_cons_succ]
      refine wpAnyH_take (i := 5) (oi := ⟨some 131, _, _, _, _, _⟩) (v := ?_) rfl (by kernel_rfl) (by kernel_rfl) (by kernel_rfl) (fun _ _ _ h => h) (Or.inl ⟨by rfl, ?_⟩) hS ?_
      rotate_left
      · intro wz hSw
        clear hSw
        go_simp
        first | done | with_reducible rfl
      try simp only [Act.put, List.setIfInBounds_toArray, List.set_cons_zero, List.set_cons_succ]
      refine wpAnyH_take (i := 6) (oi := ⟨some 132, _, _, _, _, _⟩) (v := ?_) rfl (by kernel_rfl) (by kernel_rfl) (by kernel_rfl) (fun _ _ _ h => h) (Or.inl ⟨by rfl, ?_⟩) hS ?_
      rotate_left
      · intro wz hSw
        clear hSw
        go_simp
        first | done | with_reducible rfl
      try simp only [Act.put, List.setIfInBounds_toArray, List.set_cons_zero, List.set_cons_succ]
      refine wpAnyH_take (i := 7) (oi := ⟨some 133, _, _, _, _, _⟩) (v := ?_) rfl (by kernel_rfl) (by kernel_rfl) (by kernel_rfl) (fun _ _ _ h => h) (Or.inl ⟨by rfl, ?_⟩) hS ?_
      rotate_left
      · intro wz hSw
        clear hSw
        go_simp
        first | done | with_reducible rfl
      try simp only [Act.put, List.setIfInBounds_toArray, List.set_cons_zero, List.set_cons_succ]
      refine wpAnyH_take (i := 8) (oi := ⟨some 134, _, _, _, _, _⟩) (v := ?_) rfl (by kernel_rfl) (by kernel_rfl) (by kernel_rfl) (fun _ _ _ h => h) (Or.inl ⟨by rfl, ?_⟩) hS ?_
      rotate_left
      · intro wz hSw
        clear hSw
        go_simp
        first | done | with_reducible rfl
      try simp only [Act.put, List.setIfInBounds_toArray, List.set_cons_zero, List.set_cons_succ]
      refine wpAnyH_take (i := 9) (oi := ⟨some 135, _, _, _, _, _⟩) (v := ?_) rfl (by kernel_rfl) (by kernel_rfl) (by kernel_rfl) (fun _ _ _ h => h) (Or.inl ⟨by rfl, ?_⟩) hS ?_
      rotate_left
      · intro wz hSw
        clear hSw
        go_simp
        first | done | with_reducible rfl
      try simp only [Act.put, List.setIfInBounds_toArray, List.set_cons_zero, List.set_cons_succ]
      refine wpAnyH_take (i := 10) (oi := ⟨some 136, _, _, _, _, _⟩) (v := ?_) rfl (by kernel_rfl) (by kernel_rfl) (by kernel_rfl) (fun _ _ _ h => h) (Or.inl ⟨by rfl, ?_⟩) hS ?_
      rotate_left
      · intro wz hSw
        clear hSw
        go_simp
        first | done | with_reducible rfl
      try simp only [Act.put, List.setIfInBounds_toArray, List.set_cons_zero, List.set_cons_succ]
      refine wpAnyH_take (i := 11) (oi := ⟨some 137, _, _, _, _, _⟩) (v := ?_) rfl (by kernel_rfl) (by kernel_rfl) (by kernel_rfl) (fun _ _ _ h => h) (Or.inl ⟨by rfl, ?_⟩) hS ?_
      rotate_left
      · intro wz hSw
        clear hSw
        go_simp
        first | done | with_reducible rfl
      try simp only [Act.put, List.setIfInBounds_toArray, List.set_cons_zero, List.set_cons_succ]
      refine wpAnyH_take (i := 12) (oi := ⟨some 138, _, _, _, _, _⟩) (v := ?_) rfl (by kernel_rfl) (by kernel_rfl) (by kernel_rfl) (fun _ _ _ h => h) (Or.inl ⟨by rfl, ?_⟩) hS ?_
      rotate_left
      · intro wz hSw
        clear hSw
        go_simp
        first | done | with_reducible rfl
      try simp only [Act.put, List.setIfInBounds_toArray, List.set_cons_zero, List.set_cons_succ]
      refine wpAnyH_take (i := 13) (oi := ⟨some 139, _, _, _, _, _⟩) (v := ?_) rfl (by kernel_rfl) (by kernel_rfl) (by kernel_rfl) (fun _ _ _ h => h) (Or.inl ⟨by rfl, ?_⟩) hS ?_
      rotate_left
      · intro wz hSw; have hcz := run_conv_bytes hSw; rw [← HY.out] at hcz
        clear hSw
        go_simp
        first | done | with_reducible rfl
      try simp only [Act.put, List.setIfInBounds_toArray, List.set_cons_zero, List.set_cons_succ]
      refine wpAnyH_ready (rs := [14]) (by kernel_rfl) (by simp) ?_
      refine AllReadyH.cons (o := ⟨some 140, _, _, _, _, _⟩) rfl (fun K hK => ?_) AllReadyH.nil
      go_simp
      refine hK.out _ _ (HS1.out) (fun hS => ?_)
      clear hK K
      try simp only [Act.put, List.setIfInBounds_toArray, List.set_cons_zero, List.set_cons_succ]
      have hS' : (fun (w' : World) => Bs w' bv (zeros 504) ∧ Bs w' (.slice (some ⟨w8.heap.size, 0, none⟩) 504 504) (zeros 504)) (_) := ⟨hS, HS2.out⟩
      refine wpAnyH_mono (S' := fun (w' : World) => Bs w' bv (zeros 504) ∧ Bs w' (.slice (some ⟨w8.heap.size, 0, none⟩) 504 504) (zeros 504)) (fun _ h => h.1) _ _ _ _ ?_
      clear hS
      have hS := hS'
      clear hS'
      refine wpAnyH_take (i := 15) (oi := ⟨some 141, _, _, _, _, _⟩) (v := ?_) rfl (by kernel_rfl) (by kernel_rfl) (by kernel_rfl) (fun _ _ _ h => h) (Or.inl ⟨by rfl, ?_⟩) hS ?_
      rotate_left
      · intro wz hSw; have hcz := run_conv_bytes hSw.2; rw [← HY.out] at hcz
        clear hSw
        go_simp
        first | done | with_reducible rfl
      try simp only [Act.put, List.setIfInBounds_toArray, List.set_cons_zero, List.set_cons_succ]
      refine wpAnyH_take (i := 16) (oi := ⟨some 142, _, _, _, _, _⟩) (v := ?_) rfl (by kernel_rfl) (by kernel_rfl) (by kernel_rfl) (fun _ _ _ h => h) (Or.inl ⟨by rfl, ?_⟩) hS ?_
      rotate_left
      · intro wz hSw
        clear hSw
        go_simp
        first | done | with_reducible rfl
      try simp only [Act.put, List.setIfInBounds_toArray, List.set_cons_zero, List.set_cons_succ]
      refine wpAnyH_take (i := 17) (oi := ⟨some 143, _, _, _, _, _⟩) (v := ?_) rfl (by kernel_rfl) (by kernel_rfl) (by kernel_rfl) (fun _ _ _ h => h) (Or.inl ⟨by rfl, ?_⟩) hS ?_
      rotate_left
      · intro wz hSw
        clear hSw
        go_simp
        first | done | with_reducible rfl
      try simp only [Act.put, List.setIfInBounds_toArray, List.set_cons_zero, List.set_cons_succ]
      refine wpAnyH_take (i := 18) (oi := ⟨some 144, _, _, _, _, _⟩) (v := ?_) rfl (by kernel_rfl) (by kernel_rfl) (by kernel_rfl) (fun _ _ _ h => h) (Or.inl ⟨by rfl, ?_⟩) hS ?_
      rotate_left
      · intro wz hSw
        clear hSw
        go_simp
        first | done | with_reducible rfl
      try simp only [Act.put, List.setIfInBounds_toArray, List.set_cons_zero, List.set_cons_succ]
      refine wpAnyH_take (i := 19) (oi := ⟨some 145, _, _, _, _, _⟩) (v := ?_) rfl (by kernel_rfl) (by kernel_rfl) (by kernel_rfl) (fun _ _ _ h => h) (Or.inl ⟨by rfl, ?_⟩) hS ?_
      rotate_left
      · intro wz hSw
        clear hSw
        go_simp
        first | done | with_reducible rfl
      try simp only [Act.put, List.setIfInBounds_toArray, List.set_cons_zero, List.set_cons_succ]
      refine wpAnyH_ready (rs := [20]) (by kernel_rfl) (by simp) ?_
      refine AllReadyH.cons (o := ⟨some 146, _, _, _, _, _⟩) rfl (fun K hK => ?_) AllReadyH.nil
      go_simp
      refine HCM.out.mono ?_
      rintro e w9 ⟨rfl, h9, hm9⟩
      have HS5 := Lib.hid (HS1.out.kept hm9 HQ1.out)
      have HS6 := Lib.hid (HS2.out.kept hm9 HQ2.out)
      have H9 := Lib.hid h9
      clear h9 hm9
      go_simp
      refine hK.out _ _ (⟨HS5.out, HS6.out⟩) (fun hS => ?_)
      clear hK K
      try simp only [Act.put, List.setIfInBounds_toArray, List.set_cons_zero, List.set_cons_succ]
      refine wpAnyH_take (i := 21) (oi := ⟨some 147, _, _, _, _, _⟩) (v := ?_) rfl (by kernel_rfl) (by kernel_rfl) (by kernel_rfl) (fun _ _ _ h => h) (Or.inl ⟨by rfl, ?_⟩) hS ?_
      rotate_left
      · intro wz hSw
        clear hSw
        go_simp
        first | done | with_reducible rfl
      try simp only [Act.put, List.setIfInBounds_toArray, List.set_cons_zero, List.set_cons_succ]
      refine wpAnyH_take (i := 22) (oi := ⟨some 148, _, _, _, _, _⟩) (v := ?_) rfl (by kernel_rfl) (by kernel_rfl) (by kernel_rfl) (fun _ _ _ h => h) (Or.inl ⟨by rfl, ?_⟩) hS ?_
      rotate_left
      · intro wz hSw
        clear hSw
        go_simp
        first | done | with_reducible rfl
      try simp only [Act.put, List.setIfInBounds_toArray, List.set_cons_zero, List.set_cons_succ]
      refine wpAnyH_take (i := 23) (oi := ⟨some 4, _, _, _, _, _⟩) (v := ?_) rfl (by kernel_rfl) (by kernel_rfl) (by kernel_rfl) (fun _ _ _ h => h) (Or.inl ⟨by rfl, ?_⟩) hS ?_
      rotate_left
      · intro wz hSw
        clear hSw
        go_simp
        first | done | with_reducible rfl
      try simp only [Act.put, List.setIfInBounds_toArray, List.set_cons_zero, List.set_cons_succ]
      refine wpAnyH_done (by kernel_rfl) ?_ _
      clear hS
      go_wp2_with fail
      go_ret
      exact ⟨rfl, H9.out.below⟩
end Go.Proofs.Ytbdmlhmmdcdppaa
