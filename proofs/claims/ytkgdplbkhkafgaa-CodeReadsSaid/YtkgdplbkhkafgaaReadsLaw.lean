/- The walk of the law CodeReads. -/
import Derived.Test.YtkgdplbkhkafgaaArgs
import Derived.Test.YtkgdplbkhkafgaaRefs
import Derived.Test.YtkgdplbkhkafgaaEnds
namespace Go.Proofs.Ytkgdplbkhkafgaa
open Go.RowKit

set_option maxRecDepth 100000 in
set_option maxHeartbeats 4000000 in
theorem reads_walk (bo : Option Addr) (bc : Nat) (l : List UInt8) (ao : Option Addr) (ac : Nat) (zs : List Int) (w : World) (hbs : Bs w (.slice bo l.length bc) l) (hz : Nums w ao zs) (_hac : zs.length ≤ ac) (_hac' : ac ≤ maxLen) :
    Calls Try.prog 4 #[.slice bo l.length bc, .slice ao zs.length ac] w fun en w' => en = .returned (.bool true) ∧ Below w.heap.size w w' := by
  have hblk : l = [] ∨ ∀ b, (Value.slice bo l.length bc).ownBlock = some b → b < w.heap.size := by
    by_cases hl : l = []
    · exact .inl hl
    · right
      obtain ⟨b, off, cap, hv, -, -, hc⟩ := hbs.at (List.length_pos_iff.2 hl)
      intro b' hb'
      rw [hv] at hb'
      have := World.block_lt_of_cell? w _ (hc 0 (List.length_pos_iff.2 hl))
      simp [Value.ownBlock] at hb'
      rw [← hb']
      exact this
  have hbc : l.length ≤ bc ∧ bc ≤ 9223372036854775807 := by
    obtain ⟨a, c, e, g1, g2, -⟩ := hbs
    simp only [Value.slice.injEq, true_and] at e
    obtain ⟨rfl, rfl⟩ := e
    exact ⟨g1, g2⟩
  unfold maxLen at _hac'
  obtain ⟨n, hn⟩ : ∃ n, zs.length = n := ⟨_, rfl⟩
  rw [hn] at _hac ⊢
  have HN := Lib.hid hn
  clear hn
  by_cases hl : (500 : Int) < l.length
  · go_enter Try.func4, Try.ntmps4
    go_wp2_with (go_at_call 11; refine (known_any _).mono ?_; rintro e w1 ⟨rfl, hb1⟩)
    go_ret
    exact ⟨rfl, hb1⟩
  go_enter Try.func4, Try.ntmps4
  go_wp2_with fail
  refine (known_any _).mono ?_
  rintro en w1 ⟨rfl, hb1⟩
  have hs1 := hb1.size
  have hbs1 := hbs.below hb1
  go_wp2_with (at_builtin; refine wpList_append_bytes rfl _ _ rfl w.heap.size _ _ rfl (Own.empty _ _ ?a1) _ _ rfl (hbs1.below ?a2) ?a3 ?a4 ?_)
  case a1 => omega
  case a2 => exact (Below.refl _ _).alloc (Nat.le_refl _) _
  case a3 => simp; omega
  case a4 => simp; omega
  intro v2 w2 ho2 hg2
  have hb2 : Below w.heap.size w w2 := (Own.empty _ _ (by omega)).step (hb1.alloc hs1 _) hg2 (Nat.le_refl _) (by simp; omega)
  have hs2 := hb2.size
  have hbs2 := ho2.bs
  clear hg2 hbs1 hb1 hs1 ho2
  go_wp2_with fail
  refine (new_any _ l (by omega) _ hbs2).mono ?_
  rintro en w3 ⟨r, rfl, hr3, hq3, hb3⟩
  have hB3 := hb2.trans (hb3.mono hs2)
  have hs3 := hB3.size
  have hbs3 := hbs.below hB3
  have hr0 : w.heap.size ≤ r := by omega
  have hrl := hr3.lt
  clear hb3 hb2 hbs2
  go_wp2_with fail
  refine (newR_any (mB := w.heap.size) _ l _ hbs3 hs3 hblk).mono ?_
  rintro en w4 ⟨rfl, hx4, hb4⟩
  have hr4 := hr3.below hb4
  have hB4 := hB3.trans (hb4.mono hs3)
  have hx0 : w.heap.size ≤ w3.heap.size := hs3
  have hne : r ≠ w3.heap.size := by omega
  generalize w3.heap.size = x at *
  clear hr3 hB3 hb4 hbs3 hs3
  go_wp2_with fail
  go_loopw [7] (fun i wr => ∃ k : Nat, k ≤ n ∧ i = .int .i64 k ∧ ∃ L E, Rd wr r L E ∧ RdR w.heap.size wr x L E ∧ Below w.heap.size w wr) (fun i _ => n - (intOf i).toNat)
  case atStart => exact ⟨0, Nat.zero_le _, rfl, _, _, hr4, hx4, hB4⟩
  case round =>
    clear hr4 hx4 hB4
    obtain ⟨k, hk, rfl, L, E, hrd, hxr, hbel⟩ := hrel
    have hsz := hbel.size
    by_cases hlt : k < n
    · by_cases h30 : (k : Int) < 30
      · obtain ⟨b, off, hao, hbw, hc⟩ := hz.2 k (by have := HN.out; omega)
        subst hao
        have hck := (hbel.cell hbw).trans hc
        have hwx : (Lit.int .i64 (zs.getD k 0)).wf = true := hz.1 _ (by have := HN.out; simp [List.getD, show k < zs.length by omega])
        generalize zs.getD k 0 = X at *
        clear hc
        have a1 := Int.emod_nonneg X (show (7 : Int) ≠ 0 by decide)
        have a2 := Int.emod_lt_of_pos X (show (0 : Int) < 7 by decide)
        go_wp2_with fail
        refine (within_any X 7 (by decide) (by decide) hwx _).mono ?_
        rintro en w5 ⟨rfl, rfl⟩
        obtain ⟨A, hA⟩ : ∃ A, X % 7 = A := ⟨_, rfl⟩
        rw [hA] at a1 a2 ⊢
        have HA := Lib.hid hA
        clear hA
        rcases (show A = 0 ∨ A = 1 ∨ A = 2 ∨ A = 3 ∨ A = 4 ∨ A = 5 ∨ A = 6 by omega) with hA | hA | hA | hA | hA | hA | hA
        · subst hA
          go_wp2_with fail
          refine (rint_any r L E _ hrd).mono ?_
          rintro en w3 ⟨rfl, hr3, hg3⟩
          have hb3 := Below.rd hbel hg3 hsz hr0
          have hx3 := hxr.keep hne hr0 hg3
          clear hrd hg3 hbel hxr
          go_wp2_with fail
          refine (intR_any (mB := w.heap.size) x L E _ hx3).mono ?_
          rintro en w4 ⟨rfl, hx4, hg4⟩
          have hb4 := Below.rd hb3 hg4 hb3.size hx0
          have hr4 := hr3.keepR hx3 hne hg4
          clear hr3 hx3 hg4 hb3
          generalize wrap64 (num (tookOf L E 8)) = VV at *
          generalize leftOf L E 8 = L2 at *
          generalize errOf L E 8 = E2 at *
          go_wp2_with fail
          refine (end_any r _ _ _ hr4).mono ?_
          rintro en w5 ⟨rfl, rfl⟩
          go_wp2_with fail
          refine (endR_any (mB := w.heap.size) x _ _ _ hx4).mono ?_
          rintro en w6 ⟨rfl, nn, rfl⟩
          generalize endOf L2 E2 = EE at *
          have hr6 : Rd (w4.drewN nn) r L2 E2 := hr4
          have hx6 : RdR w.heap.size (w4.drewN nn) x L2 E2 := hx4
          have hb6 : Below w.heap.size w (w4.drewN nn) := ⟨hb4.os, hb4.tape, hb4.output, hb4.size, hb4.block⟩
          clear hr4 hx4 hb4
          go_wp2
          go_roundw
          case rel => exact ⟨k + 1, by omega, by go_num, _, _, hr6, hx6, hb6⟩
          case measure => simp [intOf]; omega
        · subst hA
          go_wp2_with fail
          refine (rint_any r L E _ hrd).mono ?_
          rintro en w3 ⟨rfl, hr3, hg3⟩
          have hb3 := Below.rd hbel hg3 hsz hr0
          have hx3 := hxr.keep hne hr0 hg3
          clear hrd hg3 hbel hxr
          go_wp2_with fail
          refine (intR_any (mB := w.heap.size) x L E _ hx3).mono ?_
          rintro en w4 ⟨rfl, hx4, hg4⟩
          have hb4 := Below.rd hb3 hg4 hb3.size hx0
          have hr4 := hr3.keepR hx3 hne hg4
          clear hr3 hx3 hg4 hb3
          generalize wrap64 (num (tookOf L E 8)) = VV at *
          generalize leftOf L E 8 = L2 at *
          generalize errOf L E 8 = E2 at *
          go_wp2_with fail
          refine (end_any r _ _ _ hr4).mono ?_
          rintro en w5 ⟨rfl, rfl⟩
          go_wp2_with fail
          refine (endR_any (mB := w.heap.size) x _ _ _ hx4).mono ?_
          rintro en w6 ⟨rfl, nn, rfl⟩
          generalize endOf L2 E2 = EE at *
          have hr6 : Rd (w4.drewN nn) r L2 E2 := hr4
          have hx6 : RdR w.heap.size (w4.drewN nn) x L2 E2 := hx4
          have hb6 : Below w.heap.size w (w4.drewN nn) := ⟨hb4.os, hb4.tape, hb4.output, hb4.size, hb4.block⟩
          clear hr4 hx4 hb4
          go_wp2
          go_roundw
          case rel => exact ⟨k + 1, by omega, by go_num, _, _, hr6, hx6, hb6⟩
          case measure => simp [intOf]; omega
        · subst hA
          go_wp2_with fail
          refine (rbyte_any r L E _ hrd).mono ?_
          rintro en w3 ⟨rfl, hr3, hg3⟩
          have hb3 := Below.rd hbel hg3 hsz hr0
          have hx3 := hxr.keep hne hr0 hg3
          clear hrd hg3 hbel hxr
          go_wp2_with fail
          refine (byteR_any (mB := w.heap.size) x L E _ hx3).mono ?_
          rintro en w4 ⟨rfl, hx4, hg4⟩
          have hb4 := Below.rd hb3 hg4 hb3.size hx0
          have hr4 := hr3.keepR hx3 hne hg4
          clear hr3 hx3 hg4 hb3
          generalize wrap64 (num (tookOf L E 1)) = VV at *
          generalize leftOf L E 1 = L2 at *
          generalize errOf L E 1 = E2 at *
          go_wp2_with fail
          refine (end_any r _ _ _ hr4).mono ?_
          rintro en w5 ⟨rfl, rfl⟩
          go_wp2_with fail
          refine (endR_any (mB := w.heap.size) x _ _ _ hx4).mono ?_
          rintro en w6 ⟨rfl, nn, rfl⟩
          generalize endOf L2 E2 = EE at *
          have hr6 : Rd (w4.drewN nn) r L2 E2 := hr4
          have hx6 : RdR w.heap.size (w4.drewN nn) x L2 E2 := hx4
          have hb6 : Below w.heap.size w (w4.drewN nn) := ⟨hb4.os, hb4.tape, hb4.output, hb4.size, hb4.block⟩
          clear hr4 hx4 hb4
          go_wp2
          go_roundw
          case rel => exact ⟨k + 1, by omega, by go_num, _, _, hr6, hx6, hb6⟩
          case measure => simp [intOf]; omega
        · subst hA
          go_wp2_with fail
          refine (rbyte_any r L E _ hrd).mono ?_
          rintro en w3 ⟨rfl, hr3, hg3⟩
          have hb3 := Below.rd hbel hg3 hsz hr0
          have hx3 := hxr.keep hne hr0 hg3
          clear hrd hg3 hbel hxr
          go_wp2_with fail
          refine (byteR_any (mB := w.heap.size) x L E _ hx3).mono ?_
          rintro en w4 ⟨rfl, hx4, hg4⟩
          have hb4 := Below.rd hb3 hg4 hb3.size hx0
          have hr4 := hr3.keepR hx3 hne hg4
          clear hr3 hx3 hg4 hb3
          generalize wrap64 (num (tookOf L E 1)) = VV at *
          generalize leftOf L E 1 = L2 at *
          generalize errOf L E 1 = E2 at *
          go_wp2_with fail
          refine (end_any r _ _ _ hr4).mono ?_
          rintro en w5 ⟨rfl, rfl⟩
          go_wp2_with fail
          refine (endR_any (mB := w.heap.size) x _ _ _ hx4).mono ?_
          rintro en w6 ⟨rfl, nn, rfl⟩
          generalize endOf L2 E2 = EE at *
          have hr6 : Rd (w4.drewN nn) r L2 E2 := hr4
          have hx6 : RdR w.heap.size (w4.drewN nn) x L2 E2 := hx4
          have hb6 : Below w.heap.size w (w4.drewN nn) := ⟨hb4.os, hb4.tape, hb4.output, hb4.size, hb4.block⟩
          clear hr4 hx4 hb4
          go_wp2
          go_roundw
          case rel => exact ⟨k + 1, by omega, by go_num, _, _, hr6, hx6, hb6⟩
          case measure => simp [intOf]; omega
        · subst hA
          go_wp2_with fail
          refine (rtext_any r L E _ hrd).mono ?_
          rintro en w3 ⟨rfl, hr3, hg3⟩
          have hb3 := Below.rd hbel hg3 hsz hr0
          have hx3 := hxr.keep hne hr0 hg3
          clear hrd hg3 hbel hxr
          go_wp2_with fail
          refine (textR_any (mB := w.heap.size) x L E _ hx3).mono ?_
          rintro en w4 ⟨rfl, hx4, hg4⟩
          have hb4 := Below.rd hb3 hg4 hb3.size hx0
          have hr4 := hr3.keepR hx3 hne hg4
          clear hr3 hx3 hg4 hb3
          generalize (⟨(textOf L E).toArray⟩ : ByteArray) = VV at *
          generalize textLeft L E = L2 at *
          generalize textErr L E = E2 at *
          go_wp2_with fail
          refine (end_any r _ _ _ hr4).mono ?_
          rintro en w5 ⟨rfl, rfl⟩
          go_wp2_with fail
          refine (endR_any (mB := w.heap.size) x _ _ _ hx4).mono ?_
          rintro en w6 ⟨rfl, nn, rfl⟩
          generalize endOf L2 E2 = EE at *
          have hr6 : Rd (w4.drewN nn) r L2 E2 := hr4
          have hx6 : RdR w.heap.size (w4.drewN nn) x L2 E2 := hx4
          have hb6 : Below w.heap.size w (w4.drewN nn) := ⟨hb4.os, hb4.tape, hb4.output, hb4.size, hb4.block⟩
          clear hr4 hx4 hb4
          go_wp2
          go_roundw
          case rel => exact ⟨k + 1, by omega, by go_num, _, _, hr6, hx6, hb6⟩
          case measure => simp [intOf]; omega
        · subst hA
          go_wp2_with fail
          refine (rtext_any r L E _ hrd).mono ?_
          rintro en w3 ⟨rfl, hr3, hg3⟩
          have hb3 := Below.rd hbel hg3 hsz hr0
          have hx3 := hxr.keep hne hr0 hg3
          clear hrd hg3 hbel hxr
          go_wp2_with fail
          refine (textR_any (mB := w.heap.size) x L E _ hx3).mono ?_
          rintro en w4 ⟨rfl, hx4, hg4⟩
          have hb4 := Below.rd hb3 hg4 hb3.size hx0
          have hr4 := hr3.keepR hx3 hne hg4
          clear hr3 hx3 hg4 hb3
          generalize (⟨(textOf L E).toArray⟩ : ByteArray) = VV at *
          generalize textLeft L E = L2 at *
          generalize textErr L E = E2 at *
          go_wp2_with fail
          refine (end_any r _ _ _ hr4).mono ?_
          rintro en w5 ⟨rfl, rfl⟩
          go_wp2_with fail
          refine (endR_any (mB := w.heap.size) x _ _ _ hx4).mono ?_
          rintro en w6 ⟨rfl, nn, rfl⟩
          generalize endOf L2 E2 = EE at *
          have hr6 : Rd (w4.drewN nn) r L2 E2 := hr4
          have hx6 : RdR w.heap.size (w4.drewN nn) x L2 E2 := hx4
          have hb6 : Below w.heap.size w (w4.drewN nn) := ⟨hb4.os, hb4.tape, hb4.output, hb4.size, hb4.block⟩
          clear hr4 hx4 hb4
          go_wp2
          go_roundw
          case rel => exact ⟨k + 1, by omega, by go_num, _, _, hr6, hx6, hb6⟩
          case measure => simp [intOf]; omega
        · subst hA
          go_wp2_with fail
          refine (within_any _ 20 (by decide) (by decide) ?_ _).mono ?_
          · exact wf_i64 (by simp only [wrap64]; omega)
          rintro en w2 ⟨rfl, rfl⟩
          go_wp2_with fail
          refine (fail_any r L E _ _ hrd).mono ?_
          rintro en w3 ⟨rfl, hr3, hg3⟩
          have hb3 := Below.rd hbel hg3 hsz hr0
          have hx3 := hxr.keep hne hr0 hg3
          have hbr : b ≠ r := by omega
          have hck3 : w3.cell? ⟨b, off + k, none⟩ = some (.int .i64 X) := hg3.cell hck (by simpa using hbr)
          clear hrd hg3 hbel hxr hck
          go_wp2_with fail
          refine (within_any _ 20 (by decide) (by decide) ?_ _).mono ?_
          · exact wf_i64 (by simp only [wrap64]; omega)
          rintro en w2 ⟨rfl, rfl⟩
          generalize wrap64 (X.tdiv 7) % 20 = F at *
          go_wp2_with fail
          refine (failR_any (mB := w.heap.size) x L E _ _ hx3).mono ?_
          rintro en w4 ⟨rfl, hx4, hg4⟩
          have hb4 := Below.rd hb3 hg4 hb3.size hx0
          have hr4 := hr3.keepR hx3 hne hg4
          clear hr3 hx3 hg4 hb3
          generalize failOf E F = E2 at *
          go_wp2_with fail
          refine (end_any r _ _ _ hr4).mono ?_
          rintro en w5 ⟨rfl, rfl⟩
          go_wp2_with fail
          refine (endR_any (mB := w.heap.size) x _ _ _ hx4).mono ?_
          rintro en w6 ⟨rfl, nn, rfl⟩
          generalize endOf L E2 = EE at *
          have hr6 : Rd (w4.drewN nn) r L E2 := hr4
          have hx6 : RdR w.heap.size (w4.drewN nn) x L E2 := hx4
          have hb6 : Below w.heap.size w (w4.drewN nn) := ⟨hb4.os, hb4.tape, hb4.output, hb4.size, hb4.block⟩
          clear hr4 hx4 hb4
          go_wp2
          go_roundw
          case rel => exact ⟨k + 1, by omega, by go_num, _, _, hr6, hx6, hb6⟩
          case measure => simp [intOf]; omega
      · go_wp2_with fail
        refine (end_any r _ _ _ hrd).mono ?_
        rintro en w5 ⟨rfl, rfl⟩
        go_wp2_with fail
        refine (endR_any (mB := w.heap.size) x _ _ _ hxr).mono ?_
        rintro en w6 ⟨rfl, nn, rfl⟩
        have hb6 : Below w.heap.size w (wr.drewN nn) := ⟨hbel.os, hbel.tape, hbel.output, hbel.size, hbel.block⟩
        generalize endOf L E = EE at *
        go_wp2
        go_ret
        exact ⟨rfl, hb6⟩
    · obtain rfl : n = k := by omega
      go_wp2_with fail
      refine (end_any r _ _ _ hrd).mono ?_
      rintro en w5 ⟨rfl, rfl⟩
      go_wp2_with fail
      refine (endR_any (mB := w.heap.size) x _ _ _ hxr).mono ?_
      rintro en w6 ⟨rfl, nn, rfl⟩
      have hb6 : Below w.heap.size w (wr.drewN nn) := ⟨hbel.os, hbel.tape, hbel.output, hbel.size, hbel.block⟩
      generalize endOf L E = EE at *
      go_wp2
      go_ret
      exact ⟨rfl, hb6⟩
end Go.Proofs.Ytkgdplbkhkafgaa
