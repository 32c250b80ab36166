/- Go -/
import Derived.Test.YtbpdapcmaioeiaaGreatKGn
namespace Go.Proofs.YtbpdapcmaioeiaaGreat
open Go.RowKit Go.Maps
set_option maxRecDepth 100000
set_option linter.unusedVariables false
theorem zc_size (z : Array Value) (n : Nat) : (Builtin.zeroCells z n).size = n * z.size := by
 rw [size_zeroCells]
set_option maxHeartbeats 1000000 in
theorem grow_any (n : Nat) (hn : n ≤ 100000) (w : World) :
 Calls Tryz.prog 144 #[.slice none 0 0, .int .i64 n] w fun e w' => ∃ v, e = .returned v ∧ Owe w' w.heap.size v [] ∧ Below w.heap.size w w' := by
 by_cases h0 : n = 0
 ·subst h0
  go_enter Tryz.func144, Tryz.ntmps144
  go_wp2_with fail
  go_ret
  exact ⟨_, rfl, Owe.nil _ _, Below.refl _ _⟩
 ·obtain ⟨i0, hi, hz0, hz1, hz2⟩ := info_parts Tryz.infoEnt
  have hrun := fun ty => Lib.run_append_nil_zeros (P := Tryz.prog) w 132 3 ty 121 i0 _ .i64 .i64 Tryz.underlying132 Tryz.underlying3 hi hz0 n (by omega) (by rw [hz1]; decide) (by omega) (by rw [hz2]; omega)
  have HR := Lib.hid hrun
  have hpos : (0 : Int) < n := by omega
  clear hrun
  go_enter Tryz.func144, Tryz.ntmps144
  go_wp2_with (first | (refine Lib.wpList_append_run _ rfl _ _ _ _ rfl _ _ rfl rfl _ _ (HR.out _) ?_) | fail)
  go_ret
  refine ⟨_, rfl, ⟨rfl, .inr ⟨w.heap.size, _, _, rfl, Nat.le_refl _, heap_alloc_new w _, Nat.zero_le _, grownCap_le_maxLen w n 0 _ (by simp [maxLen]; omega), ?_, by simp [ecells]⟩⟩, ((Below.refl _ w).alloc (Nat.le_refl _) _).drew⟩
  have := grownCap_ge w n 0 121
  rw [Array.size_append, zc_size, zc_size]
  show n * 3 + (grownCap w n 0 _ - n) * 3 = _
  omega
/-- A row of rows of entries. -/
def Rws (w : World) (v : Value) (ls : List (List Ent)) : Prop :=
 ∃ ao cap, v = .slice ao ls.length cap ∧ ls.length ≤ cap ∧ cap ≤ 9223372036854775807 ∧ ∀ k (hk : k < ls.length), ∃ b off, ao = some ⟨b, off, none⟩ ∧ b < w.heap.size ∧ ∃ u, w.cell? ⟨b, off + k, none⟩ = some u ∧ Ens w u ls[k]
theorem Rws.below {w w' : World} {v : Value} {ls : List (List Ent)} (h : Rws w v ls) (hb : Below w.heap.size w w') : Rws w' v ls := by
 obtain ⟨ao, cap, e, h1, h2, h3⟩ := h
 refine ⟨ao, cap, e, h1, h2, fun k hk => ?_⟩
 obtain ⟨b, off, e', hlt, u, c, hu⟩ := h3 k hk
 have hs := hb.size
 exact ⟨b, off, e', by omega, u, (hb.cell (show (⟨b, off + k, none⟩ : Addr).block < _ from hlt)).trans c, hu.below hb⟩
theorem total_take {ls : List (List Ent)} {k : Nat} (hk : k < ls.length) : (ls.take (k + 1)).flatten = (ls.take k).flatten ++ ls[k] := by
 rw [List.take_succ_eq_append_getElem hk, List.flatten_append]; simp
theorem total_le (ls : List (List Ent)) (k : Nat) : (ls.take k).flatten.length ≤ ls.flatten.length := by
 have h : ls.flatten = (ls.take k).flatten ++ (ls.drop k).flatten := by rw [← List.flatten_append, List.take_append_drop]
 rw [h, List.length_append]; omega
set_option maxHeartbeats 2000000 in
theorem concat_any (v : Value) (ls : List (List Ent)) (w : World) (hv : Rws w v ls) (ht : ls.flatten.length ≤ 100000) (hl : ls.length ≤ 1000) :
 Calls Tryz.prog 114 #[v] w fun e w' => ∃ v', e = .returned v' ∧ Owe w' w.heap.size v' ls.flatten ∧ Below w.heap.size w w' := by
 obtain ⟨ao, cap, rfl, hc1, hc2, -⟩ := id hv
 obtain ⟨n, hn⟩ : ∃ n, n = ls.length := ⟨_, rfl⟩
 have HN := Lib.hid hn
 have HV := Lib.hid hv
 have HT := Lib.hid ht
 rw [← hn] at hc1 hl HV ⊢
 clear hv hn ht
 go_enter Tryz.func114, Tryz.ntmps114
 go_wp2_with fail
 go_loopw [3, 11] (fun s i wr => ∃ (k m : Nat), k ≤ n ∧ i = .int .i64 k ∧ s = .int .i64 m ∧ m = (ls.take k).flatten.length ∧ wr = w) (fun _ i _ => n - (intOf i).toNat)
 case atStart => exact ⟨0, 0, Nat.zero_le _, rfl, rfl, by simp, rfl⟩
 case round =>
  obtain ⟨k, m, hk, rfl, rfl, hm, hw⟩ := hrel
  replace hw := hw.symm
  subst hw
  have hm1 : m ≤ 100000 := by rw [hm]; exact Nat.le_trans (total_le _ _) HT.out
  have HM := Lib.hid hm
  clear hm
  by_cases hlt : k < n
  ·have hkl : k < ls.length := by rw [← HN.out]; exact hlt
   obtain ⟨ao', cap', hsl, -, -, hE⟩ := HV.out
   rw [← HN.out] at hsl
   simp only [Value.slice.injEq, true_and] at hsl
   obtain ⟨rfl, rfl⟩ := hsl
   obtain ⟨b, off, rfl, -, u, c, hu⟩ := hE k hkl
   obtain ⟨bo, bc, rfl, hb1, hb2⟩ := hu.form
   obtain ⟨q, hq⟩ : ∃ q, q = ls[k].length := ⟨_, rfl⟩
   rw [← hq] at c hb1
   have hnx : m + q = (ls.take (k + 1)).flatten.length := by rw [total_take hkl, List.length_append, HM.out, hq]
   have hq1 : m + q ≤ 100000 := by rw [hnx]; exact Nat.le_trans (total_le _ _) HT.out
   have HNX := Lib.hid hnx
   have hlt' : (k : Int) < n := by omega
   clear hE hu hq hnx
   go_wp2_with fail
   go_roundw
   case rel => exact ⟨k + 1, m + q, by omega, by go_num, by go_num, HNX.out, trivial⟩
   case measure => simp [intOf]; omega
  ·obtain rfl : n = k := by omega
   have hge : ¬ ((m : Int) < 0) := by omega
   go_wp2_with fail
   refine (grow_any m hm1 _).mono ?_
   rintro e w1 ⟨v1, rfl, ho1, hb1⟩
   obtain ⟨ao1, cap1, rfl, -⟩ := ho1.form
   have HO1 := Lib.hid ho1
   have HB1 := Lib.hid hb1
   clear ho1 hb1
   go_wp2_with fail
   go_loopw [6, 27] (fun v6 i wr' => ∃ (k q : Nat) (ao6 : Option Addr) (cap6 : Nat), k ≤ n ∧ i = .int .i64 k ∧ v6 = .slice ao6 q cap6 ∧ q = (ls.take k).flatten.length ∧ q ≤ cap6 ∧ cap6 ≤ 9223372036854775807 ∧ Owe wr' w.heap.size v6 (ls.take k).flatten ∧ Below w.heap.size w wr') (fun _ i _ => n - (intOf i).toNat)
   case atStart =>
    obtain ⟨aox, capx, hslx, hx1, hx2⟩ := HO1.out.form
    simp only [Value.slice.injEq] at hslx
    obtain ⟨rfl, -, rfl⟩ := hslx
    exact ⟨0, 0, _, _, Nat.zero_le _, rfl, rfl, by simp, Nat.zero_le _, hx2, by simpa using HO1.out, HB1.out⟩
   case round =>
    obtain ⟨k, q, ao6, cap6, hk6, rfl, rfl, hq6, hc61, hc62, ho6, hb6⟩ := hrel
    have HQ6 := Lib.hid hq6
    have HO6 := Lib.hid ho6
    have HB6 := Lib.hid hb6
    clear hq6 ho6 hb6
    by_cases hlt : k < n
    ·have hkl : k < ls.length := by rw [← HN.out]; exact hlt
     obtain ⟨ao', cap', hsl, -, -, hE⟩ := HV.out.below HB6.out
     rw [← HN.out] at hsl
     simp only [Value.slice.injEq, true_and] at hsl
     obtain ⟨rfl, rfl⟩ := hsl
     obtain ⟨b, off, rfl, -, u, c, hu⟩ := hE k hkl
     obtain ⟨bo, bc, rfl, -⟩ := hu.form
     have hnx : q + ls[k].length = ((ls.take k).flatten ++ ls[k]).length := by rw [List.length_append, HQ6.out]
     have hq1 : q + ls[k].length ≤ 1000000 := by
      have e1 := total_take hkl
      have e2 := total_le ls (k + 1)
      rw [e1, ← hnx] at e2
      have := HT.out
      omega
     have HNX := Lib.hid hnx
     have HQ1 := Lib.hid hq1
     have HU := Lib.hid hu
     have HTT := Lib.hid (total_take hkl)
     have HS6 := Lib.hid HB6.out.size
     obtain ⟨lk, hlk⟩ : ∃ lk, lk = ls[k] := ⟨_, rfl⟩
     rw [← hlk] at c HNX HQ1 HU HTT
     obtain ⟨nk, hnk⟩ : ∃ nk, nk = lk.length := ⟨_, rfl⟩
     rw [← hnk] at c HNX HQ1 HU
     have hlt' : (k : Int) < n := by omega
     clear hE hu hnx hq1 hlk hnk
     go_wp2_with (first | (with_reducible refine wpList_append_ens rfl _ _ rfl w.heap.size HS6.out (.slice ao6 q cap6) (ls.take k).flatten rfl HO6.out (.slice bo nk bc) lk rfl HU.out (q + nk) HNX.out HQ1.out ?_; intro ao7 cap7 w7 ho7 hg7) | fail)
     obtain ⟨aox, capx, hslx, hx1, hx2⟩ := ho7.form
     simp only [Value.slice.injEq] at hslx
     obtain ⟨rfl, -, rfl⟩ := hslx
     have HB7 := Lib.hid (HB6.out.grown hg7 HB6.out.size (fun q hq => (HO6.out.lt q hq).1))
     have HO7 := Lib.hid ho7
     clear ho7 hg7
     go_roundw
     case rel => exact ⟨k + 1, q + nk, _, _, by omega, by go_num, by rfl, by rw [HTT.out]; exact HNX.out, by rw [HNX.out]; exact hx1, hx2, by rw [HTT.out]; exact HO7.out, HB7.out⟩
     case measure => simp [intOf]; omega
    ·obtain rfl : n = k := by omega
     have he : ls.take n = ls := by rw [HN.out, List.take_length]
     have ho := HO6.out
     rw [he] at ho
     have HO := Lib.hid ho
     clear he ho
     go_wp2_with fail
     go_ret
     exact ⟨_, rfl, HO.out, HB6.out⟩
end Go.Proofs.YtbpdapcmaioeiaaGreat
namespace Go.Proofs.YtbpdapcmaioeiaaGreat
open Go.RowKit Go.Maps
set_option maxRecDepth 100000
set_option linter.unusedVariables false
set_option maxHeartbeats 2000000 in
theorem put_any (b o : Nat) (fr to : Nat) (v lv : Value) (es l : List Ent) (w : World) (hc : w.cell? ⟨b, o + 2, none⟩ = some v) (hf : w.frozen? ⟨b, o + 2, none⟩ = false) (hes : Ens w v es) (hl : Ens w lv l) (h1 : fr ≤ es.length) (h2 : to ≤ es.length) (h3 : es.length ≤ 10000) (h4 : l.length ≤ 10000) :
 Calls Tryz.prog 74 #[.pointer (some ⟨b, o, none⟩), .int .i64 fr, .int .i64 to, lv] w fun e w' => e = .returned (.tuple #[]) ∧ ∃ v' w3, w' = w3.setCell ⟨b, o + 2, none⟩ v' ∧ Below w.heap.size w w3 ∧ Owe w3 w.heap.size v' (es.take fr ++ l ++ es.drop to) := by
 obtain ⟨ao, cap, rfl, hc1, hc2⟩ := hes.form
 obtain ⟨lo, lc, rfl, hd1, hd2⟩ := hl.form
 obtain ⟨n, hn⟩ : ∃ n, n = es.length := ⟨_, rfl⟩
 obtain ⟨m, hm⟩ : ∃ m, m = l.length := ⟨_, rfl⟩
 have hlt := World.block_lt_of_cell? w _ hc
 have hta := hes.takes fr h1
 have htd := hes.drops to h2
 rw [← hn] at hc hc1 h1 h2 h3 htd
 rw [← hm] at hd1 h4 ⊢
 have HC := Lib.hid hc
 have HF := Lib.hid hf
 have HN := Lib.hid hn
 have HM := Lib.hid hm
 rw [← hm] at hl
 have HL := Lib.hid hl
 have HTA := Lib.hid hta
 have HTD := Lib.hid htd
 have HLT := Lib.hid hlt
 have htot : [es.take fr, l, es.drop to].flatten.length ≤ 100000 := by
  simp only [List.flatten_cons, List.flatten_nil, List.append_nil, List.length_append, List.length_take, List.length_drop]
  omega
 have HTOT := Lib.hid htot
 have i1 : (fr : Int) ≤ n := by omega
 have i2 : (to : Int) ≤ n := by omega
 have i3 : (n : Int) ≤ cap := by omega
 have i4 : ¬ cap < fr := by omega
 have i5 : ¬ ((cap : Int) < fr) := by omega
 clear hes hl hn hm hta htd hc hf hlt htot
 go_enter Tryz.func74, Tryz.ntmps74
 have c0 := HC.out
 go_wp2_with fail
 refine wp_region_any (by kernel_rfl) ?_
 change wpAny _ _ _ _ _ _ _ (World.drew _)
 refine wpAny_of_held (S := fun (w' : World) => w.heap.size ≤ w'.heap.size) _ _ _ _ ?_
 have hS : (fun (w' : World) => w.heap.size ≤ w'.heap.size) _ := (show w.heap.size ≤ w.drew.heap.size from Nat.le_refl _)
 try simp only [Act.put, List.setIfInBounds_toArray, List.set_cons_zero, List.set_cons_succ]
 refine wpAnyH_take (i := 0) (oi := ⟨some 8, _, _, _, _, _⟩) (v := ?_) rfl (by kernel_rfl) (by kernel_rfl) (by kernel_rfl) (fun _ _ _ h => h) (Or.inl ⟨by simp only [Region.wanted], ?_⟩) hS ?_
 rotate_left
 ·intro wz hSw
  clear hSw
  go_simp
  first | done | with_reducible rfl
 try simp only [Act.put, List.setIfInBounds_toArray, List.set_cons_zero, List.set_cons_succ]
 refine wpAnyH_take (i := 1) (oi := ⟨some 9, _, _, _, _, _⟩) (v := ?_) rfl (by kernel_rfl) (by kernel_rfl) (by kernel_rfl) (fun _ _ _ h => h) (Or.inl ⟨by simp only [Region.wanted], ?_⟩) hS ?_
 rotate_left
 ·intro wz hSw
  clear hSw
  go_simp
  first | done | with_reducible rfl
 try simp only [Act.put, List.setIfInBounds_toArray, List.set_cons_zero, List.set_cons_succ]
 refine wpAnyH_take (i := 2) (oi := ⟨some 10, _, _, _, _, _⟩) (v := ?_) rfl (by kernel_rfl) (by kernel_rfl) (by kernel_rfl) (fun _ _ _ h => h) (Or.inl ⟨by simp only [Region.wanted], ?_⟩) hS ?_
 rotate_left
 ·intro wz hSw
  clear hSw
  go_simp
  first | done | with_reducible rfl
 try simp only [Act.put, List.setIfInBounds_toArray, List.set_cons_zero, List.set_cons_succ]
 refine wpAnyH_take (i := 3) (oi := ⟨some 11, _, _, _, _, _⟩) (v := ?_) rfl (by kernel_rfl) (by kernel_rfl) (by kernel_rfl) (fun _ _ _ h => h) (Or.inl ⟨by simp only [Region.wanted], ?_⟩) hS ?_
 rotate_left
 ·intro wz hSw
  clear hSw
  go_simp
  first | done | with_reducible rfl
 try simp only [Act.put, List.setIfInBounds_toArray, List.set_cons_zero, List.set_cons_succ]
 refine wpAnyH_take (i := 5) (oi := ⟨some 13, _, _, _, _, _⟩) (v := ?_) rfl (by kernel_rfl) (by kernel_rfl) (by kernel_rfl) (fun _ _ _ h => h) (Or.inl ⟨by simp only [Region.wanted], ?_⟩) hS ?_
 rotate_left
 ·intro wz hSw
  clear hSw
  go_simp
  first | done | with_reducible rfl
 try simp only [Act.put, List.setIfInBounds_toArray, List.set_cons_zero, List.set_cons_succ]
 refine wpAnyH_take (i := 7) (oi := ⟨some 15, _, _, _, _, _⟩) (v := ?_) rfl (by kernel_rfl) (by kernel_rfl) (by kernel_rfl) (fun _ _ _ h => h) (Or.inl ⟨by simp only [Region.wanted], ?_⟩) hS ?_
 rotate_left
 ·intro wz hSw
  clear hSw
  go_simp
  first | done | with_reducible rfl
 try simp only [Act.put, List.setIfInBounds_toArray, List.set_cons_zero, List.set_cons_succ]
 refine wpAnyH_take (i := 8) (oi := ⟨some 16, _, _, _, _, _⟩) (v := ?_) rfl (by kernel_rfl) (by kernel_rfl) (by kernel_rfl) (fun _ _ _ h => h) (Or.inl ⟨by simp only [Region.wanted], ?_⟩) hS ?_
 rotate_left
 ·intro wz hSw
  clear hSw
  go_simp
  first | done | with_reducible rfl
 try simp only [Act.put, List.setIfInBounds_toArray, List.set_cons_zero, List.set_cons_succ]
 refine wpAnyH_take (i := 9) (oi := ⟨some 17, _, _, _, _, _⟩) (v := ?_) rfl (by kernel_rfl) (by kernel_rfl) (by kernel_rfl) (fun _ _ _ h => h) (Or.inl ⟨by simp only [Region.wanted], ?_⟩) hS ?_
 rotate_left
 ·intro wz hSw
  clear hSw
  go_simp
  first | done | with_reducible rfl
 try simp only [Act.put, List.setIfInBounds_toArray, List.set_cons_zero, List.set_cons_succ]
 refine wpAnyH_take (i := 10) (oi := ⟨some 18, _, _, _, _, _⟩) (v := ?_) rfl (by kernel_rfl) (by kernel_rfl) (by kernel_rfl) (fun _ _ _ h => h) (Or.inl ⟨by simp only [Region.wanted], ?_⟩) hS ?_
 rotate_left
 ·intro wz hSw
  clear hSw
  go_simp
  first | done | with_reducible rfl
 try simp only [Act.put, List.setIfInBounds_toArray, List.set_cons_zero, List.set_cons_succ]
 refine wpAnyH_take (i := 12) (oi := ⟨some 20, _, _, _, _, _⟩) (v := ?_) rfl (by kernel_rfl) (by kernel_rfl) (by kernel_rfl) (fun _ _ _ h => h) (Or.inl ⟨by simp only [Region.wanted], ?_⟩) hS ?_
 rotate_left
 ·intro wz hSw
  clear hSw
  go_simp
  first | done | with_reducible rfl
 try simp only [Act.put, List.setIfInBounds_toArray, List.set_cons_zero, List.set_cons_succ]
 refine wpAnyH_ready (rs := [4, 11]) (by kernel_rfl) (by simp) ?_
 refine AllReadyH.cons (o := ⟨some 12, _, _, _, _, _⟩) rfl (fun K hK => ?_) (AllReadyH.cons (o := ⟨some 19, _, _, _, _, _⟩) rfl (fun K hK => ?_) AllReadyH.nil)
 ·go_simp
  refine hK.out _ _ (Nat.le_refl _) (fun hS => ?_)
  clear hK K
  try simp only [Act.put, List.setIfInBounds_toArray, List.set_cons_zero, List.set_cons_succ]
  refine wpAnyH_take (i := 6) (oi := ⟨some 14, _, _, _, _, _⟩) (v := .slice ao fr cap) rfl (by kernel_rfl) (by kernel_rfl) (by kernel_rfl) (fun _ _ _ h => h) (Or.inl ⟨by simp only [Region.wanted], ?_⟩) hS ?_
  ·intro wz hSw
   clear hSw
   go_simp
   first | done | with_reducible rfl
  try simp only [Act.put, List.setIfInBounds_toArray, List.set_cons_zero, List.set_cons_succ]
  refine wpAnyH_ready (rs := [11]) (by kernel_rfl) (by simp) ?_
  refine AllReadyH.cons (o := ⟨some 19, _, _, _, _, _⟩) rfl (fun K hK => ?_) AllReadyH.nil
  go_simp
  refine hK.out _ _ (Nat.le_refl _) (fun hS => ?_)
  clear hK K
  try simp only [Act.put, List.setIfInBounds_toArray, List.set_cons_zero, List.set_cons_succ]
  refine wpAnyH_take (i := 13) (oi := ⟨some 21, _, _, _, _, _⟩) (v := ?_) rfl (by kernel_rfl) (by kernel_rfl) (by kernel_rfl) (fun _ _ _ h => h) (Or.inl ⟨by simp only [Region.wanted], ?_⟩) hS ?_
  rotate_left
  ·intro wz hSw
   clear hSw
   go_simp
   first | done | with_reducible rfl
  try simp only [Act.put, List.setIfInBounds_toArray, List.set_cons_zero, List.set_cons_succ]
  refine wpAnyH_ready (rs := [14]) (by kernel_rfl) (by simp) ?_
  refine AllReadyH.cons (o := ⟨some 22, _, _, _, _, _⟩) rfl (fun K hK => ?_) AllReadyH.nil
  go_simp
  have hal := Lib.hid ((Below.refl w.heap.size w).drew.alloc (Nat.le_refl _) (.cells #[.slice ao fr cap, .slice lo m lc, .slice (if cap = to then ao else Option.map (fun x => x.add (to * 3)) ao) (n - to) (cap - to)] 132))
  have HBK := Lib.hid (show Blk _ w.heap.size _ _ from Blk.new w.drew #[.slice ao fr cap, .slice lo m lc, .slice (if cap = to then ao else Option.map (fun x => x.add (to * 3)) ao) (n - to) (cap - to)] 132)
  refine hK.out _ _ (hal.out.size) (fun hS => ?_)
  clear hK K
  try simp only [Act.put, List.setIfInBounds_toArray, List.set_cons_zero, List.set_cons_succ]
  have hrws : Rws (w.drew.alloc (.cells #[.slice ao fr cap, .slice lo m lc, .slice (if cap = to then ao else Option.map (fun x => x.add (to * 3)) ao) (n - to) (cap - to)] 132)) (.slice (some ⟨w.heap.size, 0, none⟩) 3 3) [es.take fr, l, es.drop to] := by
   refine ⟨_, 3, rfl, Nat.le_refl _, by decide, fun k hk => ⟨w.heap.size, 0, rfl, HBK.out.lt, ?_⟩⟩
   have hk3 : k < 3 := hk
   rcases (show k = 0 ∨ k = 1 ∨ k = 2 by omega) with rfl | rfl | rfl
   ·exact ⟨_, by rw [HBK.out.cell]; rfl, HTA.out.below hal.out⟩
   ·exact ⟨_, by rw [HBK.out.cell]; rfl, HL.out.below hal.out⟩
   ·exact ⟨_, by rw [HBK.out.cell]; rfl, HTD.out.below hal.out⟩
  have HRWS := Lib.hid hrws
  clear hrws
  refine wpAnyH_ready (rs := [15]) (by kernel_rfl) (by simp) ?_
  refine AllReadyH.cons (o := ⟨some 23, _, _, _, _, _⟩) rfl (fun K hK => ?_) AllReadyH.nil
  go_simp
  refine (concat_any _ [es.take fr, l, es.drop to] _ ?hrw ?htot (show 3 ≤ 1000 by decide)).mono ?_
  case hrw => exact HRWS.out
  case htot => exact HTOT.out
  rintro en w4 ⟨v4, rfl, ho4, hb4⟩
  obtain ⟨ao4, cap4, rfl, -⟩ := ho4.form
  have HO4 := Lib.hid ho4
  have HB4 := Lib.hid (hal.out.trans (hb4.mono hal.out.size))
  have c4 : w4.cell? ⟨b, o + 2, none⟩ = some (.slice ao n cap) := (HB4.out.cell (show (⟨b, o + 2, none⟩ : Addr).block < _ from HLT.out)).trans HC.out
  have f4 : w4.frozen? ⟨b, o + 2, none⟩ = false := (World.frozen?_of_block (HB4.out.block b HLT.out)).trans HF.out
  clear ho4 hb4
  refine hK.out _ _ (HB4.out.size) (fun hS => ?_)
  clear hK K
  try simp only [Act.put, List.setIfInBounds_toArray, List.set_cons_zero, List.set_cons_succ]
  refine wpAnyH_take (i := 16) (oi := ⟨some 24, _, _, _, _, _⟩) (v := ?_) rfl (by kernel_rfl) (by kernel_rfl) (by kernel_rfl) (fun _ _ _ h => h) (Or.inl ⟨by simp only [Region.wanted], ?_⟩) hS ?_
  rotate_left
  ·intro wz hSw
   clear hSw
   go_simp
   first | done | with_reducible rfl
  try simp only [Act.put, List.setIfInBounds_toArray, List.set_cons_zero, List.set_cons_succ]
  refine wpAnyH_take (i := 17) (oi := ⟨some 25, _, _, _, _, _⟩) (v := ?_) rfl (by kernel_rfl) (by kernel_rfl) (by kernel_rfl) (fun _ _ _ h => h) (Or.inl ⟨by simp only [Region.wanted], ?_⟩) hS ?_
  rotate_left
  ·intro wz hSw
   clear hSw
   go_simp
   first | done | with_reducible rfl
  try simp only [Act.put, List.setIfInBounds_toArray, List.set_cons_zero, List.set_cons_succ]
  refine wpAnyH_ready (rs := [18]) (by kernel_rfl) (by simp) ?_
  refine AllReadyH.cons (o := ⟨none, _, _, _, _, _⟩) rfl (fun K hK => ?_) AllReadyH.nil
  go_simp
  refine hK.out _ _ (by have := HB4.out.size; simpa using this) (fun hS => ?_)
  clear hK K
  try simp only [Act.put, List.setIfInBounds_toArray, List.set_cons_zero, List.set_cons_succ]
  refine wpAnyH_done (by kernel_rfl) ?_ _
  clear hS
  go_wp2_with fail
  all_goals
   go_end0
   exact ⟨rfl, _, w4, rfl, HB4.out, by have := HO4.out.mono hal.out.size; simpa using this⟩
 ·go_simp
  refine hK.out _ _ (Nat.le_refl _) (fun hS => ?_)
  clear hK K
  try simp only [Act.put, List.setIfInBounds_toArray, List.set_cons_zero, List.set_cons_succ]
  refine wpAnyH_take (i := 13) (oi := ⟨some 21, _, _, _, _, _⟩) (v := ?_) rfl (by kernel_rfl) (by kernel_rfl) (by kernel_rfl) (fun _ _ _ h => h) (Or.inl ⟨by simp only [Region.wanted], ?_⟩) hS ?_
  rotate_left
  ·intro wz hSw
   clear hSw
   go_simp
   first | done | with_reducible rfl
  try simp only [Act.put, List.setIfInBounds_toArray, List.set_cons_zero, List.set_cons_succ]
  refine wpAnyH_ready (rs := [4]) (by kernel_rfl) (by simp) ?_
  refine AllReadyH.cons (o := ⟨some 12, _, _, _, _, _⟩) rfl (fun K hK => ?_) AllReadyH.nil
  go_simp
  refine hK.out _ _ (Nat.le_refl _) (fun hS => ?_)
  clear hK K
  try simp only [Act.put, List.setIfInBounds_toArray, List.set_cons_zero, List.set_cons_succ]
  refine wpAnyH_take (i := 6) (oi := ⟨some 14, _, _, _, _, _⟩) (v := .slice ao fr cap) rfl (by kernel_rfl) (by kernel_rfl) (by kernel_rfl) (fun _ _ _ h => h) (Or.inl ⟨by simp only [Region.wanted], ?_⟩) hS ?_
  ·intro wz hSw
   clear hSw
   go_simp
   first | done | with_reducible rfl
  try simp only [Act.put, List.setIfInBounds_toArray, List.set_cons_zero, List.set_cons_succ]
  refine wpAnyH_ready (rs := [14]) (by kernel_rfl) (by simp) ?_
  refine AllReadyH.cons (o := ⟨some 22, _, _, _, _, _⟩) rfl (fun K hK => ?_) AllReadyH.nil
  go_simp
  have hal := Lib.hid ((Below.refl w.heap.size w).drew.alloc (Nat.le_refl _) (.cells #[.slice ao fr cap, .slice lo m lc, .slice (if cap = to then ao else Option.map (fun x => x.add (to * 3)) ao) (n - to) (cap - to)] 132))
  have HBK := Lib.hid (show Blk _ w.heap.size _ _ from Blk.new w.drew #[.slice ao fr cap, .slice lo m lc, .slice (if cap = to then ao else Option.map (fun x => x.add (to * 3)) ao) (n - to) (cap - to)] 132)
  refine hK.out _ _ (hal.out.size) (fun hS => ?_)
  clear hK K
  try simp only [Act.put, List.setIfInBounds_toArray, List.set_cons_zero, List.set_cons_succ]
  have hrws : Rws (w.drew.alloc (.cells #[.slice ao fr cap, .slice lo m lc, .slice (if cap = to then ao else Option.map (fun x => x.add (to * 3)) ao) (n - to) (cap - to)] 132)) (.slice (some ⟨w.heap.size, 0, none⟩) 3 3) [es.take fr, l, es.drop to] := by
   refine ⟨_, 3, rfl, Nat.le_refl _, by decide, fun k hk => ⟨w.heap.size, 0, rfl, HBK.out.lt, ?_⟩⟩
   have hk3 : k < 3 := hk
   rcases (show k = 0 ∨ k = 1 ∨ k = 2 by omega) with rfl | rfl | rfl
   ·exact ⟨_, by rw [HBK.out.cell]; rfl, HTA.out.below hal.out⟩
   ·exact ⟨_, by rw [HBK.out.cell]; rfl, HL.out.below hal.out⟩
   ·exact ⟨_, by rw [HBK.out.cell]; rfl, HTD.out.below hal.out⟩
  have HRWS := Lib.hid hrws
  clear hrws
  refine wpAnyH_ready (rs := [15]) (by kernel_rfl) (by simp) ?_
  refine AllReadyH.cons (o := ⟨some 23, _, _, _, _, _⟩) rfl (fun K hK => ?_) AllReadyH.nil
  go_simp
  refine (concat_any _ [es.take fr, l, es.drop to] _ ?hrw ?htot (show 3 ≤ 1000 by decide)).mono ?_
  case hrw => exact HRWS.out
  case htot => exact HTOT.out
  rintro en w4 ⟨v4, rfl, ho4, hb4⟩
  obtain ⟨ao4, cap4, rfl, -⟩ := ho4.form
  have HO4 := Lib.hid ho4
  have HB4 := Lib.hid (hal.out.trans (hb4.mono hal.out.size))
  have c4 : w4.cell? ⟨b, o + 2, none⟩ = some (.slice ao n cap) := (HB4.out.cell (show (⟨b, o + 2, none⟩ : Addr).block < _ from HLT.out)).trans HC.out
  have f4 : w4.frozen? ⟨b, o + 2, none⟩ = false := (World.frozen?_of_block (HB4.out.block b HLT.out)).trans HF.out
  clear ho4 hb4
  refine hK.out _ _ (HB4.out.size) (fun hS => ?_)
  clear hK K
  try simp only [Act.put, List.setIfInBounds_toArray, List.set_cons_zero, List.set_cons_succ]
  refine wpAnyH_take (i := 16) (oi := ⟨some 24, _, _, _, _, _⟩) (v := ?_) rfl (by kernel_rfl) (by kernel_rfl) (by kernel_rfl) (fun _ _ _ h => h) (Or.inl ⟨by simp only [Region.wanted], ?_⟩) hS ?_
  rotate_left
  ·intro wz hSw
   clear hSw
   go_simp
   first | done | with_reducible rfl
  try simp only [Act.put, List.setIfInBounds_toArray, List.set_cons_zero, List.set_cons_succ]
  refine wpAnyH_take (i := 17) (oi := ⟨some 25, _, _, _, _, _⟩) (v := ?_) rfl (by kernel_rfl) (by kernel_rfl) (by kernel_rfl) (fun _ _ _ h => h) (Or.inl ⟨by simp only [Region.wanted], ?_⟩) hS ?_
  rotate_left
  ·intro wz hSw
   clear hSw
   go_simp
   first | done | with_reducible rfl
  try simp only [Act.put, List.setIfInBounds_toArray, List.set_cons_zero, List.set_cons_succ]
  refine wpAnyH_ready (rs := [18]) (by kernel_rfl) (by simp) ?_
  refine AllReadyH.cons (o := ⟨none, _, _, _, _, _⟩) rfl (fun K hK => ?_) AllReadyH.nil
  go_simp
  refine hK.out _ _ (by have := HB4.out.size; simpa using this) (fun hS => ?_)
  clear hK K
  try simp only [Act.put, List.setIfInBounds_toArray, List.set_cons_zero, List.set_cons_succ]
  refine wpAnyH_done (by kernel_rfl) ?_ _
  clear hS
  go_wp2_with fail
  all_goals
   go_end0
   exact ⟨rfl, _, w4, rfl, HB4.out, by have := HO4.out.mono hal.out.size; simpa using this⟩
end Go.Proofs.YtbpdapcmaioeiaaGreat
