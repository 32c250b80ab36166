/- Re -/
import Derived.Test.YtpfjbcfnpfgidaaGreatKRd
namespace Go.Proofs.YtpfjbcfnpfgidaaGreat
open Go.RowKit Go.Maps
set_option maxRecDepth 100000
set_option linter.unusedVariables false
set_option maxHeartbeats 4000000 in
theorem rdel_none {w0 : World} {D : Nat → Prop} {w : World} {B x : Nat} {kv vv : Value} {K V : List ByteArray} (h : MapAt w0 D w B x kv vv K V) (key : ByteArray) (hl : K.length ≤ 100000) (his : isK key K = false) :
 Calls Tryz.prog 41 #[.pointer (some ⟨x, 0, none⟩), .string key] w fun e w' => e = .returned (.bool false) ∧ Below w.heap.size w w' := by
 have hat := rat_any h key (by omega)
 rw [his] at hat
 generalize posK key K = i at hat
 have HAT := Lib.hid hat
 clear h hat his hl
 go_enter Tryz.func41, Tryz.ntmps41
 go_wp2_with fail
 refine HAT.out.mono ?_
 rintro en w1 ⟨rfl, hb1⟩
 have HB1 := Lib.hid hb1
 clear hb1 HAT
 go_wp2_with fail
 go_ret
 exact ⟨rfl, HB1.out⟩
set_option maxHeartbeats 16000000 in
theorem rdel_there {w0 : World} {D : Nat → Prop} {w : World} {B x : Nat} {kv vv : Value} {K V : List ByteArray} (h : MapAt w0 D w B x kv vv K V) (hDx : D x) (hKV : V.length = K.length) (key : ByteArray) (hl : K.length ≤ 100000) (his : isK key K = true) :
 Calls Tryz.prog 41 #[.pointer (some ⟨x, 0, none⟩), .string key] w fun e w' => e = .returned (.bool true) ∧ ∃ kv' vv', MapAt w0 D w' B x kv' vv' (K.take (posK key K) ++ K.drop (posK key K + 1)) (V.take (posK key K) ++ V.drop (posK key K + 1)) := by
 have hat := rat_any h key (by omega)
 have hlt := isK_lt his
 obtain ⟨i, hi⟩ : ∃ i, i = posK key K := ⟨_, rfl⟩
 rw [← hi, his] at hat
 rw [← hi] at hlt ⊢
 have HAT := Lib.hid hat
 have HX := Lib.hid h
 have HLE := Lib.hid (And.intro hlt (And.intro hKV hl))
 have HDX := Lib.hid hDx
 clear h hi hat hlt his hKV hl hDx
 go_enter Tryz.func41, Tryz.ntmps41
 go_wp2_with fail
 refine HAT.out.mono ?_
 rintro en w1 ⟨rfl, hb1⟩
 have h1 : MapAt w0 D w1 B x kv vv K V := Live.below HX.out hb1
 have h1' := Live.rebase h1
 obtain ⟨ao, cap, e1, k1, k2⟩ := (show OwnS _ _ kv _ from Live.at1 h1).ss.form
 obtain ⟨ao2, cap2, e2, k3, k4⟩ := (show OwnS _ _ vv _ from Live.at2 h1).ss.form
 obtain ⟨hle, hKV, hl⟩ := HLE.out
 obtain ⟨n, hn⟩ : ∃ n, n = K.length := ⟨_, rfl⟩
 rw [hKV] at e2 k3
 rw [← hn] at e1 e2 k1 k3 hle hl hKV
 subst e1 e2
 obtain ⟨d, hd⟩ : ∃ d, d = i + 1 := ⟨_, rfl⟩
 have HDD := Lib.hid hd
 have c0 : w1.cell? ⟨x, 0, none⟩ = some (.slice ao n cap) := by rw [h1.x.1.cell]; rfl
 have c1 : w1.cell? ⟨x, 1, none⟩ = some (.slice ao2 n cap2) := by rw [h1.x.1.cell]; rfl
 have j1 : (i : Int) ≤ cap := by omega
 have j2 : (0 : Int) ≤ i := by omega
 have j3 : (i : Int) ≤ cap2 := by omega
 have j4 : ¬ (i : Int) < 0 := by omega
 have j5 : i ≤ cap := by omega
 have j6 : i ≤ cap2 := by omega
 have j7 : (d : Int) ≤ n := by omega
 have j8 : (n : Int) ≤ cap := by omega
 have j9 : (n : Int) ≤ cap2 := by omega
 have ja : (0 : Int) ≤ d := by omega
 have jb : ¬ (d : Int) < 0 := by omega
 have jc : d ≤ n := by omega
 have je : IntKind.i64.wrap ((i : Int) + 1) = d := by rw [IntWalk.i64_in _ (by omega)]; omega
 have H1 := Lib.hid (show Live w1 _ w1 B [(x, #[.slice ao n cap, .slice ao2 n cap2], 33)] [(.slice ao n cap, K), (.slice ao2 n cap2, V)] from h1')
 have HBK := Lib.hid (show MapAt w0 D w1 B x (.slice ao n cap) (.slice ao2 n cap2) K V from h1)
 have HKT := Lib.hid (show K.take i = K.take i ∧ K.length = n ∧ V.length = n from ⟨rfl, hn.symm, hKV⟩)
 clear h1 h1' hb1 hn HAT HX hKV hd
 go_wp2_with fail
 refine wp_region_any (by kernel_rfl) ?_
 change wpAny _ _ _ _ _ _ _ (World.drew _)
 refine wpAny_of_T (C := fun (w' : World) => w'.cell? ⟨x, 0, none⟩ = some (.slice ao n cap) ∧ w'.cell? ⟨x, 1, none⟩ = some (.slice ao2 n cap2)) (T := [36, 39]) _ _ _ _ ?_
 have hS : (fun (w' : World) => w'.cell? ⟨x, 0, none⟩ = some (.slice ao n cap) ∧ w'.cell? ⟨x, 1, none⟩ = some (.slice ao2 n cap2)) _ := ⟨by rw [((Live.drew H1.out).fix (x, #[.slice ao n cap, .slice ao2 n cap2], 33) (by simp)).1.cell]; rfl, by rw [((Live.drew H1.out).fix (x, #[.slice ao n cap, .slice ao2 n cap2], 33) (by simp)).1.cell]; rfl⟩
 have hL0 := Live.drew H1.out
 generalize World.drew w1 = u0 at hL0 hS ⊢
 try simp only [Act.put, List.setIfInBounds_toArray, List.set_cons_zero, List.set_cons_succ]
 refine wpAnyT_take0 (i := 0) (oi := ⟨some 14, _, _, _, _, _⟩) (v := ?_) rfl (by kernel_rfl) (by kernel_rfl) (by kernel_rfl) (by kernel_rfl) (fun _ _ _ h => h) (Or.inl ⟨by simp only [Region.wanted], ?_⟩) hS ?_
 rotate_left
 ·intro wz hSw
  clear hSw
  go_simp
  first | done | with_reducible rfl
 try simp only [Act.put, List.setIfInBounds_toArray, List.set_cons_zero, List.set_cons_succ]
 refine wpAnyT_take0 (i := 1) (oi := ⟨some 15, _, _, _, _, _⟩) (v := ?_) rfl (by kernel_rfl) (by kernel_rfl) (by kernel_rfl) (by kernel_rfl) (fun _ _ _ h => h) (Or.inl ⟨by simp only [Region.wanted], ?_⟩) hS ?_
 rotate_left
 ·intro wz hSw
  clear hSw
  go_simp
  first | done | with_reducible rfl
 try simp only [Act.put, List.setIfInBounds_toArray, List.set_cons_zero, List.set_cons_succ]
 refine wpAnyT_take (i := 3) (oi := ⟨some 17, _, _, _, _, _⟩) (v := ?_) rfl (by kernel_rfl) (by kernel_rfl) (by kernel_rfl) (by kernel_rfl) (fun _ _ _ h => h) (Or.inl ⟨by simp only [Region.wanted], ?_⟩) hS ?_
 rotate_left
 ·intro wz hSw
  clear hSw
  go_simp
  first | done | with_reducible rfl
 try simp only [Act.put, List.setIfInBounds_toArray, List.set_cons_zero, List.set_cons_succ]
 refine wpAnyT_take (i := 4) (oi := ⟨some 18, _, _, _, _, _⟩) (v := ?_) rfl (by kernel_rfl) (by kernel_rfl) (by kernel_rfl) (by kernel_rfl) (fun _ _ _ h => h) (Or.inl ⟨by simp only [Region.wanted], ?_⟩) hS ?_
 rotate_left
 ·intro wz hSw
  clear hSw
  go_simp
  first | done | with_reducible rfl
 try simp only [Act.put, List.setIfInBounds_toArray, List.set_cons_zero, List.set_cons_succ]
 refine wpAnyT_take (i := 5) (oi := ⟨some 19, _, _, _, _, _⟩) (v := ?_) rfl (by kernel_rfl) (by kernel_rfl) (by kernel_rfl) (by kernel_rfl) (fun _ _ _ h => h) (Or.inl ⟨by simp only [Region.wanted], ?_⟩) hS ?_
 rotate_left
 ·intro wz hSw
  clear hSw
  go_simp
  first | done | with_reducible rfl
 try simp only [Act.put, List.setIfInBounds_toArray, List.set_cons_zero, List.set_cons_succ]
 refine wpAnyT_take (i := 6) (oi := ⟨some 20, _, _, _, _, _⟩) (v := ?_) rfl (by kernel_rfl) (by kernel_rfl) (by kernel_rfl) (by kernel_rfl) (fun _ _ _ h => h) (Or.inl ⟨by simp only [Region.wanted], ?_⟩) hS ?_
 rotate_left
 ·intro wz hSw
  (try dsimp only at hSw)
  (try go_split_ands)
  go_simp
  first | done | with_reducible rfl
 try simp only [Act.put, List.setIfInBounds_toArray, List.set_cons_zero, List.set_cons_succ]
 refine wpAnyT_take (i := 7) (oi := ⟨some 21, _, _, _, _, _⟩) (v := ?_) rfl (by kernel_rfl) (by kernel_rfl) (by kernel_rfl) (by kernel_rfl) (fun _ _ _ h => h) (Or.inl ⟨by simp only [Region.wanted], ?_⟩) hS ?_
 rotate_left
 ·intro wz hSw
  clear hSw
  go_simp
  first | done | with_reducible rfl
 try simp only [Act.put, List.setIfInBounds_toArray, List.set_cons_zero, List.set_cons_succ]
 refine wpAnyT_take (i := 8) (oi := ⟨some 22, _, _, _, _, _⟩) (v := ?_) rfl (by kernel_rfl) (by kernel_rfl) (by kernel_rfl) (by kernel_rfl) (fun _ _ _ h => h) (Or.inl ⟨by simp only [Region.wanted], ?_⟩) hS ?_
 rotate_left
 ·intro wz hSw
  clear hSw
  go_simp
  first | done | with_reducible rfl
 try simp only [Act.put, List.setIfInBounds_toArray, List.set_cons_zero, List.set_cons_succ]
 refine wpAnyT_take (i := 10) (oi := ⟨some 24, _, _, _, _, _⟩) (v := ?_) rfl (by kernel_rfl) (by kernel_rfl) (by kernel_rfl) (by kernel_rfl) (fun _ _ _ h => h) (Or.inl ⟨by simp only [Region.wanted], ?_⟩) hS ?_
 rotate_left
 ·intro wz hSw
  clear hSw
  go_simp
  first | done | with_reducible rfl
 try simp only [Act.put, List.setIfInBounds_toArray, List.set_cons_zero, List.set_cons_succ]
 refine wpAnyT_take (i := 11) (oi := ⟨some 25, _, _, _, _, _⟩) (v := ?_) rfl (by kernel_rfl) (by kernel_rfl) (by kernel_rfl) (by kernel_rfl) (fun _ _ _ h => h) (Or.inl ⟨by simp only [Region.wanted], ?_⟩) hS ?_
 rotate_left
 ·intro wz hSw
  clear hSw
  go_simp
  first | done | with_reducible rfl
 try simp only [Act.put, List.setIfInBounds_toArray, List.set_cons_zero, List.set_cons_succ]
 refine wpAnyT_take (i := 12) (oi := ⟨some 26, _, _, _, _, _⟩) (v := ?_) rfl (by kernel_rfl) (by kernel_rfl) (by kernel_rfl) (by kernel_rfl) (fun _ _ _ h => h) (Or.inl ⟨by simp only [Region.wanted], ?_⟩) hS ?_
 rotate_left
 ·intro wz hSw
  clear hSw
  go_simp
  first | done | with_reducible rfl
 try simp only [Act.put, List.setIfInBounds_toArray, List.set_cons_zero, List.set_cons_succ]
 refine wpAnyT_take (i := 13) (oi := ⟨some 27, _, _, _, _, _⟩) (v := ?_) rfl (by kernel_rfl) (by kernel_rfl) (by kernel_rfl) (by kernel_rfl) (fun _ _ _ h => h) (Or.inl ⟨by simp only [Region.wanted], ?_⟩) hS ?_
 rotate_left
 ·intro wz hSw
  (try dsimp only at hSw)
  (try go_split_ands)
  go_simp
  first | done | with_reducible rfl
 try simp only [Act.put, List.setIfInBounds_toArray, List.set_cons_zero, List.set_cons_succ]
 refine wpAnyT_take (i := 14) (oi := ⟨some 28, _, _, _, _, _⟩) (v := ?_) rfl (by kernel_rfl) (by kernel_rfl) (by kernel_rfl) (by kernel_rfl) (fun _ _ _ h => h) (Or.inl ⟨by simp only [Region.wanted], ?_⟩) hS ?_
 rotate_left
 ·intro wz hSw
  clear hSw
  go_simp
  first | done | with_reducible rfl
 try simp only [Act.put, List.setIfInBounds_toArray, List.set_cons_zero, List.set_cons_succ]
 refine wpAnyT_take (i := 15) (oi := ⟨some 29, _, _, _, _, _⟩) (v := ?_) rfl (by kernel_rfl) (by kernel_rfl) (by kernel_rfl) (by kernel_rfl) (fun _ _ _ h => h) (Or.inl ⟨by simp only [Region.wanted], ?_⟩) hS ?_
 rotate_left
 ·intro wz hSw
  clear hSw
  go_simp
  first | done | with_reducible rfl
 try simp only [Act.put, List.setIfInBounds_toArray, List.set_cons_zero, List.set_cons_succ]
 refine wpAnyT_take (i := 16) (oi := ⟨some 30, _, _, _, _, _⟩) (v := ?_) rfl (by kernel_rfl) (by kernel_rfl) (by kernel_rfl) (by kernel_rfl) (fun _ _ _ h => h) (Or.inl ⟨by simp only [Region.wanted], ?_⟩) hS ?_
 rotate_left
 ·intro wz hSw
  clear hSw
  go_simp
  first | done | with_reducible rfl
 try simp only [Act.put, List.setIfInBounds_toArray, List.set_cons_zero, List.set_cons_succ]
 refine wpAnyT_take (i := 19) (oi := ⟨some 33, _, _, _, _, _⟩) (v := ?_) rfl (by kernel_rfl) (by kernel_rfl) (by kernel_rfl) (by kernel_rfl) (fun _ _ _ h => h) (Or.inl ⟨by simp only [Region.wanted], ?_⟩) hS ?_
 rotate_left
 ·intro wz hSw
  clear hSw
  go_simp
  first | done | with_reducible rfl
 try simp only [Act.put, List.setIfInBounds_toArray, List.set_cons_zero, List.set_cons_succ]
 refine wpAnyT_take (i := 20) (oi := ⟨some 34, _, _, _, _, _⟩) (v := ?_) rfl (by kernel_rfl) (by kernel_rfl) (by kernel_rfl) (by kernel_rfl) (fun _ _ _ h => h) (Or.inl ⟨by simp only [Region.wanted], ?_⟩) hS ?_
 rotate_left
 ·intro wz hSw
  clear hSw
  go_simp
  first | done | with_reducible rfl
 try simp only [Act.put, List.setIfInBounds_toArray, List.set_cons_zero, List.set_cons_succ]
 refine wpAnyT_take (i := 21) (oi := ⟨some 35, _, _, _, _, _⟩) (v := ?_) rfl (by kernel_rfl) (by kernel_rfl) (by kernel_rfl) (by kernel_rfl) (fun _ _ _ h => h) (Or.inl ⟨by simp only [Region.wanted], ?_⟩) hS ?_
 rotate_left
 ·intro wz hSw
  clear hSw
  go_simp
  first | done | with_reducible rfl
 try simp only [Act.put, List.setIfInBounds_toArray, List.set_cons_zero, List.set_cons_succ]
 refine wpAnyT_take (i := 22) (oi := ⟨some 36, _, _, _, _, _⟩) (v := ?_) rfl (by kernel_rfl) (by kernel_rfl) (by kernel_rfl) (by kernel_rfl) (fun _ _ _ h => h) (Or.inl ⟨by simp only [Region.wanted], ?_⟩) hS ?_
 rotate_left
 ·intro wz hSw
  (try dsimp only at hSw)
  (try go_split_ands)
  go_simp
  first | done | with_reducible rfl
 try simp only [Act.put, List.setIfInBounds_toArray, List.set_cons_zero, List.set_cons_succ]
 refine wpAnyT_take (i := 23) (oi := ⟨some 37, _, _, _, _, _⟩) (v := ?_) rfl (by kernel_rfl) (by kernel_rfl) (by kernel_rfl) (by kernel_rfl) (fun _ _ _ h => h) (Or.inl ⟨by simp only [Region.wanted], ?_⟩) hS ?_
 rotate_left
 ·intro wz hSw
  clear hSw
  go_simp
  first | done | with_reducible rfl
 try simp only [Act.put, List.setIfInBounds_toArray, List.set_cons_zero, List.set_cons_succ]
 refine wpAnyT_take (i := 24) (oi := ⟨some 38, _, _, _, _, _⟩) (v := ?_) rfl (by kernel_rfl) (by kernel_rfl) (by kernel_rfl) (by kernel_rfl) (fun _ _ _ h => h) (Or.inl ⟨by simp only [Region.wanted], ?_⟩) hS ?_
 rotate_left
 ·intro wz hSw
  clear hSw
  go_simp
  first | done | with_reducible rfl
 try simp only [Act.put, List.setIfInBounds_toArray, List.set_cons_zero, List.set_cons_succ]
 refine wpAnyT_take (i := 26) (oi := ⟨some 40, _, _, _, _, _⟩) (v := ?_) rfl (by kernel_rfl) (by kernel_rfl) (by kernel_rfl) (by kernel_rfl) (fun _ _ _ h => h) (Or.inl ⟨by simp only [Region.wanted], ?_⟩) hS ?_
 rotate_left
 ·intro wz hSw
  clear hSw
  go_simp
  first | done | with_reducible rfl
 try simp only [Act.put, List.setIfInBounds_toArray, List.set_cons_zero, List.set_cons_succ]
 refine wpAnyT_take (i := 27) (oi := ⟨some 41, _, _, _, _, _⟩) (v := ?_) rfl (by kernel_rfl) (by kernel_rfl) (by kernel_rfl) (by kernel_rfl) (fun _ _ _ h => h) (Or.inl ⟨by simp only [Region.wanted], ?_⟩) hS ?_
 rotate_left
 ·intro wz hSw
  clear hSw
  go_simp
  first | done | with_reducible rfl
 try simp only [Act.put, List.setIfInBounds_toArray, List.set_cons_zero, List.set_cons_succ]
 refine wpAnyT_take (i := 28) (oi := ⟨some 42, _, _, _, _, _⟩) (v := ?_) rfl (by kernel_rfl) (by kernel_rfl) (by kernel_rfl) (by kernel_rfl) (fun _ _ _ h => h) (Or.inl ⟨by simp only [Region.wanted], ?_⟩) hS ?_
 rotate_left
 ·intro wz hSw
  clear hSw
  go_simp
  first | done | with_reducible rfl
 try simp only [Act.put, List.setIfInBounds_toArray, List.set_cons_zero, List.set_cons_succ]
 refine wpAnyT_take (i := 29) (oi := ⟨some 43, _, _, _, _, _⟩) (v := ?_) rfl (by kernel_rfl) (by kernel_rfl) (by kernel_rfl) (by kernel_rfl) (fun _ _ _ h => h) (Or.inl ⟨by simp only [Region.wanted], ?_⟩) hS ?_
 rotate_left
 ·intro wz hSw
  (try dsimp only at hSw)
  (try go_split_ands)
  go_simp
  first | done | with_reducible rfl
 try simp only [Act.put, List.setIfInBounds_toArray, List.set_cons_zero, List.set_cons_succ]
 refine wpAnyT_take (i := 30) (oi := ⟨some 44, _, _, _, _, _⟩) (v := ?_) rfl (by kernel_rfl) (by kernel_rfl) (by kernel_rfl) (by kernel_rfl) (fun _ _ _ h => h) (Or.inl ⟨by simp only [Region.wanted], ?_⟩) hS ?_
 rotate_left
 ·intro wz hSw
  clear hSw
  go_simp
  first | done | with_reducible rfl
 try simp only [Act.put, List.setIfInBounds_toArray, List.set_cons_zero, List.set_cons_succ]
 refine wpAnyT_take (i := 31) (oi := ⟨some 45, _, _, _, _, _⟩) (v := ?_) rfl (by kernel_rfl) (by kernel_rfl) (by kernel_rfl) (by kernel_rfl) (fun _ _ _ h => h) (Or.inl ⟨by simp only [Region.wanted], ?_⟩) hS ?_
 rotate_left
 ·intro wz hSw
  clear hSw
  go_simp
  first | done | with_reducible rfl
 try simp only [Act.put, List.setIfInBounds_toArray, List.set_cons_zero, List.set_cons_succ]
 refine wpAnyT_take (i := 32) (oi := ⟨some 46, _, _, _, _, _⟩) (v := ?_) rfl (by kernel_rfl) (by kernel_rfl) (by kernel_rfl) (by kernel_rfl) (fun _ _ _ h => h) (Or.inl ⟨by simp only [Region.wanted], ?_⟩) hS ?_
 rotate_left
 ·intro wz hSw
  clear hSw
  go_simp
  first | done | with_reducible rfl
 try simp only [Act.put, List.setIfInBounds_toArray, List.set_cons_zero, List.set_cons_succ]
 refine wpAnyT_ready (rs := [2, 18]) (by kernel_rfl) (by simp) ?_
 refine AllReadyT.cons (o := ⟨some 16, _, _, _, _, _⟩) rfl (fun KK hK => ?_) (AllReadyT.cons (o := ⟨some 32, _, _, _, _, _⟩) rfl (fun KK hK => ?_) (AllReadyT.nil))
 ·have hL1 := hL0.empty
  go_simp
  generalize World.alloc u0 _ = u1 at hL1 ⊢
  refine hK.out _ _ (⟨by rw [(hL1.fix (x, #[.slice ao n cap, .slice ao2 n cap2], 33) (by simp)).1.cell]; rfl, by rw [(hL1.fix (x, #[.slice ao n cap, .slice ao2 n cap2], 33) (by simp)).1.cell]; rfl⟩) (fun hS => ?_)
  clear hK KK
  try simp only [Act.put, List.setIfInBounds_toArray, List.set_cons_zero, List.set_cons_succ]
  refine wpAnyT_ready (rs := [9, 18]) (by kernel_rfl) (by simp) ?_
  refine AllReadyT.cons (o := ⟨some 23, _, _, _, _, _⟩) rfl (fun KK hK => ?_) (AllReadyT.cons (o := ⟨some 32, _, _, _, _, _⟩) rfl (fun KK hK => ?_) (AllReadyT.nil))
  ·refine step_append_ss rfl _ _ rfl _ hL1.low (.slice (some ⟨u0.heap.size, 0, none⟩) 0 0) ([]) rfl hL1.at3 (.slice ao i cap) (K.take i) rfl (by have h9 := (hL1.at1).ss; have := Ss.takes (by rw [HKT.out.2.1]; exact h9) i (by rw [HKT.out.2.1]; omega); exact this) (by have e1 := HKT.out.2.1; have e2 := HKT.out.2.2; simp; omega) ?_
   intro ekv2 u2 ho hg hq
   have hL2 := hL1.grow3 _ _ ho hg hq
   clear ho hg hq
   refine hK.out _ _ (⟨by rw [(hL2.fix (x, #[.slice ao n cap, .slice ao2 n cap2], 33) (by simp)).1.cell]; rfl, by rw [(hL2.fix (x, #[.slice ao n cap, .slice ao2 n cap2], 33) (by simp)).1.cell]; rfl⟩) (fun hS => ?_)
   clear hK KK
   try simp only [Act.put, List.setIfInBounds_toArray, List.set_cons_zero, List.set_cons_succ]
   refine wpAnyT_ready (rs := [17, 18]) (by kernel_rfl) (by simp) ?_
   refine AllReadyT.cons (o := ⟨some 31, _, _, _, _, _⟩) rfl (fun KK hK => ?_) (AllReadyT.cons (o := ⟨some 32, _, _, _, _, _⟩) rfl (fun KK hK => ?_) (AllReadyT.nil))
   ·refine step_append_ss rfl _ _ rfl _ hL2.low (ekv2) (([]) ++ (K.take i)) rfl hL2.at3 (.slice (if cap = d then ao else Option.map (fun x => x.add d) ao) (n - d) (cap - d)) (K.drop d) rfl (by have h9 := (hL2.at1).ss; have := Ss.dropsIf (by rw [HKT.out.2.1]; exact h9) d (by rw [HKT.out.2.1]; omega); rw [HKT.out.2.1] at this; exact this) (by have e1 := HKT.out.2.1; have e2 := HKT.out.2.2; simp; omega) ?_
    intro ekv3 u3 ho hg hq
    have hL3 := hL2.grow3 _ _ ho hg hq
    clear ho hg hq
    refine hK.out _ _ (⟨by rw [(hL3.fix (x, #[.slice ao n cap, .slice ao2 n cap2], 33) (by simp)).1.cell]; rfl, by rw [(hL3.fix (x, #[.slice ao n cap, .slice ao2 n cap2], 33) (by simp)).1.cell]; rfl⟩) (fun hS => ?_)
    clear hK KK
    try simp only [Act.put, List.setIfInBounds_toArray, List.set_cons_zero, List.set_cons_succ]
    refine wpAnyT_ready (rs := [18]) (by kernel_rfl) (by simp) ?_
    refine AllReadyT.cons (o := ⟨some 32, _, _, _, _, _⟩) rfl (fun KK hK => ?_) (AllReadyT.nil)
    ·have hL4 := hL3.empty
     go_simp
     generalize World.alloc u3 _ = u4 at hL4 ⊢
     refine hK.out _ _ (⟨by rw [(hL4.fix (x, #[.slice ao n cap, .slice ao2 n cap2], 33) (by simp)).1.cell]; rfl, by rw [(hL4.fix (x, #[.slice ao n cap, .slice ao2 n cap2], 33) (by simp)).1.cell]; rfl⟩) (fun hS => ?_)
     clear hK KK
     try simp only [Act.put, List.setIfInBounds_toArray, List.set_cons_zero, List.set_cons_succ]
     refine wpAnyT_ready (rs := [25]) (by kernel_rfl) (by simp) ?_
     refine AllReadyT.cons (o := ⟨some 39, _, _, _, _, _⟩) rfl (fun KK hK => ?_) (AllReadyT.nil)
     ·refine step_append_ss rfl _ _ rfl _ hL4.low (.slice (some ⟨u3.heap.size, 0, none⟩) 0 0) ([]) rfl hL4.at4 (.slice ao2 i cap2) (V.take i) rfl (by have h9 := (hL4.at2).ss; have := Ss.takes (by rw [HKT.out.2.2]; exact h9) i (by rw [HKT.out.2.2]; omega); exact this) (by have e1 := HKT.out.2.1; have e2 := HKT.out.2.2; simp; omega) ?_
      intro evv5 u5 ho hg hq
      have hL5 := hL4.grow4 _ _ ho hg hq
      clear ho hg hq
      refine hK.out _ _ (⟨by rw [(hL5.fix (x, #[.slice ao n cap, .slice ao2 n cap2], 33) (by simp)).1.cell]; rfl, by rw [(hL5.fix (x, #[.slice ao n cap, .slice ao2 n cap2], 33) (by simp)).1.cell]; rfl⟩) (fun hS => ?_)
      clear hK KK
      try simp only [Act.put, List.setIfInBounds_toArray, List.set_cons_zero, List.set_cons_succ]
      refine wpAnyT_ready (rs := [33]) (by kernel_rfl) (by simp) ?_
      refine AllReadyT.cons (o := ⟨some 47, _, _, _, _, _⟩) rfl (fun KK hK => ?_) (AllReadyT.nil)
      ·refine step_append_ss rfl _ _ rfl _ hL5.low (evv5) (([]) ++ (V.take i)) rfl hL5.at4 (.slice (if cap2 = d then ao2 else Option.map (fun x => x.add d) ao2) (n - d) (cap2 - d)) (V.drop d) rfl (by have h9 := (hL5.at2).ss; have := Ss.dropsIf (by rw [HKT.out.2.2]; exact h9) d (by rw [HKT.out.2.2]; omega); rw [HKT.out.2.2] at this; exact this) (by have e1 := HKT.out.2.1; have e2 := HKT.out.2.2; simp; omega) ?_
       intro evv6 u6 ho hg hq
       have hL6 := hL5.grow4 _ _ ho hg hq
       clear ho hg hq
       refine hK.out _ _ (⟨by rw [(hL6.fix (x, #[.slice ao n cap, .slice ao2 n cap2], 33) (by simp)).1.cell]; rfl, by rw [(hL6.fix (x, #[.slice ao n cap, .slice ao2 n cap2], 33) (by simp)).1.cell]; rfl⟩) (fun hS => ?_)
       clear hK KK
       try simp only [Act.put, List.setIfInBounds_toArray, List.set_cons_zero, List.set_cons_succ]
       refine wpAnyT_take (i := 34) (oi := ⟨some 48, _, _, _, _, _⟩) (v := ?_) rfl (by kernel_rfl) (by kernel_rfl) (by kernel_rfl) (by kernel_rfl) (fun _ _ _ h => h) (Or.inl ⟨by simp only [Region.wanted], ?_⟩) hS ?_
       rotate_left
       ·intro wz hSw
        clear hSw
        go_simp
        first | done | with_reducible rfl
       try simp only [Act.put, List.setIfInBounds_toArray, List.set_cons_zero, List.set_cons_succ]
       refine wpAnyT_take (i := 35) (oi := ⟨some 49, _, _, _, _, _⟩) (v := ?_) rfl (by kernel_rfl) (by kernel_rfl) (by kernel_rfl) (by kernel_rfl) (fun _ _ _ h => h) (Or.inl ⟨by simp only [Region.wanted], ?_⟩) hS ?_
       rotate_left
       ·intro wz hSw
        clear hSw
        go_simp
        first | done | with_reducible rfl
       try simp only [Act.put, List.setIfInBounds_toArray, List.set_cons_zero, List.set_cons_succ]
       have hP : Live w1 _ u6 B [(x, #[.slice ao n cap, .slice ao2 n cap2], 33)] [(.slice ao n cap, K), (.slice ao2 n cap2, V), (ekv3, K.take i ++ K.drop d), (evv6, V.take i ++ V.drop d)] := hL6.perm (List.Perm.refl _)
       obtain ⟨a1, p1, e1, -, -⟩ := (show OwnS _ _ ekv3 _ from hP.at3).ss.form
       obtain ⟨a2, p2, e2, -, -⟩ := (show OwnS _ _ evv6 _ from hP.at4).ss.form
       generalize List.length _ = m1 at e1
       generalize List.length _ = m2 at e2
       clear hL0 hL1 hL2 hL3 hL4 hL5 hL6
       subst e1 e2
       have c0 := hS.1
       have f0 := (hP.fix (x, #[.slice ao n cap, .slice ao2 n cap2], 33) (by simp)).1.frozen 0
       refine wpAnyT_ready (rs := [36]) (by kernel_rfl) (by simp) ?_
       refine AllReadyT.last (o := ⟨none, _, _, _, _, _⟩) rfl (by kernel_rfl) (fun KK hK => ?_) (AllReadyT.nil)
       ·go_simp
        refine hK.out _ _ ?_
        clear hK KK
        try simp only [Act.put, List.setIfInBounds_toArray, List.set_cons_zero, List.set_cons_succ]
        have hv := (hP.fix (x, #[.slice ao n cap, .slice ao2 n cap2], 33) (by simp)).1.set 0 (.slice a1 m1 p1)
        have c1 : (World.setCell u6 ⟨x, 0, none⟩ (.slice a1 m1 p1)).cell? ⟨x, 1, none⟩ = some (.slice ao2 n cap2) := by rw [hv.cell]; rfl
        have f1 := hv.frozen 1
        clear c0 f0 hv
        refine wpAnyT_takeL (i := 37) (oi := ⟨some 50, _, _, _, _, _⟩) (v := ?_) rfl (by kernel_rfl) (by kernel_rfl) (by kernel_rfl) (by kernel_rfl) (fun _ _ _ h => h) (Or.inl ⟨by simp only [Region.wanted], ?_⟩) ?_
        rotate_left
        ·intro wz hSw
         clear hSw
         go_simp
         first | done | with_reducible rfl
        try simp only [Act.put, List.setIfInBounds_toArray, List.set_cons_zero, List.set_cons_succ]
        refine wpAnyT_takeL (i := 38) (oi := ⟨some 51, _, _, _, _, _⟩) (v := ?_) rfl (by kernel_rfl) (by kernel_rfl) (by kernel_rfl) (by kernel_rfl) (fun _ _ _ h => h) (Or.inl ⟨by simp only [Region.wanted], ?_⟩) ?_
        rotate_left
        ·intro wz hSw
         clear hSw
         go_simp
         first | done | with_reducible rfl
        try simp only [Act.put, List.setIfInBounds_toArray, List.set_cons_zero, List.set_cons_succ]
        refine wpAnyT_ready (rs := [39]) (by kernel_rfl) (by simp) ?_
        refine AllReadyT.last (o := ⟨none, _, _, _, _, _⟩) rfl (by kernel_rfl) (fun KK hK => ?_) (AllReadyT.nil)
        ·go_simp
         refine hK.out _ _ ?_
         clear hK KK
         try simp only [Act.put, List.setIfInBounds_toArray, List.set_cons_zero, List.set_cons_succ]
         refine wpAnyT_done (by kernel_rfl) ?_ _
         have HFN := Lib.hid (MapAt.fin HBK.out HDX.out hP (List.Sublist.cons _ (List.Sublist.cons _ (List.Sublist.cons_cons _ (List.Sublist.cons_cons _ (List.nil_sublist _))))))
         clear c1 f1 hS hP je
         generalize (if cap = d then ao else Option.map (fun x => x.add d) ao) = q1
         generalize (if cap2 = d then ao2 else Option.map (fun x => x.add d) ao2) = q2
         go_wp2_with fail
         go_ret
         rw [← HDD.out]
         exact ⟨rfl, _, _, HFN.out⟩
   ·have hL3 := hL2.empty
    go_simp
    generalize World.alloc u2 _ = u3 at hL3 ⊢
    refine hK.out _ _ (⟨by rw [(hL3.fix (x, #[.slice ao n cap, .slice ao2 n cap2], 33) (by simp)).1.cell]; rfl, by rw [(hL3.fix (x, #[.slice ao n cap, .slice ao2 n cap2], 33) (by simp)).1.cell]; rfl⟩) (fun hS => ?_)
    clear hK KK
    try simp only [Act.put, List.setIfInBounds_toArray, List.set_cons_zero, List.set_cons_succ]
    refine wpAnyT_ready (rs := [17]) (by kernel_rfl) (by simp) ?_
    refine AllReadyT.cons (o := ⟨some 31, _, _, _, _, _⟩) rfl (fun KK hK => ?_) (AllReadyT.nil)
    ·refine step_append_ss rfl _ _ rfl _ hL3.low (ekv2) (([]) ++ (K.take i)) rfl hL3.at3 (.slice (if cap = d then ao else Option.map (fun x => x.add d) ao) (n - d) (cap - d)) (K.drop d) rfl (by have h9 := (hL3.at1).ss; have := Ss.dropsIf (by rw [HKT.out.2.1]; exact h9) d (by rw [HKT.out.2.1]; omega); rw [HKT.out.2.1] at this; exact this) (by have e1 := HKT.out.2.1; have e2 := HKT.out.2.2; simp; omega) ?_
     intro ekv4 u4 ho hg hq
     have hL4 := hL3.grow3 _ _ ho hg hq
     clear ho hg hq
     refine hK.out _ _ (⟨by rw [(hL4.fix (x, #[.slice ao n cap, .slice ao2 n cap2], 33) (by simp)).1.cell]; rfl, by rw [(hL4.fix (x, #[.slice ao n cap, .slice ao2 n cap2], 33) (by simp)).1.cell]; rfl⟩) (fun hS => ?_)
     clear hK KK
     try simp only [Act.put, List.setIfInBounds_toArray, List.set_cons_zero, List.set_cons_succ]
     refine wpAnyT_ready (rs := [25]) (by kernel_rfl) (by simp) ?_
     refine AllReadyT.cons (o := ⟨some 39, _, _, _, _, _⟩) rfl (fun KK hK => ?_) (AllReadyT.nil)
     ·refine step_append_ss rfl _ _ rfl _ hL4.low (.slice (some ⟨u2.heap.size, 0, none⟩) 0 0) ([]) rfl hL4.at4 (.slice ao2 i cap2) (V.take i) rfl (by have h9 := (hL4.at2).ss; have := Ss.takes (by rw [HKT.out.2.2]; exact h9) i (by rw [HKT.out.2.2]; omega); exact this) (by have e1 := HKT.out.2.1; have e2 := HKT.out.2.2; simp; omega) ?_
      intro evv5 u5 ho hg hq
      have hL5 := hL4.grow4 _ _ ho hg hq
      clear ho hg hq
      refine hK.out _ _ (⟨by rw [(hL5.fix (x, #[.slice ao n cap, .slice ao2 n cap2], 33) (by simp)).1.cell]; rfl, by rw [(hL5.fix (x, #[.slice ao n cap, .slice ao2 n cap2], 33) (by simp)).1.cell]; rfl⟩) (fun hS => ?_)
      clear hK KK
      try simp only [Act.put, List.setIfInBounds_toArray, List.set_cons_zero, List.set_cons_succ]
      refine wpAnyT_ready (rs := [33]) (by kernel_rfl) (by simp) ?_
      refine AllReadyT.cons (o := ⟨some 47, _, _, _, _, _⟩) rfl (fun KK hK => ?_) (AllReadyT.nil)
      ·refine step_append_ss rfl _ _ rfl _ hL5.low (evv5) (([]) ++ (V.take i)) rfl hL5.at4 (.slice (if cap2 = d then ao2 else Option.map (fun x => x.add d) ao2) (n - d) (cap2 - d)) (V.drop d) rfl (by have h9 := (hL5.at2).ss; have := Ss.dropsIf (by rw [HKT.out.2.2]; exact h9) d (by rw [HKT.out.2.2]; omega); rw [HKT.out.2.2] at this; exact this) (by have e1 := HKT.out.2.1; have e2 := HKT.out.2.2; simp; omega) ?_
       intro evv6 u6 ho hg hq
       have hL6 := hL5.grow4 _ _ ho hg hq
       clear ho hg hq
       refine hK.out _ _ (⟨by rw [(hL6.fix (x, #[.slice ao n cap, .slice ao2 n cap2], 33) (by simp)).1.cell]; rfl, by rw [(hL6.fix (x, #[.slice ao n cap, .slice ao2 n cap2], 33) (by simp)).1.cell]; rfl⟩) (fun hS => ?_)
       clear hK KK
       try simp only [Act.put, List.setIfInBounds_toArray, List.set_cons_zero, List.set_cons_succ]
       refine wpAnyT_take (i := 34) (oi := ⟨some 48, _, _, _, _, _⟩) (v := ?_) rfl (by kernel_rfl) (by kernel_rfl) (by kernel_rfl) (by kernel_rfl) (fun _ _ _ h => h) (Or.inl ⟨by simp only [Region.wanted], ?_⟩) hS ?_
       rotate_left
       ·intro wz hSw
        clear hSw
        go_simp
        first | done | with_reducible rfl
       try simp only [Act.put, List.setIfInBounds_toArray, List.set_cons_zero, List.set_cons_succ]
       refine wpAnyT_take (i := 35) (oi := ⟨some 49, _, _, _, _, _⟩) (v := ?_) rfl (by kernel_rfl) (by kernel_rfl) (by kernel_rfl) (by kernel_rfl) (fun _ _ _ h => h) (Or.inl ⟨by simp only [Region.wanted], ?_⟩) hS ?_
       rotate_left
       ·intro wz hSw
        clear hSw
        go_simp
        first | done | with_reducible rfl
       try simp only [Act.put, List.setIfInBounds_toArray, List.set_cons_zero, List.set_cons_succ]
       have hP : Live w1 _ u6 B [(x, #[.slice ao n cap, .slice ao2 n cap2], 33)] [(.slice ao n cap, K), (.slice ao2 n cap2, V), (ekv4, K.take i ++ K.drop d), (evv6, V.take i ++ V.drop d)] := hL6.perm (List.Perm.refl _)
       obtain ⟨a1, p1, e1, -, -⟩ := (show OwnS _ _ ekv4 _ from hP.at3).ss.form
       obtain ⟨a2, p2, e2, -, -⟩ := (show OwnS _ _ evv6 _ from hP.at4).ss.form
       generalize List.length _ = m1 at e1
       generalize List.length _ = m2 at e2
       clear hL0 hL1 hL2 hL3 hL4 hL5 hL6
       subst e1 e2
       have c0 := hS.1
       have f0 := (hP.fix (x, #[.slice ao n cap, .slice ao2 n cap2], 33) (by simp)).1.frozen 0
       refine wpAnyT_ready (rs := [36]) (by kernel_rfl) (by simp) ?_
       refine AllReadyT.last (o := ⟨none, _, _, _, _, _⟩) rfl (by kernel_rfl) (fun KK hK => ?_) (AllReadyT.nil)
       ·go_simp
        refine hK.out _ _ ?_
        clear hK KK
        try simp only [Act.put, List.setIfInBounds_toArray, List.set_cons_zero, List.set_cons_succ]
        have hv := (hP.fix (x, #[.slice ao n cap, .slice ao2 n cap2], 33) (by simp)).1.set 0 (.slice a1 m1 p1)
        have c1 : (World.setCell u6 ⟨x, 0, none⟩ (.slice a1 m1 p1)).cell? ⟨x, 1, none⟩ = some (.slice ao2 n cap2) := by rw [hv.cell]; rfl
        have f1 := hv.frozen 1
        clear c0 f0 hv
        refine wpAnyT_takeL (i := 37) (oi := ⟨some 50, _, _, _, _, _⟩) (v := ?_) rfl (by kernel_rfl) (by kernel_rfl) (by kernel_rfl) (by kernel_rfl) (fun _ _ _ h => h) (Or.inl ⟨by simp only [Region.wanted], ?_⟩) ?_
        rotate_left
        ·intro wz hSw
         clear hSw
         go_simp
         first | done | with_reducible rfl
        try simp only [Act.put, List.setIfInBounds_toArray, List.set_cons_zero, List.set_cons_succ]
        refine wpAnyT_takeL (i := 38) (oi := ⟨some 51, _, _, _, _, _⟩) (v := ?_) rfl (by kernel_rfl) (by kernel_rfl) (by kernel_rfl) (by kernel_rfl) (fun _ _ _ h => h) (Or.inl ⟨by simp only [Region.wanted], ?_⟩) ?_
        rotate_left
        ·intro wz hSw
         clear hSw
         go_simp
         first | done | with_reducible rfl
        try simp only [Act.put, List.setIfInBounds_toArray, List.set_cons_zero, List.set_cons_succ]
        refine wpAnyT_ready (rs := [39]) (by kernel_rfl) (by simp) ?_
        refine AllReadyT.last (o := ⟨none, _, _, _, _, _⟩) rfl (by kernel_rfl) (fun KK hK => ?_) (AllReadyT.nil)
        ·go_simp
         refine hK.out _ _ ?_
         clear hK KK
         try simp only [Act.put, List.setIfInBounds_toArray, List.set_cons_zero, List.set_cons_succ]
         refine wpAnyT_done (by kernel_rfl) ?_ _
         have HFN := Lib.hid (MapAt.fin HBK.out HDX.out hP (List.Sublist.cons _ (List.Sublist.cons _ (List.Sublist.cons_cons _ (List.Sublist.cons_cons _ (List.nil_sublist _))))))
         clear c1 f1 hS hP je
         generalize (if cap = d then ao else Option.map (fun x => x.add d) ao) = q1
         generalize (if cap2 = d then ao2 else Option.map (fun x => x.add d) ao2) = q2
         go_wp2_with fail
         go_ret
         rw [← HDD.out]
         exact ⟨rfl, _, _, HFN.out⟩
  ·have hL2 := hL1.empty
   go_simp
   generalize World.alloc u1 _ = u2 at hL2 ⊢
   refine hK.out _ _ (⟨by rw [(hL2.fix (x, #[.slice ao n cap, .slice ao2 n cap2], 33) (by simp)).1.cell]; rfl, by rw [(hL2.fix (x, #[.slice ao n cap, .slice ao2 n cap2], 33) (by simp)).1.cell]; rfl⟩) (fun hS => ?_)
   clear hK KK
   try simp only [Act.put, List.setIfInBounds_toArray, List.set_cons_zero, List.set_cons_succ]
   refine wpAnyT_ready (rs := [9]) (by kernel_rfl) (by simp) ?_
   refine AllReadyT.cons (o := ⟨some 23, _, _, _, _, _⟩) rfl (fun KK hK => ?_) (AllReadyT.nil)
   ·refine step_append_ss rfl _ _ rfl _ hL2.low (.slice (some ⟨u0.heap.size, 0, none⟩) 0 0) ([]) rfl hL2.at3 (.slice ao i cap) (K.take i) rfl (by have h9 := (hL2.at1).ss; have := Ss.takes (by rw [HKT.out.2.1]; exact h9) i (by rw [HKT.out.2.1]; omega); exact this) (by have e1 := HKT.out.2.1; have e2 := HKT.out.2.2; simp; omega) ?_
    intro ekv3 u3 ho hg hq
    have hL3 := hL2.grow3 _ _ ho hg hq
    clear ho hg hq
    refine hK.out _ _ (⟨by rw [(hL3.fix (x, #[.slice ao n cap, .slice ao2 n cap2], 33) (by simp)).1.cell]; rfl, by rw [(hL3.fix (x, #[.slice ao n cap, .slice ao2 n cap2], 33) (by simp)).1.cell]; rfl⟩) (fun hS => ?_)
    clear hK KK
    try simp only [Act.put, List.setIfInBounds_toArray, List.set_cons_zero, List.set_cons_succ]
    refine wpAnyT_ready (rs := [17]) (by kernel_rfl) (by simp) ?_
    refine AllReadyT.cons (o := ⟨some 31, _, _, _, _, _⟩) rfl (fun KK hK => ?_) (AllReadyT.nil)
    ·refine step_append_ss rfl _ _ rfl _ hL3.low (ekv3) (([]) ++ (K.take i)) rfl hL3.at3 (.slice (if cap = d then ao else Option.map (fun x => x.add d) ao) (n - d) (cap - d)) (K.drop d) rfl (by have h9 := (hL3.at1).ss; have := Ss.dropsIf (by rw [HKT.out.2.1]; exact h9) d (by rw [HKT.out.2.1]; omega); rw [HKT.out.2.1] at this; exact this) (by have e1 := HKT.out.2.1; have e2 := HKT.out.2.2; simp; omega) ?_
     intro ekv4 u4 ho hg hq
     have hL4 := hL3.grow3 _ _ ho hg hq
     clear ho hg hq
     refine hK.out _ _ (⟨by rw [(hL4.fix (x, #[.slice ao n cap, .slice ao2 n cap2], 33) (by simp)).1.cell]; rfl, by rw [(hL4.fix (x, #[.slice ao n cap, .slice ao2 n cap2], 33) (by simp)).1.cell]; rfl⟩) (fun hS => ?_)
     clear hK KK
     try simp only [Act.put, List.setIfInBounds_toArray, List.set_cons_zero, List.set_cons_succ]
     refine wpAnyT_ready (rs := [25]) (by kernel_rfl) (by simp) ?_
     refine AllReadyT.cons (o := ⟨some 39, _, _, _, _, _⟩) rfl (fun KK hK => ?_) (AllReadyT.nil)
     ·refine step_append_ss rfl _ _ rfl _ hL4.low (.slice (some ⟨u1.heap.size, 0, none⟩) 0 0) ([]) rfl hL4.at4 (.slice ao2 i cap2) (V.take i) rfl (by have h9 := (hL4.at2).ss; have := Ss.takes (by rw [HKT.out.2.2]; exact h9) i (by rw [HKT.out.2.2]; omega); exact this) (by have e1 := HKT.out.2.1; have e2 := HKT.out.2.2; simp; omega) ?_
      intro evv5 u5 ho hg hq
      have hL5 := hL4.grow4 _ _ ho hg hq
      clear ho hg hq
      refine hK.out _ _ (⟨by rw [(hL5.fix (x, #[.slice ao n cap, .slice ao2 n cap2], 33) (by simp)).1.cell]; rfl, by rw [(hL5.fix (x, #[.slice ao n cap, .slice ao2 n cap2], 33) (by simp)).1.cell]; rfl⟩) (fun hS => ?_)
      clear hK KK
      try simp only [Act.put, List.setIfInBounds_toArray, List.set_cons_zero, List.set_cons_succ]
      refine wpAnyT_ready (rs := [33]) (by kernel_rfl) (by simp) ?_
      refine AllReadyT.cons (o := ⟨some 47, _, _, _, _, _⟩) rfl (fun KK hK => ?_) (AllReadyT.nil)
      ·refine step_append_ss rfl _ _ rfl _ hL5.low (evv5) (([]) ++ (V.take i)) rfl hL5.at4 (.slice (if cap2 = d then ao2 else Option.map (fun x => x.add d) ao2) (n - d) (cap2 - d)) (V.drop d) rfl (by have h9 := (hL5.at2).ss; have := Ss.dropsIf (by rw [HKT.out.2.2]; exact h9) d (by rw [HKT.out.2.2]; omega); rw [HKT.out.2.2] at this; exact this) (by have e1 := HKT.out.2.1; have e2 := HKT.out.2.2; simp; omega) ?_
       intro evv6 u6 ho hg hq
       have hL6 := hL5.grow4 _ _ ho hg hq
       clear ho hg hq
       refine hK.out _ _ (⟨by rw [(hL6.fix (x, #[.slice ao n cap, .slice ao2 n cap2], 33) (by simp)).1.cell]; rfl, by rw [(hL6.fix (x, #[.slice ao n cap, .slice ao2 n cap2], 33) (by simp)).1.cell]; rfl⟩) (fun hS => ?_)
       clear hK KK
       try simp only [Act.put, List.setIfInBounds_toArray, List.set_cons_zero, List.set_cons_succ]
       refine wpAnyT_take (i := 34) (oi := ⟨some 48, _, _, _, _, _⟩) (v := ?_) rfl (by kernel_rfl) (by kernel_rfl) (by kernel_rfl) (by kernel_rfl) (fun _ _ _ h => h) (Or.inl ⟨by simp only [Region.wanted], ?_⟩) hS ?_
       rotate_left
       ·intro wz hSw
        clear hSw
        go_simp
        first | done | with_reducible rfl
       try simp only [Act.put, List.setIfInBounds_toArray, List.set_cons_zero, List.set_cons_succ]
       refine wpAnyT_take (i := 35) (oi := ⟨some 49, _, _, _, _, _⟩) (v := ?_) rfl (by kernel_rfl) (by kernel_rfl) (by kernel_rfl) (by kernel_rfl) (fun _ _ _ h => h) (Or.inl ⟨by simp only [Region.wanted], ?_⟩) hS ?_
       rotate_left
       ·intro wz hSw
        clear hSw
        go_simp
        first | done | with_reducible rfl
       try simp only [Act.put, List.setIfInBounds_toArray, List.set_cons_zero, List.set_cons_succ]
       have hP : Live w1 _ u6 B [(x, #[.slice ao n cap, .slice ao2 n cap2], 33)] [(.slice ao n cap, K), (.slice ao2 n cap2, V), (ekv4, K.take i ++ K.drop d), (evv6, V.take i ++ V.drop d)] := hL6.perm (List.Perm.refl _)
       obtain ⟨a1, p1, e1, -, -⟩ := (show OwnS _ _ ekv4 _ from hP.at3).ss.form
       obtain ⟨a2, p2, e2, -, -⟩ := (show OwnS _ _ evv6 _ from hP.at4).ss.form
       generalize List.length _ = m1 at e1
       generalize List.length _ = m2 at e2
       clear hL0 hL1 hL2 hL3 hL4 hL5 hL6
       subst e1 e2
       have c0 := hS.1
       have f0 := (hP.fix (x, #[.slice ao n cap, .slice ao2 n cap2], 33) (by simp)).1.frozen 0
       refine wpAnyT_ready (rs := [36]) (by kernel_rfl) (by simp) ?_
       refine AllReadyT.last (o := ⟨none, _, _, _, _, _⟩) rfl (by kernel_rfl) (fun KK hK => ?_) (AllReadyT.nil)
       ·go_simp
        refine hK.out _ _ ?_
        clear hK KK
        try simp only [Act.put, List.setIfInBounds_toArray, List.set_cons_zero, List.set_cons_succ]
        have hv := (hP.fix (x, #[.slice ao n cap, .slice ao2 n cap2], 33) (by simp)).1.set 0 (.slice a1 m1 p1)
        have c1 : (World.setCell u6 ⟨x, 0, none⟩ (.slice a1 m1 p1)).cell? ⟨x, 1, none⟩ = some (.slice ao2 n cap2) := by rw [hv.cell]; rfl
        have f1 := hv.frozen 1
        clear c0 f0 hv
        refine wpAnyT_takeL (i := 37) (oi := ⟨some 50, _, _, _, _, _⟩) (v := ?_) rfl (by kernel_rfl) (by kernel_rfl) (by kernel_rfl) (by kernel_rfl) (fun _ _ _ h => h) (Or.inl ⟨by simp only [Region.wanted], ?_⟩) ?_
        rotate_left
        ·intro wz hSw
         clear hSw
         go_simp
         first | done | with_reducible rfl
        try simp only [Act.put, List.setIfInBounds_toArray, List.set_cons_zero, List.set_cons_succ]
        refine wpAnyT_takeL (i := 38) (oi := ⟨some 51, _, _, _, _, _⟩) (v := ?_) rfl (by kernel_rfl) (by kernel_rfl) (by kernel_rfl) (by kernel_rfl) (fun _ _ _ h => h) (Or.inl ⟨by simp only [Region.wanted], ?_⟩) ?_
        rotate_left
        ·intro wz hSw
         clear hSw
         go_simp
         first | done | with_reducible rfl
        try simp only [Act.put, List.setIfInBounds_toArray, List.set_cons_zero, List.set_cons_succ]
        refine wpAnyT_ready (rs := [39]) (by kernel_rfl) (by simp) ?_
        refine AllReadyT.last (o := ⟨none, _, _, _, _, _⟩) rfl (by kernel_rfl) (fun KK hK => ?_) (AllReadyT.nil)
        ·go_simp
         refine hK.out _ _ ?_
         clear hK KK
         try simp only [Act.put, List.setIfInBounds_toArray, List.set_cons_zero, List.set_cons_succ]
         refine wpAnyT_done (by kernel_rfl) ?_ _
         have HFN := Lib.hid (MapAt.fin HBK.out HDX.out hP (List.Sublist.cons _ (List.Sublist.cons _ (List.Sublist.cons_cons _ (List.Sublist.cons_cons _ (List.nil_sublist _))))))
         clear c1 f1 hS hP je
         generalize (if cap = d then ao else Option.map (fun x => x.add d) ao) = q1
         generalize (if cap2 = d then ao2 else Option.map (fun x => x.add d) ao2) = q2
         go_wp2_with fail
         go_ret
         rw [← HDD.out]
         exact ⟨rfl, _, _, HFN.out⟩
 ·have hL1 := hL0.empty
  go_simp
  generalize World.alloc u0 _ = u1 at hL1 ⊢
  refine hK.out _ _ (⟨by rw [(hL1.fix (x, #[.slice ao n cap, .slice ao2 n cap2], 33) (by simp)).1.cell]; rfl, by rw [(hL1.fix (x, #[.slice ao n cap, .slice ao2 n cap2], 33) (by simp)).1.cell]; rfl⟩) (fun hS => ?_)
  clear hK KK
  try simp only [Act.put, List.setIfInBounds_toArray, List.set_cons_zero, List.set_cons_succ]
  refine wpAnyT_ready (rs := [2]) (by kernel_rfl) (by simp) ?_
  refine AllReadyT.cons (o := ⟨some 16, _, _, _, _, _⟩) rfl (fun KK hK => ?_) (AllReadyT.nil)
  ·have hL2 := hL1.empty
   go_simp
   generalize World.alloc u1 _ = u2 at hL2 ⊢
   refine hK.out _ _ (⟨by rw [(hL2.fix (x, #[.slice ao n cap, .slice ao2 n cap2], 33) (by simp)).1.cell]; rfl, by rw [(hL2.fix (x, #[.slice ao n cap, .slice ao2 n cap2], 33) (by simp)).1.cell]; rfl⟩) (fun hS => ?_)
   clear hK KK
   try simp only [Act.put, List.setIfInBounds_toArray, List.set_cons_zero, List.set_cons_succ]
   refine wpAnyT_ready (rs := [9]) (by kernel_rfl) (by simp) ?_
   refine AllReadyT.cons (o := ⟨some 23, _, _, _, _, _⟩) rfl (fun KK hK => ?_) (AllReadyT.nil)
   ·refine step_append_ss rfl _ _ rfl _ hL2.low (.slice (some ⟨u1.heap.size, 0, none⟩) 0 0) ([]) rfl hL2.at4 (.slice ao i cap) (K.take i) rfl (by have h9 := (hL2.at1).ss; have := Ss.takes (by rw [HKT.out.2.1]; exact h9) i (by rw [HKT.out.2.1]; omega); exact this) (by have e1 := HKT.out.2.1; have e2 := HKT.out.2.2; simp; omega) ?_
    intro ekv3 u3 ho hg hq
    have hL3 := hL2.grow4 _ _ ho hg hq
    clear ho hg hq
    refine hK.out _ _ (⟨by rw [(hL3.fix (x, #[.slice ao n cap, .slice ao2 n cap2], 33) (by simp)).1.cell]; rfl, by rw [(hL3.fix (x, #[.slice ao n cap, .slice ao2 n cap2], 33) (by simp)).1.cell]; rfl⟩) (fun hS => ?_)
    clear hK KK
    try simp only [Act.put, List.setIfInBounds_toArray, List.set_cons_zero, List.set_cons_succ]
    refine wpAnyT_ready (rs := [17]) (by kernel_rfl) (by simp) ?_
    refine AllReadyT.cons (o := ⟨some 31, _, _, _, _, _⟩) rfl (fun KK hK => ?_) (AllReadyT.nil)
    ·refine step_append_ss rfl _ _ rfl _ hL3.low (ekv3) (([]) ++ (K.take i)) rfl hL3.at4 (.slice (if cap = d then ao else Option.map (fun x => x.add d) ao) (n - d) (cap - d)) (K.drop d) rfl (by have h9 := (hL3.at1).ss; have := Ss.dropsIf (by rw [HKT.out.2.1]; exact h9) d (by rw [HKT.out.2.1]; omega); rw [HKT.out.2.1] at this; exact this) (by have e1 := HKT.out.2.1; have e2 := HKT.out.2.2; simp; omega) ?_
     intro ekv4 u4 ho hg hq
     have hL4 := hL3.grow4 _ _ ho hg hq
     clear ho hg hq
     refine hK.out _ _ (⟨by rw [(hL4.fix (x, #[.slice ao n cap, .slice ao2 n cap2], 33) (by simp)).1.cell]; rfl, by rw [(hL4.fix (x, #[.slice ao n cap, .slice ao2 n cap2], 33) (by simp)).1.cell]; rfl⟩) (fun hS => ?_)
     clear hK KK
     try simp only [Act.put, List.setIfInBounds_toArray, List.set_cons_zero, List.set_cons_succ]
     refine wpAnyT_ready (rs := [25]) (by kernel_rfl) (by simp) ?_
     refine AllReadyT.cons (o := ⟨some 39, _, _, _, _, _⟩) rfl (fun KK hK => ?_) (AllReadyT.nil)
     ·refine step_append_ss rfl _ _ rfl _ hL4.low (.slice (some ⟨u0.heap.size, 0, none⟩) 0 0) ([]) rfl hL4.at3 (.slice ao2 i cap2) (V.take i) rfl (by have h9 := (hL4.at2).ss; have := Ss.takes (by rw [HKT.out.2.2]; exact h9) i (by rw [HKT.out.2.2]; omega); exact this) (by have e1 := HKT.out.2.1; have e2 := HKT.out.2.2; simp; omega) ?_
      intro evv5 u5 ho hg hq
      have hL5 := hL4.grow3 _ _ ho hg hq
      clear ho hg hq
      refine hK.out _ _ (⟨by rw [(hL5.fix (x, #[.slice ao n cap, .slice ao2 n cap2], 33) (by simp)).1.cell]; rfl, by rw [(hL5.fix (x, #[.slice ao n cap, .slice ao2 n cap2], 33) (by simp)).1.cell]; rfl⟩) (fun hS => ?_)
      clear hK KK
      try simp only [Act.put, List.setIfInBounds_toArray, List.set_cons_zero, List.set_cons_succ]
      refine wpAnyT_ready (rs := [33]) (by kernel_rfl) (by simp) ?_
      refine AllReadyT.cons (o := ⟨some 47, _, _, _, _, _⟩) rfl (fun KK hK => ?_) (AllReadyT.nil)
      ·refine step_append_ss rfl _ _ rfl _ hL5.low (evv5) (([]) ++ (V.take i)) rfl hL5.at3 (.slice (if cap2 = d then ao2 else Option.map (fun x => x.add d) ao2) (n - d) (cap2 - d)) (V.drop d) rfl (by have h9 := (hL5.at2).ss; have := Ss.dropsIf (by rw [HKT.out.2.2]; exact h9) d (by rw [HKT.out.2.2]; omega); rw [HKT.out.2.2] at this; exact this) (by have e1 := HKT.out.2.1; have e2 := HKT.out.2.2; simp; omega) ?_
       intro evv6 u6 ho hg hq
       have hL6 := hL5.grow3 _ _ ho hg hq
       clear ho hg hq
       refine hK.out _ _ (⟨by rw [(hL6.fix (x, #[.slice ao n cap, .slice ao2 n cap2], 33) (by simp)).1.cell]; rfl, by rw [(hL6.fix (x, #[.slice ao n cap, .slice ao2 n cap2], 33) (by simp)).1.cell]; rfl⟩) (fun hS => ?_)
       clear hK KK
       try simp only [Act.put, List.setIfInBounds_toArray, List.set_cons_zero, List.set_cons_succ]
       refine wpAnyT_take (i := 34) (oi := ⟨some 48, _, _, _, _, _⟩) (v := ?_) rfl (by kernel_rfl) (by kernel_rfl) (by kernel_rfl) (by kernel_rfl) (fun _ _ _ h => h) (Or.inl ⟨by simp only [Region.wanted], ?_⟩) hS ?_
       rotate_left
       ·intro wz hSw
        clear hSw
        go_simp
        first | done | with_reducible rfl
       try simp only [Act.put, List.setIfInBounds_toArray, List.set_cons_zero, List.set_cons_succ]
       refine wpAnyT_take (i := 35) (oi := ⟨some 49, _, _, _, _, _⟩) (v := ?_) rfl (by kernel_rfl) (by kernel_rfl) (by kernel_rfl) (by kernel_rfl) (fun _ _ _ h => h) (Or.inl ⟨by simp only [Region.wanted], ?_⟩) hS ?_
       rotate_left
       ·intro wz hSw
        clear hSw
        go_simp
        first | done | with_reducible rfl
       try simp only [Act.put, List.setIfInBounds_toArray, List.set_cons_zero, List.set_cons_succ]
       have hP : Live w1 _ u6 B [(x, #[.slice ao n cap, .slice ao2 n cap2], 33)] [(.slice ao n cap, K), (.slice ao2 n cap2, V), (ekv4, K.take i ++ K.drop d), (evv6, V.take i ++ V.drop d)] := hL6.perm ((List.Perm.cons _ (List.Perm.cons _ (List.Perm.swap _ _ _))))
       obtain ⟨a1, p1, e1, -, -⟩ := (show OwnS _ _ ekv4 _ from hP.at3).ss.form
       obtain ⟨a2, p2, e2, -, -⟩ := (show OwnS _ _ evv6 _ from hP.at4).ss.form
       generalize List.length _ = m1 at e1
       generalize List.length _ = m2 at e2
       clear hL0 hL1 hL2 hL3 hL4 hL5 hL6
       subst e1 e2
       have c0 := hS.1
       have f0 := (hP.fix (x, #[.slice ao n cap, .slice ao2 n cap2], 33) (by simp)).1.frozen 0
       refine wpAnyT_ready (rs := [36]) (by kernel_rfl) (by simp) ?_
       refine AllReadyT.last (o := ⟨none, _, _, _, _, _⟩) rfl (by kernel_rfl) (fun KK hK => ?_) (AllReadyT.nil)
       ·go_simp
        refine hK.out _ _ ?_
        clear hK KK
        try simp only [Act.put, List.setIfInBounds_toArray, List.set_cons_zero, List.set_cons_succ]
        have hv := (hP.fix (x, #[.slice ao n cap, .slice ao2 n cap2], 33) (by simp)).1.set 0 (.slice a1 m1 p1)
        have c1 : (World.setCell u6 ⟨x, 0, none⟩ (.slice a1 m1 p1)).cell? ⟨x, 1, none⟩ = some (.slice ao2 n cap2) := by rw [hv.cell]; rfl
        have f1 := hv.frozen 1
        clear c0 f0 hv
        refine wpAnyT_takeL (i := 37) (oi := ⟨some 50, _, _, _, _, _⟩) (v := ?_) rfl (by kernel_rfl) (by kernel_rfl) (by kernel_rfl) (by kernel_rfl) (fun _ _ _ h => h) (Or.inl ⟨by simp only [Region.wanted], ?_⟩) ?_
        rotate_left
        ·intro wz hSw
         clear hSw
         go_simp
         first | done | with_reducible rfl
        try simp only [Act.put, List.setIfInBounds_toArray, List.set_cons_zero, List.set_cons_succ]
        refine wpAnyT_takeL (i := 38) (oi := ⟨some 51, _, _, _, _, _⟩) (v := ?_) rfl (by kernel_rfl) (by kernel_rfl) (by kernel_rfl) (by kernel_rfl) (fun _ _ _ h => h) (Or.inl ⟨by simp only [Region.wanted], ?_⟩) ?_
        rotate_left
        ·intro wz hSw
         clear hSw
         go_simp
         first | done | with_reducible rfl
        try simp only [Act.put, List.setIfInBounds_toArray, List.set_cons_zero, List.set_cons_succ]
        refine wpAnyT_ready (rs := [39]) (by kernel_rfl) (by simp) ?_
        refine AllReadyT.last (o := ⟨none, _, _, _, _, _⟩) rfl (by kernel_rfl) (fun KK hK => ?_) (AllReadyT.nil)
        ·go_simp
         refine hK.out _ _ ?_
         clear hK KK
         try simp only [Act.put, List.setIfInBounds_toArray, List.set_cons_zero, List.set_cons_succ]
         refine wpAnyT_done (by kernel_rfl) ?_ _
         have HFN := Lib.hid (MapAt.fin HBK.out HDX.out hP (List.Sublist.cons _ (List.Sublist.cons _ (List.Sublist.cons_cons _ (List.Sublist.cons_cons _ (List.nil_sublist _))))))
         clear c1 f1 hS hP je
         generalize (if cap = d then ao else Option.map (fun x => x.add d) ao) = q1
         generalize (if cap2 = d then ao2 else Option.map (fun x => x.add d) ao2) = q2
         go_wp2_with fail
         go_ret
         rw [← HDD.out]
         exact ⟨rfl, _, _, HFN.out⟩
end Go.Proofs.YtpfjbcfnpfgidaaGreat
