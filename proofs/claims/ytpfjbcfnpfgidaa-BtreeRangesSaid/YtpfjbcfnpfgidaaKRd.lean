/- Rd -/
import Derived.Test.YtpfjbcfnpfgidaaKRc
import Derived.Test.YtpfjbcfnpfgidaaKWS
namespace Go.Proofs.Ytpfjbcfnpfgidaa
open Go.RowKit Go.Maps
set_option maxRecDepth 100000
set_option linter.unusedVariables false
theorem Live.at5 {w0 w : World} {D : Nat → Prop} {B : Nat} {F : List (Nat × Array Value × TypeId)} {r1 r2 r3 r4 r5 : Value × List ByteArray} {C : List (Value × List ByteArray)} (h : Live w0 D w B F (r1 :: r2 :: r3 :: r4 :: r5 :: C)) : OwnS w B r5.1 r5.2 := h.own _ (by simp)
theorem Live.at6 {w0 w : World} {D : Nat → Prop} {B : Nat} {F : List (Nat × Array Value × TypeId)} {r1 r2 r3 r4 r5 r6 : Value × List ByteArray} {C : List (Value × List ByteArray)} (h : Live w0 D w B F (r1 :: r2 :: r3 :: r4 :: r5 :: r6 :: C)) : OwnS w B r6.1 r6.2 := h.own _ (by simp)
theorem OwnS.setAt {w : World} {B g n cap : Nat} {L : List ByteArray} (h : OwnS w B (.slice (some ⟨g, 0, none⟩) n cap) L) (i : Nat) (b : ByteArray) : OwnS (w.setCell ⟨g, i, none⟩ (.string b)) B (.slice (some ⟨g, 0, none⟩) n cap) (L.set i b) := by
 obtain ⟨h0, h1⟩ := h
 refine ⟨by rw [strs_length, List.length_set, Nat.mul_one], ?_⟩
 rcases h1 with ⟨e, -⟩ | ⟨g', cap', cur, e, hb, hh, k1, k2, k3, k4⟩
 ·cases e
 ·simp only [Value.slice.injEq, Option.some.injEq, Addr.mk.injEq, and_true] at e
  obtain ⟨rfl, e2, rfl⟩ := e
  refine .inr ⟨g, cap, cur.setIfInBounds i (.string b), by rw [List.length_set, e2], hb, Blk.set (t := 9) hh i (.string b), by rw [List.length_set]; exact k1, k2, by rw [Array.size_setIfInBounds]; exact k3, ?_⟩
  rw [List.length_set, Array.toList_setIfInBounds, List.take_set, k4]
  simp [strs, List.map_set]
theorem grown_setCell (w : World) (g i : Nat) (u : Value) : w.grownBy (w.setCell ⟨g, i, none⟩ u) (some g) := by
 have h := (Moved.refl (· = g) w).setCell ⟨g, i, none⟩ u (.inl rfl)
 exact ⟨h.os, h.tape, h.output, h.size, fun k hk hne => h.block k hk (fun e => hne (by rw [e]))⟩
theorem isK_lt {key : ByteArray} {K : List ByteArray} (h : isK key K = true) : posK key K < K.length := by
 unfold isK at h
 cases hg : K[posK key K]? with
 | none => rw [hg] at h; cases h
 | some a => exact (List.getElem?_eq_some_iff.1 hg).1
set_option maxHeartbeats 8000000 in
theorem rset_there {w0 : World} {D : Nat → Prop} {w : World} {B x : Nat} {kv vv : Value} {K V : List ByteArray} (h : MapAt w0 D w B x kv vv K V) (hKV : V.length = K.length) (key val : ByteArray) (hl : K.length ≤ 100000) (hk : key.size ≤ 140) (hkv : key.size + val.size ≤ 150) (his : isK key K = true) :
 Calls Try.prog 9 #[.pointer (some ⟨x, 0, none⟩), .string key, .string val] w fun e w' => e = .returned (.int .i64 0) ∧ MapAt w0 D w' B x kv vv K (V.set (posK key K) val) := by
 have hat := rat_any h key (by omega)
 have hlt := isK_lt his
 obtain ⟨i, hi⟩ : ∃ i, i = posK key K := ⟨_, rfl⟩
 rw [← hi, his] at hat
 rw [← hi] at hlt ⊢
 have HAT := Lib.hid hat
 have HX := Lib.hid h
 have HLT := Lib.hid (show i < V.length by omega)
 have i1 : ¬ (140 : Int) < key.size := by omega
 have i2 : ¬ (150 : Int) < (key.size : Int) + val.size := by omega
 have i3 : (key.size : Int) + val.size ≤ 1000 := by omega
 clear h hi hat hlt his hKV hl
 go_enter Try.func9, Try.ntmps9
 go_wp2_with fail
 refine HAT.out.mono ?_
 rintro en w1 ⟨rfl, hb1⟩
 have h1 : MapAt w0 D w1 B x kv vv K V := Live.below HX.out hb1
 obtain ⟨gv, cap, e, k1, k2, hc, hf, -⟩ := OwnS.cells (Live.at2 h1) i HLT.out
 dsimp only at e hc k1
 have hlt := HLT.out
 obtain ⟨n, hn⟩ : ∃ n, n = V.length := ⟨_, rfl⟩
 rw [← hn] at e k1 hlt
 subst e
 have c1 : w1.cell? ⟨x, 1, none⟩ = some (.slice (some ⟨gv, 0, none⟩) n cap) := by rw [h1.x.1.cell]; rfl
 have j1 : (i : Int) < n := by omega
 have j2 : (0 : Int) ≤ i := by omega
 have H1 := Lib.hid h1
 clear h1 hb1 hn HAT
 go_wp2_with fail
 go_ret
 exact ⟨rfl, Live.grow2 H1.out _ _ (OwnS.setAt (Live.at2 H1.out) i val) (grown_setCell w1 gv i (.string val)) (fun q hq => .inl hq)⟩
theorem MapAt.fin {w0 w1 w' : World} {D : Nat → Prop} {B x : Nat} {kv vv xk xv : Value} {K V K' V' : List ByteArray} {R' : List (Value × List ByteArray)} (h0 : MapAt w0 D w1 B x kv vv K V) (hDx : D x) (hl : Live w1 (fun q => ∃ r ∈ [(kv, K), (vv, V)], r.1.ownBlock = some q) w' B [(x, #[kv, vv], 31)] R') (hs : [(xk, K'), (xv, V')].Sublist R') :
 MapAt w0 D ((w'.setCell ⟨x, 0, none⟩ xk).setCell ⟨x, 1, none⟩ xv) B x xk xv K' V' := by
 have h1 := (Live.back h0 hl).sub hs
 have h2 := (h1.put x 0 xk h0.x.2 hDx).put x 1 xv h0.x.2 hDx
 simp only [List.map_cons, List.map_nil, if_true] at h2
 exact h2
set_option maxHeartbeats 16000000 in
theorem rset_new {w0 : World} {D : Nat → Prop} {w : World} {B x : Nat} {kv vv : Value} {K V : List ByteArray} (h : MapAt w0 D w B x kv vv K V) (hDx : D x) (hKV : V.length = K.length) (key val : ByteArray) (hl : K.length ≤ 100000) (hk : key.size ≤ 140) (hkv : key.size + val.size ≤ 150) (his : isK key K = false) :
 Calls Try.prog 9 #[.pointer (some ⟨x, 0, none⟩), .string key, .string val] w fun e w' => e = .returned (.int .i64 0) ∧ ∃ kv' vv', MapAt w0 D w' B x kv' vv' (K.take (posK key K) ++ key :: K.drop (posK key K)) (V.take (posK key K) ++ val :: V.drop (posK key K)) := by
 have hat := rat_any h key (by omega)
 have hle := posK_le key K
 obtain ⟨i, hi⟩ : ∃ i, i = posK key K := ⟨_, rfl⟩
 rw [← hi, his] at hat
 rw [← hi] at hle ⊢
 have HAT := Lib.hid hat
 have HX := Lib.hid h
 have HLE := Lib.hid (And.intro hle (And.intro hKV hl))
 have HDX := Lib.hid hDx
 have i1 : ¬ (140 : Int) < key.size := by omega
 have i2 : ¬ (150 : Int) < (key.size : Int) + val.size := by omega
 have i3 : (key.size : Int) + val.size ≤ 1000 := by omega
 clear h hi hat hle his hKV hl hDx
 go_enter Try.func9, Try.ntmps9
 go_wp2_with fail
 refine HAT.out.mono ?_
 rintro en w1 ⟨rfl, hb1⟩
 have h1 : MapAt w0 D w1 B x kv vv K V := Live.below HX.out hb1
 have h1' := Live.rebase h1
 obtain ⟨ao, cap, e1, k1, k2⟩ := (show OwnS _ _ kv _ from Live.at1 h1).ss.form
 obtain ⟨ao2, cap2, e2, k3, k4⟩ := (show OwnS _ _ vv _ from Live.at2 h1).ss.form
 obtain ⟨hle, hKV, hl⟩ := HLE.out
 obtain ⟨n, hn⟩ : ∃ n, n = K.length := ⟨_, rfl⟩
 rw [hKV] at e2 k3
 rw [← hn] at e1 e2 k1 k3 hle hl hKV
 subst e1 e2
 have c0 : w1.cell? ⟨x, 0, none⟩ = some (.slice ao n cap) := by rw [h1.x.1.cell]; rfl
 have c1 : w1.cell? ⟨x, 1, none⟩ = some (.slice ao2 n cap2) := by rw [h1.x.1.cell]; rfl
 have j1 : (i : Int) ≤ cap := by omega
 have j2 : (0 : Int) ≤ i := by omega
 have j3 : (i : Int) ≤ cap2 := by omega
 have j4 : ¬ (i : Int) < 0 := by omega
 have j5 : i ≤ cap := by omega
 have j6 : i ≤ cap2 := by omega
 have j7 : (i : Int) ≤ n := by omega
 have j8 : (n : Int) ≤ cap := by omega
 have j9 : (n : Int) ≤ cap2 := by omega
 have H1 := Lib.hid (show Live w1 _ w1 B [(x, #[.slice ao n cap, .slice ao2 n cap2], 31)] [(.slice ao n cap, K), (.slice ao2 n cap2, V)] from h1')
 have HBK := Lib.hid (show MapAt w0 D w1 B x (.slice ao n cap) (.slice ao2 n cap2) K V from h1)
 have HKT := Lib.hid (show K.take i = K.take i ∧ K.length = n ∧ V.length = n from ⟨rfl, hn.symm, hKV⟩)
 clear h1 h1' hb1 hn HAT HX hKV
 go_wp2_with fail
 refine wp_region_any (by kernel_rfl) ?_
 change wpAny _ _ _ _ _ _ _ (World.drew _)
 refine wpAny_of_T (C := fun (w' : World) => w'.cell? ⟨x, 0, none⟩ = some (.slice ao n cap) ∧ w'.cell? ⟨x, 1, none⟩ = some (.slice ao2 n cap2)) (T := []) _ _ _ _ ?_
 have hS : (fun (w' : World) => w'.cell? ⟨x, 0, none⟩ = some (.slice ao n cap) ∧ w'.cell? ⟨x, 1, none⟩ = some (.slice ao2 n cap2)) _ := ⟨by rw [((Live.drew H1.out).fix (x, #[.slice ao n cap, .slice ao2 n cap2], 31) (by simp)).1.cell]; rfl, by rw [((Live.drew H1.out).fix (x, #[.slice ao n cap, .slice ao2 n cap2], 31) (by simp)).1.cell]; rfl⟩
 have hL0 := Live.drew H1.out
 generalize World.drew w1 = u0 at hL0 hS ⊢
 try simp only [Act.put, List.setIfInBounds_toArray, List.set_cons_zero, List.set_cons_succ]
 refine wpAnyT_take (i := 1) (oi := ⟨some 37, _, _, _, _, _⟩) (v := ?_) rfl (by kernel_rfl) (by kernel_rfl) (by kernel_rfl) (by kernel_rfl) (fun _ _ _ h => h) (Or.inl ⟨by simp only [Region.wanted], ?_⟩) hS ?_
 rotate_left
 ·intro wz hSw
  clear hSw
  go_simp
  first | done | with_reducible rfl
 try simp only [Act.put, List.setIfInBounds_toArray, List.set_cons_zero, List.set_cons_succ]
 refine wpAnyT_take (i := 2) (oi := ⟨some 38, _, _, _, _, _⟩) (v := ?_) rfl (by kernel_rfl) (by kernel_rfl) (by kernel_rfl) (by kernel_rfl) (fun _ _ _ h => h) (Or.inl ⟨by simp only [Region.wanted], ?_⟩) hS ?_
 rotate_left
 ·intro wz hSw
  clear hSw
  go_simp
  first | done | with_reducible rfl
 try simp only [Act.put, List.setIfInBounds_toArray, List.set_cons_zero, List.set_cons_succ]
 refine wpAnyT_take (i := 3) (oi := ⟨some 39, _, _, _, _, _⟩) (v := ?_) rfl (by kernel_rfl) (by kernel_rfl) (by kernel_rfl) (by kernel_rfl) (fun _ _ _ h => h) (Or.inl ⟨by simp only [Region.wanted], ?_⟩) hS ?_
 rotate_left
 ·intro wz hSw
  clear hSw
  go_simp
  first | done | with_reducible rfl
 try simp only [Act.put, List.setIfInBounds_toArray, List.set_cons_zero, List.set_cons_succ]
 refine wpAnyT_take (i := 4) (oi := ⟨some 40, _, _, _, _, _⟩) (v := ?_) rfl (by kernel_rfl) (by kernel_rfl) (by kernel_rfl) (by kernel_rfl) (fun _ _ _ h => h) (Or.inl ⟨by simp only [Region.wanted], ?_⟩) hS ?_
 rotate_left
 ·intro wz hSw
  (try dsimp only at hSw)
  (try go_split_ands)
  go_simp
  first | done | with_reducible rfl
 try simp only [Act.put, List.setIfInBounds_toArray, List.set_cons_zero, List.set_cons_succ]
 refine wpAnyT_take (i := 5) (oi := ⟨some 41, _, _, _, _, _⟩) (v := ?_) rfl (by kernel_rfl) (by kernel_rfl) (by kernel_rfl) (by kernel_rfl) (fun _ _ _ h => h) (Or.inl ⟨by simp only [Region.wanted], ?_⟩) hS ?_
 rotate_left
 ·intro wz hSw
  clear hSw
  go_simp
  first | done | with_reducible rfl
 try simp only [Act.put, List.setIfInBounds_toArray, List.set_cons_zero, List.set_cons_succ]
 refine wpAnyT_take (i := 6) (oi := ⟨some 42, _, _, _, _, _⟩) (v := ?_) rfl (by kernel_rfl) (by kernel_rfl) (by kernel_rfl) (by kernel_rfl) (fun _ _ _ h => h) (Or.inl ⟨by simp only [Region.wanted], ?_⟩) hS ?_
 rotate_left
 ·intro wz hSw
  clear hSw
  go_simp
  first | done | with_reducible rfl
 try simp only [Act.put, List.setIfInBounds_toArray, List.set_cons_zero, List.set_cons_succ]
 refine wpAnyT_take (i := 9) (oi := ⟨some 45, _, _, _, _, _⟩) (v := ?_) rfl (by kernel_rfl) (by kernel_rfl) (by kernel_rfl) (by kernel_rfl) (fun _ _ _ h => h) (Or.inl ⟨by simp only [Region.wanted], ?_⟩) hS ?_
 rotate_left
 ·intro wz hSw
  clear hSw
  go_simp
  first | done | with_reducible rfl
 try simp only [Act.put, List.setIfInBounds_toArray, List.set_cons_zero, List.set_cons_succ]
 refine wpAnyT_take (i := 10) (oi := ⟨some 46, _, _, _, _, _⟩) (v := ?_) rfl (by kernel_rfl) (by kernel_rfl) (by kernel_rfl) (by kernel_rfl) (fun _ _ _ h => h) (Or.inl ⟨by simp only [Region.wanted], ?_⟩) hS ?_
 rotate_left
 ·intro wz hSw
  clear hSw
  go_simp
  first | done | with_reducible rfl
 try simp only [Act.put, List.setIfInBounds_toArray, List.set_cons_zero, List.set_cons_succ]
 refine wpAnyT_take (i := 11) (oi := ⟨some 47, _, _, _, _, _⟩) (v := ?_) rfl (by kernel_rfl) (by kernel_rfl) (by kernel_rfl) (by kernel_rfl) (fun _ _ _ h => h) (Or.inl ⟨by simp only [Region.wanted], ?_⟩) hS ?_
 rotate_left
 ·intro wz hSw
  clear hSw
  go_simp
  first | done | with_reducible rfl
 try simp only [Act.put, List.setIfInBounds_toArray, List.set_cons_zero, List.set_cons_succ]
 refine wpAnyT_take (i := 12) (oi := ⟨some 48, _, _, _, _, _⟩) (v := ?_) rfl (by kernel_rfl) (by kernel_rfl) (by kernel_rfl) (by kernel_rfl) (fun _ _ _ h => h) (Or.inl ⟨by simp only [Region.wanted], ?_⟩) hS ?_
 rotate_left
 ·intro wz hSw
  (try dsimp only at hSw)
  (try go_split_ands)
  go_simp
  first | done | with_reducible rfl
 try simp only [Act.put, List.setIfInBounds_toArray, List.set_cons_zero, List.set_cons_succ]
 refine wpAnyT_take (i := 13) (oi := ⟨some 49, _, _, _, _, _⟩) (v := ?_) rfl (by kernel_rfl) (by kernel_rfl) (by kernel_rfl) (by kernel_rfl) (fun _ _ _ h => h) (Or.inl ⟨by simp only [Region.wanted], ?_⟩) hS ?_
 rotate_left
 ·intro wz hSw
  clear hSw
  go_simp
  first | done | with_reducible rfl
 try simp only [Act.put, List.setIfInBounds_toArray, List.set_cons_zero, List.set_cons_succ]
 refine wpAnyT_take (i := 14) (oi := ⟨some 50, _, _, _, _, _⟩) (v := ?_) rfl (by kernel_rfl) (by kernel_rfl) (by kernel_rfl) (by kernel_rfl) (fun _ _ _ h => h) (Or.inl ⟨by simp only [Region.wanted], ?_⟩) hS ?_
 rotate_left
 ·intro wz hSw
  clear hSw
  go_simp
  first | done | with_reducible rfl
 try simp only [Act.put, List.setIfInBounds_toArray, List.set_cons_zero, List.set_cons_succ]
 refine wpAnyT_ready (rs := [0, 8]) (by kernel_rfl) (by simp) ?_
 refine AllReadyT.cons (o := ⟨some 36, _, _, _, _, _⟩) rfl (fun KK hK => ?_) (AllReadyT.cons (o := ⟨some 44, _, _, _, _, _⟩) rfl (fun KK hK => ?_) (AllReadyT.nil))
 ·have hL1 := hL0.empty
  go_simp
  generalize World.alloc u0 _ = u1 at hL1 ⊢
  refine hK.out _ _ (⟨by rw [(hL1.fix (x, #[.slice ao n cap, .slice ao2 n cap2], 31) (by simp)).1.cell]; rfl, by rw [(hL1.fix (x, #[.slice ao n cap, .slice ao2 n cap2], 31) (by simp)).1.cell]; rfl⟩) (fun hS => ?_)
  clear hK KK
  try simp only [Act.put, List.setIfInBounds_toArray, List.set_cons_zero, List.set_cons_succ]
  refine wpAnyT_ready (rs := [7, 8]) (by kernel_rfl) (by simp) ?_
  refine AllReadyT.cons (o := ⟨some 43, _, _, _, _, _⟩) rfl (fun KK hK => ?_) (AllReadyT.cons (o := ⟨some 44, _, _, _, _, _⟩) rfl (fun KK hK => ?_) (AllReadyT.nil))
  ·refine step_append_ss rfl _ _ rfl _ hL1.low (.slice (some ⟨u0.heap.size, 0, none⟩) 0 0) ([]) rfl hL1.at3 (.slice ao i cap) (K.take i) rfl (by have h9 := (hL1.at1).ss; have := Ss.takes (by rw [HKT.out.2.1]; exact h9) i (by rw [HKT.out.2.1]; omega); exact this) (by have e1 := HKT.out.2.1; have e2 := HKT.out.2.2; simp; omega) ?_
   intro ekv2 u2 ho hg hq
   have hL2 := hL1.grow3 _ _ ho hg hq
   clear ho hg hq
   refine hK.out _ _ (⟨by rw [(hL2.fix (x, #[.slice ao n cap, .slice ao2 n cap2], 31) (by simp)).1.cell]; rfl, by rw [(hL2.fix (x, #[.slice ao n cap, .slice ao2 n cap2], 31) (by simp)).1.cell]; rfl⟩) (fun hS => ?_)
   clear hK KK
   try simp only [Act.put, List.setIfInBounds_toArray, List.set_cons_zero, List.set_cons_succ]
   refine wpAnyT_ready (rs := [8]) (by kernel_rfl) (by simp) ?_
   refine AllReadyT.cons (o := ⟨some 44, _, _, _, _, _⟩) rfl (fun KK hK => ?_) (AllReadyT.nil)
   ·have hL3 := hL2.empty
    go_simp
    generalize World.alloc u2 _ = u3 at hL3 ⊢
    refine hK.out _ _ (⟨by rw [(hL3.fix (x, #[.slice ao n cap, .slice ao2 n cap2], 31) (by simp)).1.cell]; rfl, by rw [(hL3.fix (x, #[.slice ao n cap, .slice ao2 n cap2], 31) (by simp)).1.cell]; rfl⟩) (fun hS => ?_)
    clear hK KK
    try simp only [Act.put, List.setIfInBounds_toArray, List.set_cons_zero, List.set_cons_succ]
    refine wpAnyT_ready (rs := [15]) (by kernel_rfl) (by simp) ?_
    refine AllReadyT.cons (o := ⟨some 51, _, _, _, _, _⟩) rfl (fun KK hK => ?_) (AllReadyT.nil)
    ·refine step_append_ss rfl _ _ rfl _ hL3.low (.slice (some ⟨u2.heap.size, 0, none⟩) 0 0) ([]) rfl hL3.at4 (.slice ao2 i cap2) (V.take i) rfl (by have h9 := (hL3.at2).ss; have := Ss.takes (by rw [HKT.out.2.2]; exact h9) i (by rw [HKT.out.2.2]; omega); exact this) (by have e1 := HKT.out.2.1; have e2 := HKT.out.2.2; simp; omega) ?_
     intro evv4 u4 ho hg hq
     have hL4 := hL3.grow4 _ _ ho hg hq
     clear ho hg hq
     refine hK.out _ _ (⟨by rw [(hL4.fix (x, #[.slice ao n cap, .slice ao2 n cap2], 31) (by simp)).1.cell]; rfl, by rw [(hL4.fix (x, #[.slice ao n cap, .slice ao2 n cap2], 31) (by simp)).1.cell]; rfl⟩) (fun hS => ?_)
     clear hK KK
     try simp only [Act.put, List.setIfInBounds_toArray, List.set_cons_zero, List.set_cons_succ]
     refine wpAnyT_take (i := 16) (oi := ⟨some 9, _, _, _, _, _⟩) (v := ?_) rfl (by kernel_rfl) (by kernel_rfl) (by kernel_rfl) (by kernel_rfl) (fun _ _ _ h => h) (Or.inl ⟨by simp only [Region.wanted], ?_⟩) hS ?_
     rotate_left
     ·intro wz hSw
      clear hSw
      go_simp
      first | done | with_reducible rfl
     try simp only [Act.put, List.setIfInBounds_toArray, List.set_cons_zero, List.set_cons_succ]
     refine wpAnyT_take (i := 17) (oi := ⟨some 10, _, _, _, _, _⟩) (v := ?_) rfl (by kernel_rfl) (by kernel_rfl) (by kernel_rfl) (by kernel_rfl) (fun _ _ _ h => h) (Or.inl ⟨by simp only [Region.wanted], ?_⟩) hS ?_
     rotate_left
     ·intro wz hSw
      clear hSw
      go_simp
      first | done | with_reducible rfl
     try simp only [Act.put, List.setIfInBounds_toArray, List.set_cons_zero, List.set_cons_succ]
     refine wpAnyT_done (by kernel_rfl) ?_ _
     have hP : Live w1 _ u4 B [(x, #[.slice ao n cap, .slice ao2 n cap2], 31)] [(.slice ao n cap, K), (.slice ao2 n cap2, V), (ekv2, K.take i), (evv4, V.take i)] := hL4.perm (List.Perm.refl _)
     have HP := Lib.hid hP
     have HT := Lib.hid (hP.text key)
     clear hP hS c0 c1 hL0 hL1 hL2 hL3 hL4
     go_wp2_with (first | (at_builtin; refine wpList_append_ss rfl _ _ rfl B HT.out.low ekv2 (K.take i) rfl HT.out.at3 (.slice (some ⟨u4.heap.size, 0, none⟩) 1 1) [key] rfl HT.out.at5.ss (by have e1 := HKT.out.2.1; have e2 := HKT.out.2.2; simp; omega) ?_; intro k9 w9 ho9 hg9 hq9) | (at_builtin; refine wpList_append_ss rfl _ _ rfl B ((HT.out.grow3 k9 _ ho9 hg9 hq9).text val).low evv4 (V.take i) rfl ((HT.out.grow3 k9 _ ho9 hg9 hq9).text val).at4 (.slice (some ⟨w9.heap.size, 0, none⟩) 1 1) [val] rfl ((HT.out.grow3 k9 _ ho9 hg9 hq9).text val).at6.ss (by have e1 := HKT.out.2.1; have e2 := HKT.out.2.2; simp; omega) ?_; intro v9 w10 ho10 hg10 hq10))
     have hQ := ((HT.out.grow3 k9 _ ho9 hg9 hq9).text val).grow4 v9 _ ho10 hg10 hq10
     clear ho9 hg9 hq9 ho10 hg10 hq10
     refine wp_region_any (by kernel_rfl) ?_
     change wpAny _ _ _ _ _ _ _ (World.drew _)
     refine wpAny_of_T (C := fun (w' : World) => w'.cell? ⟨x, 0, none⟩ = some (.slice ao n cap) ∧ w'.cell? ⟨x, 1, none⟩ = some (.slice ao2 n cap2)) (T := [20, 23]) _ _ _ _ ?_
     have hS : (fun (w' : World) => w'.cell? ⟨x, 0, none⟩ = some (.slice ao n cap) ∧ w'.cell? ⟨x, 1, none⟩ = some (.slice ao2 n cap2)) _ := ⟨by rw [((Live.drew hQ).fix (x, #[.slice ao n cap, .slice ao2 n cap2], 31) (by simp)).1.cell]; rfl, by rw [((Live.drew hQ).fix (x, #[.slice ao n cap, .slice ao2 n cap2], 31) (by simp)).1.cell]; rfl⟩
     have hM0 := Live.drew hQ
     generalize World.drew w10 = z0 at hM0 hS ⊢
     try simp only [Act.put, List.setIfInBounds_toArray, List.set_cons_zero, List.set_cons_succ]
     refine wpAnyT_take0 (i := 0) (oi := ⟨some 60, _, _, _, _, _⟩) (v := ?_) rfl (by kernel_rfl) (by kernel_rfl) (by kernel_rfl) (by kernel_rfl) (fun _ _ _ h => h) (Or.inl ⟨by simp only [Region.wanted], ?_⟩) hS ?_
     rotate_left
     ·intro wz hSw
      clear hSw
      go_simp
      first | done | with_reducible rfl
     try simp only [Act.put, List.setIfInBounds_toArray, List.set_cons_zero, List.set_cons_succ]
     refine wpAnyT_take0 (i := 1) (oi := ⟨some 61, _, _, _, _, _⟩) (v := ?_) rfl (by kernel_rfl) (by kernel_rfl) (by kernel_rfl) (by kernel_rfl) (fun _ _ _ h => h) (Or.inl ⟨by simp only [Region.wanted], ?_⟩) hS ?_
     rotate_left
     ·intro wz hSw
      clear hSw
      go_simp
      first | done | with_reducible rfl
     try simp only [Act.put, List.setIfInBounds_toArray, List.set_cons_zero, List.set_cons_succ]
     refine wpAnyT_take (i := 2) (oi := ⟨some 62, _, _, _, _, _⟩) (v := ?_) rfl (by kernel_rfl) (by kernel_rfl) (by kernel_rfl) (by kernel_rfl) (fun _ _ _ h => h) (Or.inl ⟨by simp only [Region.wanted], ?_⟩) hS ?_
     rotate_left
     ·intro wz hSw
      clear hSw
      go_simp
      first | done | with_reducible rfl
     try simp only [Act.put, List.setIfInBounds_toArray, List.set_cons_zero, List.set_cons_succ]
     refine wpAnyT_take (i := 3) (oi := ⟨some 63, _, _, _, _, _⟩) (v := ?_) rfl (by kernel_rfl) (by kernel_rfl) (by kernel_rfl) (by kernel_rfl) (fun _ _ _ h => h) (Or.inl ⟨by simp only [Region.wanted], ?_⟩) hS ?_
     rotate_left
     ·intro wz hSw
      clear hSw
      go_simp
      first | done | with_reducible rfl
     try simp only [Act.put, List.setIfInBounds_toArray, List.set_cons_zero, List.set_cons_succ]
     refine wpAnyT_take (i := 4) (oi := ⟨some 64, _, _, _, _, _⟩) (v := ?_) rfl (by kernel_rfl) (by kernel_rfl) (by kernel_rfl) (by kernel_rfl) (fun _ _ _ h => h) (Or.inl ⟨by simp only [Region.wanted], ?_⟩) hS ?_
     rotate_left
     ·intro wz hSw
      clear hSw
      go_simp
      first | done | with_reducible rfl
     try simp only [Act.put, List.setIfInBounds_toArray, List.set_cons_zero, List.set_cons_succ]
     refine wpAnyT_take (i := 5) (oi := ⟨some 65, _, _, _, _, _⟩) (v := ?_) rfl (by kernel_rfl) (by kernel_rfl) (by kernel_rfl) (by kernel_rfl) (fun _ _ _ h => h) (Or.inl ⟨by simp only [Region.wanted], ?_⟩) hS ?_
     rotate_left
     ·intro wz hSw
      clear hSw
      go_simp
      first | done | with_reducible rfl
     try simp only [Act.put, List.setIfInBounds_toArray, List.set_cons_zero, List.set_cons_succ]
     refine wpAnyT_take (i := 6) (oi := ⟨some 66, _, _, _, _, _⟩) (v := ?_) rfl (by kernel_rfl) (by kernel_rfl) (by kernel_rfl) (by kernel_rfl) (fun _ _ _ h => h) (Or.inl ⟨by simp only [Region.wanted], ?_⟩) hS ?_
     rotate_left
     ·intro wz hSw
      (try dsimp only at hSw)
      (try go_split_ands)
      go_simp
      first | done | with_reducible rfl
     try simp only [Act.put, List.setIfInBounds_toArray, List.set_cons_zero, List.set_cons_succ]
     refine wpAnyT_take (i := 7) (oi := ⟨some 67, _, _, _, _, _⟩) (v := ?_) rfl (by kernel_rfl) (by kernel_rfl) (by kernel_rfl) (by kernel_rfl) (fun _ _ _ h => h) (Or.inl ⟨by simp only [Region.wanted], ?_⟩) hS ?_
     rotate_left
     ·intro wz hSw
      clear hSw
      go_simp
      first | done | with_reducible rfl
     try simp only [Act.put, List.setIfInBounds_toArray, List.set_cons_zero, List.set_cons_succ]
     refine wpAnyT_take (i := 8) (oi := ⟨some 68, _, _, _, _, _⟩) (v := ?_) rfl (by kernel_rfl) (by kernel_rfl) (by kernel_rfl) (by kernel_rfl) (fun _ _ _ h => h) (Or.inl ⟨by simp only [Region.wanted], ?_⟩) hS ?_
     rotate_left
     ·intro wz hSw
      clear hSw
      go_simp
      first | done | with_reducible rfl
     try simp only [Act.put, List.setIfInBounds_toArray, List.set_cons_zero, List.set_cons_succ]
     refine wpAnyT_take (i := 10) (oi := ⟨some 70, _, _, _, _, _⟩) (v := ?_) rfl (by kernel_rfl) (by kernel_rfl) (by kernel_rfl) (by kernel_rfl) (fun _ _ _ h => h) (Or.inl ⟨by simp only [Region.wanted], ?_⟩) hS ?_
     rotate_left
     ·intro wz hSw
      clear hSw
      go_simp
      first | done | with_reducible rfl
     try simp only [Act.put, List.setIfInBounds_toArray, List.set_cons_zero, List.set_cons_succ]
     refine wpAnyT_take (i := 11) (oi := ⟨some 71, _, _, _, _, _⟩) (v := ?_) rfl (by kernel_rfl) (by kernel_rfl) (by kernel_rfl) (by kernel_rfl) (fun _ _ _ h => h) (Or.inl ⟨by simp only [Region.wanted], ?_⟩) hS ?_
     rotate_left
     ·intro wz hSw
      clear hSw
      go_simp
      first | done | with_reducible rfl
     try simp only [Act.put, List.setIfInBounds_toArray, List.set_cons_zero, List.set_cons_succ]
     refine wpAnyT_take (i := 12) (oi := ⟨some 72, _, _, _, _, _⟩) (v := ?_) rfl (by kernel_rfl) (by kernel_rfl) (by kernel_rfl) (by kernel_rfl) (fun _ _ _ h => h) (Or.inl ⟨by simp only [Region.wanted], ?_⟩) hS ?_
     rotate_left
     ·intro wz hSw
      clear hSw
      go_simp
      first | done | with_reducible rfl
     try simp only [Act.put, List.setIfInBounds_toArray, List.set_cons_zero, List.set_cons_succ]
     refine wpAnyT_take (i := 13) (oi := ⟨some 73, _, _, _, _, _⟩) (v := ?_) rfl (by kernel_rfl) (by kernel_rfl) (by kernel_rfl) (by kernel_rfl) (fun _ _ _ h => h) (Or.inl ⟨by simp only [Region.wanted], ?_⟩) hS ?_
     rotate_left
     ·intro wz hSw
      clear hSw
      go_simp
      first | done | with_reducible rfl
     try simp only [Act.put, List.setIfInBounds_toArray, List.set_cons_zero, List.set_cons_succ]
     refine wpAnyT_take (i := 14) (oi := ⟨some 74, _, _, _, _, _⟩) (v := ?_) rfl (by kernel_rfl) (by kernel_rfl) (by kernel_rfl) (by kernel_rfl) (fun _ _ _ h => h) (Or.inl ⟨by simp only [Region.wanted], ?_⟩) hS ?_
     rotate_left
     ·intro wz hSw
      (try dsimp only at hSw)
      (try go_split_ands)
      go_simp
      first | done | with_reducible rfl
     try simp only [Act.put, List.setIfInBounds_toArray, List.set_cons_zero, List.set_cons_succ]
     refine wpAnyT_take (i := 15) (oi := ⟨some 75, _, _, _, _, _⟩) (v := ?_) rfl (by kernel_rfl) (by kernel_rfl) (by kernel_rfl) (by kernel_rfl) (fun _ _ _ h => h) (Or.inl ⟨by simp only [Region.wanted], ?_⟩) hS ?_
     rotate_left
     ·intro wz hSw
      clear hSw
      go_simp
      first | done | with_reducible rfl
     try simp only [Act.put, List.setIfInBounds_toArray, List.set_cons_zero, List.set_cons_succ]
     refine wpAnyT_take (i := 16) (oi := ⟨some 76, _, _, _, _, _⟩) (v := ?_) rfl (by kernel_rfl) (by kernel_rfl) (by kernel_rfl) (by kernel_rfl) (fun _ _ _ h => h) (Or.inl ⟨by simp only [Region.wanted], ?_⟩) hS ?_
     rotate_left
     ·intro wz hSw
      clear hSw
      go_simp
      first | done | with_reducible rfl
     try simp only [Act.put, List.setIfInBounds_toArray, List.set_cons_zero, List.set_cons_succ]
     refine wpAnyT_ready (rs := [9]) (by kernel_rfl) (by simp) ?_
     refine AllReadyT.cons (o := ⟨some 69, _, _, _, _, _⟩) rfl (fun KK hK => ?_) (AllReadyT.nil)
     ·refine step_append_ss rfl _ _ rfl _ hM0.low (k9) (K.take i ++ [key]) rfl hM0.at3 (.slice (if cap = i then ao else Option.map (fun x => x.add i) ao) (n - i) (cap - i)) (K.drop i) rfl (by have h9 := (hM0.at1).ss; have := Ss.dropsIf (by rw [HKT.out.2.1]; exact h9) i (by rw [HKT.out.2.1]; omega); rw [HKT.out.2.1] at this; exact this) (by have e1 := HKT.out.2.1; have e2 := HKT.out.2.2; simp; omega) ?_
      intro k9v1 u1 ho hg hq
      have hM1 := hM0.grow3 _ _ ho hg hq
      clear ho hg hq
      refine hK.out _ _ (⟨by rw [(hM1.fix (x, #[.slice ao n cap, .slice ao2 n cap2], 31) (by simp)).1.cell]; rfl, by rw [(hM1.fix (x, #[.slice ao n cap, .slice ao2 n cap2], 31) (by simp)).1.cell]; rfl⟩) (fun hS => ?_)
      clear hK KK
      try simp only [Act.put, List.setIfInBounds_toArray, List.set_cons_zero, List.set_cons_succ]
      refine wpAnyT_ready (rs := [17]) (by kernel_rfl) (by simp) ?_
      refine AllReadyT.cons (o := ⟨some 77, _, _, _, _, _⟩) rfl (fun KK hK => ?_) (AllReadyT.nil)
      ·refine step_append_ss rfl _ _ rfl _ hM1.low (v9) (V.take i ++ [val]) rfl hM1.at4 (.slice (if cap2 = i then ao2 else Option.map (fun x => x.add i) ao2) (n - i) (cap2 - i)) (V.drop i) rfl (by have h9 := (hM1.at2).ss; have := Ss.dropsIf (by rw [HKT.out.2.2]; exact h9) i (by rw [HKT.out.2.2]; omega); rw [HKT.out.2.2] at this; exact this) (by have e1 := HKT.out.2.1; have e2 := HKT.out.2.2; simp; omega) ?_
       intro v9v2 u2 ho hg hq
       have hM2 := hM1.grow4 _ _ ho hg hq
       clear ho hg hq
       refine hK.out _ _ (⟨by rw [(hM2.fix (x, #[.slice ao n cap, .slice ao2 n cap2], 31) (by simp)).1.cell]; rfl, by rw [(hM2.fix (x, #[.slice ao n cap, .slice ao2 n cap2], 31) (by simp)).1.cell]; rfl⟩) (fun hS => ?_)
       clear hK KK
       try simp only [Act.put, List.setIfInBounds_toArray, List.set_cons_zero, List.set_cons_succ]
       refine wpAnyT_take (i := 18) (oi := ⟨some 78, _, _, _, _, _⟩) (v := ?_) rfl (by kernel_rfl) (by kernel_rfl) (by kernel_rfl) (by kernel_rfl) (fun _ _ _ h => h) (Or.inl ⟨by simp only [Region.wanted], ?_⟩) hS ?_
       rotate_left
       ·intro wz hSw
        clear hSw
        go_simp
        first | done | with_reducible rfl
       try simp only [Act.put, List.setIfInBounds_toArray, List.set_cons_zero, List.set_cons_succ]
       refine wpAnyT_take (i := 19) (oi := ⟨some 79, _, _, _, _, _⟩) (v := ?_) rfl (by kernel_rfl) (by kernel_rfl) (by kernel_rfl) (by kernel_rfl) (fun _ _ _ h => h) (Or.inl ⟨by simp only [Region.wanted], ?_⟩) hS ?_
       rotate_left
       ·intro wz hSw
        clear hSw
        go_simp
        first | done | with_reducible rfl
       try simp only [Act.put, List.setIfInBounds_toArray, List.set_cons_zero, List.set_cons_succ]
       obtain ⟨a1, p1, e1, -, -⟩ := (show OwnS _ _ k9v1 _ from hM2.at3).ss.form
       obtain ⟨a2, p2, e2, -, -⟩ := (show OwnS _ _ v9v2 _ from hM2.at4).ss.form
       generalize List.length _ = m1 at e1
       generalize List.length _ = m2 at e2
       subst e1 e2
       have c0 := hS.1
       have f0 := (hM2.fix (x, #[.slice ao n cap, .slice ao2 n cap2], 31) (by simp)).1.frozen 0
       refine wpAnyT_ready (rs := [20]) (by kernel_rfl) (by simp) ?_
       refine AllReadyT.last (o := ⟨none, _, _, _, _, _⟩) rfl (by kernel_rfl) (fun KK hK => ?_) (AllReadyT.nil)
       ·go_simp
        refine hK.out _ _ ?_
        clear hK KK
        try simp only [Act.put, List.setIfInBounds_toArray, List.set_cons_zero, List.set_cons_succ]
        have hv := (hM2.fix (x, #[.slice ao n cap, .slice ao2 n cap2], 31) (by simp)).1.set 0 (.slice a1 m1 p1)
        have c1 : (World.setCell u2 ⟨x, 0, none⟩ (.slice a1 m1 p1)).cell? ⟨x, 1, none⟩ = some (.slice ao2 n cap2) := by rw [hv.cell]; rfl
        have f1 := hv.frozen 1
        clear c0 f0 hv
        refine wpAnyT_takeL (i := 21) (oi := ⟨some 80, _, _, _, _, _⟩) (v := ?_) rfl (by kernel_rfl) (by kernel_rfl) (by kernel_rfl) (by kernel_rfl) (fun _ _ _ h => h) (Or.inl ⟨by simp only [Region.wanted], ?_⟩) ?_
        rotate_left
        ·intro wz hSw
         clear hSw
         go_simp
         first | done | with_reducible rfl
        try simp only [Act.put, List.setIfInBounds_toArray, List.set_cons_zero, List.set_cons_succ]
        refine wpAnyT_takeL (i := 22) (oi := ⟨some 81, _, _, _, _, _⟩) (v := ?_) rfl (by kernel_rfl) (by kernel_rfl) (by kernel_rfl) (by kernel_rfl) (fun _ _ _ h => h) (Or.inl ⟨by simp only [Region.wanted], ?_⟩) ?_
        rotate_left
        ·intro wz hSw
         clear hSw
         go_simp
         first | done | with_reducible rfl
        try simp only [Act.put, List.setIfInBounds_toArray, List.set_cons_zero, List.set_cons_succ]
        refine wpAnyT_ready (rs := [23]) (by kernel_rfl) (by simp) ?_
        refine AllReadyT.last (o := ⟨none, _, _, _, _, _⟩) rfl (by kernel_rfl) (fun KK hK => ?_) (AllReadyT.nil)
        ·go_simp
         refine hK.out _ _ ?_
         clear hK KK
         try simp only [Act.put, List.setIfInBounds_toArray, List.set_cons_zero, List.set_cons_succ]
         refine wpAnyT_done (by kernel_rfl) ?_ _
         have HFN := Lib.hid (MapAt.fin HBK.out HDX.out hM2 (List.Sublist.cons _ (List.Sublist.cons _ (List.Sublist.cons_cons _ (List.Sublist.cons_cons _ (List.nil_sublist _))))))
         clear c1 f1 hS hQ hM0 hM1 hM2
         generalize (if cap = i then ao else Option.map (fun x => x.add i) ao) = q1
         generalize (if cap2 = i then ao2 else Option.map (fun x => x.add i) ao2) = q2
         go_wp2_with fail
         go_ret
         have hfn := HFN.out
         rw [List.append_assoc, List.append_assoc] at hfn
         exact ⟨rfl, _, _, hfn⟩
  ·have hL2 := hL1.empty
   go_simp
   generalize World.alloc u1 _ = u2 at hL2 ⊢
   refine hK.out _ _ (⟨by rw [(hL2.fix (x, #[.slice ao n cap, .slice ao2 n cap2], 31) (by simp)).1.cell]; rfl, by rw [(hL2.fix (x, #[.slice ao n cap, .slice ao2 n cap2], 31) (by simp)).1.cell]; rfl⟩) (fun hS => ?_)
   clear hK KK
   try simp only [Act.put, List.setIfInBounds_toArray, List.set_cons_zero, List.set_cons_succ]
   refine wpAnyT_ready (rs := [7]) (by kernel_rfl) (by simp) ?_
   refine AllReadyT.cons (o := ⟨some 43, _, _, _, _, _⟩) rfl (fun KK hK => ?_) (AllReadyT.nil)
   ·refine step_append_ss rfl _ _ rfl _ hL2.low (.slice (some ⟨u0.heap.size, 0, none⟩) 0 0) ([]) rfl hL2.at3 (.slice ao i cap) (K.take i) rfl (by have h9 := (hL2.at1).ss; have := Ss.takes (by rw [HKT.out.2.1]; exact h9) i (by rw [HKT.out.2.1]; omega); exact this) (by have e1 := HKT.out.2.1; have e2 := HKT.out.2.2; simp; omega) ?_
    intro ekv3 u3 ho hg hq
    have hL3 := hL2.grow3 _ _ ho hg hq
    clear ho hg hq
    refine hK.out _ _ (⟨by rw [(hL3.fix (x, #[.slice ao n cap, .slice ao2 n cap2], 31) (by simp)).1.cell]; rfl, by rw [(hL3.fix (x, #[.slice ao n cap, .slice ao2 n cap2], 31) (by simp)).1.cell]; rfl⟩) (fun hS => ?_)
    clear hK KK
    try simp only [Act.put, List.setIfInBounds_toArray, List.set_cons_zero, List.set_cons_succ]
    refine wpAnyT_ready (rs := [15]) (by kernel_rfl) (by simp) ?_
    refine AllReadyT.cons (o := ⟨some 51, _, _, _, _, _⟩) rfl (fun KK hK => ?_) (AllReadyT.nil)
    ·refine step_append_ss rfl _ _ rfl _ hL3.low (.slice (some ⟨u1.heap.size, 0, none⟩) 0 0) ([]) rfl hL3.at4 (.slice ao2 i cap2) (V.take i) rfl (by have h9 := (hL3.at2).ss; have := Ss.takes (by rw [HKT.out.2.2]; exact h9) i (by rw [HKT.out.2.2]; omega); exact this) (by have e1 := HKT.out.2.1; have e2 := HKT.out.2.2; simp; omega) ?_
     intro evv4 u4 ho hg hq
     have hL4 := hL3.grow4 _ _ ho hg hq
     clear ho hg hq
     refine hK.out _ _ (⟨by rw [(hL4.fix (x, #[.slice ao n cap, .slice ao2 n cap2], 31) (by simp)).1.cell]; rfl, by rw [(hL4.fix (x, #[.slice ao n cap, .slice ao2 n cap2], 31) (by simp)).1.cell]; rfl⟩) (fun hS => ?_)
     clear hK KK
     try simp only [Act.put, List.setIfInBounds_toArray, List.set_cons_zero, List.set_cons_succ]
     refine wpAnyT_take (i := 16) (oi := ⟨some 9, _, _, _, _, _⟩) (v := ?_) rfl (by kernel_rfl) (by kernel_rfl) (by kernel_rfl) (by kernel_rfl) (fun _ _ _ h => h) (Or.inl ⟨by simp only [Region.wanted], ?_⟩) hS ?_
     rotate_left
     ·intro wz hSw
      clear hSw
      go_simp
      first | done | with_reducible rfl
     try simp only [Act.put, List.setIfInBounds_toArray, List.set_cons_zero, List.set_cons_succ]
     refine wpAnyT_take (i := 17) (oi := ⟨some 10, _, _, _, _, _⟩) (v := ?_) rfl (by kernel_rfl) (by kernel_rfl) (by kernel_rfl) (by kernel_rfl) (fun _ _ _ h => h) (Or.inl ⟨by simp only [Region.wanted], ?_⟩) hS ?_
     rotate_left
     ·intro wz hSw
      clear hSw
      go_simp
      first | done | with_reducible rfl
     try simp only [Act.put, List.setIfInBounds_toArray, List.set_cons_zero, List.set_cons_succ]
     refine wpAnyT_done (by kernel_rfl) ?_ _
     have hP : Live w1 _ u4 B [(x, #[.slice ao n cap, .slice ao2 n cap2], 31)] [(.slice ao n cap, K), (.slice ao2 n cap2, V), (ekv3, K.take i), (evv4, V.take i)] := hL4.perm (List.Perm.refl _)
     have HP := Lib.hid hP
     have HT := Lib.hid (hP.text key)
     clear hP hS c0 c1 hL0 hL1 hL2 hL3 hL4
     go_wp2_with (first | (at_builtin; refine wpList_append_ss rfl _ _ rfl B HT.out.low ekv3 (K.take i) rfl HT.out.at3 (.slice (some ⟨u4.heap.size, 0, none⟩) 1 1) [key] rfl HT.out.at5.ss (by have e1 := HKT.out.2.1; have e2 := HKT.out.2.2; simp; omega) ?_; intro k9 w9 ho9 hg9 hq9) | (at_builtin; refine wpList_append_ss rfl _ _ rfl B ((HT.out.grow3 k9 _ ho9 hg9 hq9).text val).low evv4 (V.take i) rfl ((HT.out.grow3 k9 _ ho9 hg9 hq9).text val).at4 (.slice (some ⟨w9.heap.size, 0, none⟩) 1 1) [val] rfl ((HT.out.grow3 k9 _ ho9 hg9 hq9).text val).at6.ss (by have e1 := HKT.out.2.1; have e2 := HKT.out.2.2; simp; omega) ?_; intro v9 w10 ho10 hg10 hq10))
     have hQ := ((HT.out.grow3 k9 _ ho9 hg9 hq9).text val).grow4 v9 _ ho10 hg10 hq10
     clear ho9 hg9 hq9 ho10 hg10 hq10
     refine wp_region_any (by kernel_rfl) ?_
     change wpAny _ _ _ _ _ _ _ (World.drew _)
     refine wpAny_of_T (C := fun (w' : World) => w'.cell? ⟨x, 0, none⟩ = some (.slice ao n cap) ∧ w'.cell? ⟨x, 1, none⟩ = some (.slice ao2 n cap2)) (T := [20, 23]) _ _ _ _ ?_
     have hS : (fun (w' : World) => w'.cell? ⟨x, 0, none⟩ = some (.slice ao n cap) ∧ w'.cell? ⟨x, 1, none⟩ = some (.slice ao2 n cap2)) _ := ⟨by rw [((Live.drew hQ).fix (x, #[.slice ao n cap, .slice ao2 n cap2], 31) (by simp)).1.cell]; rfl, by rw [((Live.drew hQ).fix (x, #[.slice ao n cap, .slice ao2 n cap2], 31) (by simp)).1.cell]; rfl⟩
     have hM0 := Live.drew hQ
     generalize World.drew w10 = z0 at hM0 hS ⊢
     try simp only [Act.put, List.setIfInBounds_toArray, List.set_cons_zero, List.set_cons_succ]
     refine wpAnyT_take0 (i := 0) (oi := ⟨some 60, _, _, _, _, _⟩) (v := ?_) rfl (by kernel_rfl) (by kernel_rfl) (by kernel_rfl) (by kernel_rfl) (fun _ _ _ h => h) (Or.inl ⟨by simp only [Region.wanted], ?_⟩) hS ?_
     rotate_left
     ·intro wz hSw
      clear hSw
      go_simp
      first | done | with_reducible rfl
     try simp only [Act.put, List.setIfInBounds_toArray, List.set_cons_zero, List.set_cons_succ]
     refine wpAnyT_take0 (i := 1) (oi := ⟨some 61, _, _, _, _, _⟩) (v := ?_) rfl (by kernel_rfl) (by kernel_rfl) (by kernel_rfl) (by kernel_rfl) (fun _ _ _ h => h) (Or.inl ⟨by simp only [Region.wanted], ?_⟩) hS ?_
     rotate_left
     ·intro wz hSw
      clear hSw
      go_simp
      first | done | with_reducible rfl
     try simp only [Act.put, List.setIfInBounds_toArray, List.set_cons_zero, List.set_cons_succ]
     refine wpAnyT_take (i := 2) (oi := ⟨some 62, _, _, _, _, _⟩) (v := ?_) rfl (by kernel_rfl) (by kernel_rfl) (by kernel_rfl) (by kernel_rfl) (fun _ _ _ h => h) (Or.inl ⟨by simp only [Region.wanted], ?_⟩) hS ?_
     rotate_left
     ·intro wz hSw
      clear hSw
      go_simp
      first | done | with_reducible rfl
     try simp only [Act.put, List.setIfInBounds_toArray, List.set_cons_zero, List.set_cons_succ]
     refine wpAnyT_take (i := 3) (oi := ⟨some 63, _, _, _, _, _⟩) (v := ?_) rfl (by kernel_rfl) (by kernel_rfl) (by kernel_rfl) (by kernel_rfl) (fun _ _ _ h => h) (Or.inl ⟨by simp only [Region.wanted], ?_⟩) hS ?_
     rotate_left
     ·intro wz hSw
      clear hSw
      go_simp
      first | done | with_reducible rfl
     try simp only [Act.put, List.setIfInBounds_toArray, List.set_cons_zero, List.set_cons_succ]
     refine wpAnyT_take (i := 4) (oi := ⟨some 64, _, _, _, _, _⟩) (v := ?_) rfl (by kernel_rfl) (by kernel_rfl) (by kernel_rfl) (by kernel_rfl) (fun _ _ _ h => h) (Or.inl ⟨by simp only [Region.wanted], ?_⟩) hS ?_
     rotate_left
     ·intro wz hSw
      clear hSw
      go_simp
      first | done | with_reducible rfl
     try simp only [Act.put, List.setIfInBounds_toArray, List.set_cons_zero, List.set_cons_succ]
     refine wpAnyT_take (i := 5) (oi := ⟨some 65, _, _, _, _, _⟩) (v := ?_) rfl (by kernel_rfl) (by kernel_rfl) (by kernel_rfl) (by kernel_rfl) (fun _ _ _ h => h) (Or.inl ⟨by simp only [Region.wanted], ?_⟩) hS ?_
     rotate_left
     ·intro wz hSw
      clear hSw
      go_simp
      first | done | with_reducible rfl
     try simp only [Act.put, List.setIfInBounds_toArray, List.set_cons_zero, List.set_cons_succ]
     refine wpAnyT_take (i := 6) (oi := ⟨some 66, _, _, _, _, _⟩) (v := ?_) rfl (by kernel_rfl) (by kernel_rfl) (by kernel_rfl) (by kernel_rfl) (fun _ _ _ h => h) (Or.inl ⟨by simp only [Region.wanted], ?_⟩) hS ?_
     rotate_left
     ·intro wz hSw
      (try dsimp only at hSw)
      (try go_split_ands)
      go_simp
      first | done | with_reducible rfl
     try simp only [Act.put, List.setIfInBounds_toArray, List.set_cons_zero, List.set_cons_succ]
     refine wpAnyT_take (i := 7) (oi := ⟨some 67, _, _, _, _, _⟩) (v := ?_) rfl (by kernel_rfl) (by kernel_rfl) (by kernel_rfl) (by kernel_rfl) (fun _ _ _ h => h) (Or.inl ⟨by simp only [Region.wanted], ?_⟩) hS ?_
     rotate_left
     ·intro wz hSw
      clear hSw
      go_simp
      first | done | with_reducible rfl
     try simp only [Act.put, List.setIfInBounds_toArray, List.set_cons_zero, List.set_cons_succ]
     refine wpAnyT_take (i := 8) (oi := ⟨some 68, _, _, _, _, _⟩) (v := ?_) rfl (by kernel_rfl) (by kernel_rfl) (by kernel_rfl) (by kernel_rfl) (fun _ _ _ h => h) (Or.inl ⟨by simp only [Region.wanted], ?_⟩) hS ?_
     rotate_left
     ·intro wz hSw
      clear hSw
      go_simp
      first | done | with_reducible rfl
     try simp only [Act.put, List.setIfInBounds_toArray, List.set_cons_zero, List.set_cons_succ]
     refine wpAnyT_take (i := 10) (oi := ⟨some 70, _, _, _, _, _⟩) (v := ?_) rfl (by kernel_rfl) (by kernel_rfl) (by kernel_rfl) (by kernel_rfl) (fun _ _ _ h => h) (Or.inl ⟨by simp only [Region.wanted], ?_⟩) hS ?_
     rotate_left
     ·intro wz hSw
      clear hSw
      go_simp
      first | done | with_reducible rfl
     try simp only [Act.put, List.setIfInBounds_toArray, List.set_cons_zero, List.set_cons_succ]
     refine wpAnyT_take (i := 11) (oi := ⟨some 71, _, _, _, _, _⟩) (v := ?_) rfl (by kernel_rfl) (by kernel_rfl) (by kernel_rfl) (by kernel_rfl) (fun _ _ _ h => h) (Or.inl ⟨by simp only [Region.wanted], ?_⟩) hS ?_
     rotate_left
     ·intro wz hSw
      clear hSw
      go_simp
      first | done | with_reducible rfl
     try simp only [Act.put, List.setIfInBounds_toArray, List.set_cons_zero, List.set_cons_succ]
     refine wpAnyT_take (i := 12) (oi := ⟨some 72, _, _, _, _, _⟩) (v := ?_) rfl (by kernel_rfl) (by kernel_rfl) (by kernel_rfl) (by kernel_rfl) (fun _ _ _ h => h) (Or.inl ⟨by simp only [Region.wanted], ?_⟩) hS ?_
     rotate_left
     ·intro wz hSw
      clear hSw
      go_simp
      first | done | with_reducible rfl
     try simp only [Act.put, List.setIfInBounds_toArray, List.set_cons_zero, List.set_cons_succ]
     refine wpAnyT_take (i := 13) (oi := ⟨some 73, _, _, _, _, _⟩) (v := ?_) rfl (by kernel_rfl) (by kernel_rfl) (by kernel_rfl) (by kernel_rfl) (fun _ _ _ h => h) (Or.inl ⟨by simp only [Region.wanted], ?_⟩) hS ?_
     rotate_left
     ·intro wz hSw
      clear hSw
      go_simp
      first | done | with_reducible rfl
     try simp only [Act.put, List.setIfInBounds_toArray, List.set_cons_zero, List.set_cons_succ]
     refine wpAnyT_take (i := 14) (oi := ⟨some 74, _, _, _, _, _⟩) (v := ?_) rfl (by kernel_rfl) (by kernel_rfl) (by kernel_rfl) (by kernel_rfl) (fun _ _ _ h => h) (Or.inl ⟨by simp only [Region.wanted], ?_⟩) hS ?_
     rotate_left
     ·intro wz hSw
      (try dsimp only at hSw)
      (try go_split_ands)
      go_simp
      first | done | with_reducible rfl
     try simp only [Act.put, List.setIfInBounds_toArray, List.set_cons_zero, List.set_cons_succ]
     refine wpAnyT_take (i := 15) (oi := ⟨some 75, _, _, _, _, _⟩) (v := ?_) rfl (by kernel_rfl) (by kernel_rfl) (by kernel_rfl) (by kernel_rfl) (fun _ _ _ h => h) (Or.inl ⟨by simp only [Region.wanted], ?_⟩) hS ?_
     rotate_left
     ·intro wz hSw
      clear hSw
      go_simp
      first | done | with_reducible rfl
     try simp only [Act.put, List.setIfInBounds_toArray, List.set_cons_zero, List.set_cons_succ]
     refine wpAnyT_take (i := 16) (oi := ⟨some 76, _, _, _, _, _⟩) (v := ?_) rfl (by kernel_rfl) (by kernel_rfl) (by kernel_rfl) (by kernel_rfl) (fun _ _ _ h => h) (Or.inl ⟨by simp only [Region.wanted], ?_⟩) hS ?_
     rotate_left
     ·intro wz hSw
      clear hSw
      go_simp
      first | done | with_reducible rfl
     try simp only [Act.put, List.setIfInBounds_toArray, List.set_cons_zero, List.set_cons_succ]
     refine wpAnyT_ready (rs := [9]) (by kernel_rfl) (by simp) ?_
     refine AllReadyT.cons (o := ⟨some 69, _, _, _, _, _⟩) rfl (fun KK hK => ?_) (AllReadyT.nil)
     ·refine step_append_ss rfl _ _ rfl _ hM0.low (k9) (K.take i ++ [key]) rfl hM0.at3 (.slice (if cap = i then ao else Option.map (fun x => x.add i) ao) (n - i) (cap - i)) (K.drop i) rfl (by have h9 := (hM0.at1).ss; have := Ss.dropsIf (by rw [HKT.out.2.1]; exact h9) i (by rw [HKT.out.2.1]; omega); rw [HKT.out.2.1] at this; exact this) (by have e1 := HKT.out.2.1; have e2 := HKT.out.2.2; simp; omega) ?_
      intro k9v1 u1 ho hg hq
      have hM1 := hM0.grow3 _ _ ho hg hq
      clear ho hg hq
      refine hK.out _ _ (⟨by rw [(hM1.fix (x, #[.slice ao n cap, .slice ao2 n cap2], 31) (by simp)).1.cell]; rfl, by rw [(hM1.fix (x, #[.slice ao n cap, .slice ao2 n cap2], 31) (by simp)).1.cell]; rfl⟩) (fun hS => ?_)
      clear hK KK
      try simp only [Act.put, List.setIfInBounds_toArray, List.set_cons_zero, List.set_cons_succ]
      refine wpAnyT_ready (rs := [17]) (by kernel_rfl) (by simp) ?_
      refine AllReadyT.cons (o := ⟨some 77, _, _, _, _, _⟩) rfl (fun KK hK => ?_) (AllReadyT.nil)
      ·refine step_append_ss rfl _ _ rfl _ hM1.low (v9) (V.take i ++ [val]) rfl hM1.at4 (.slice (if cap2 = i then ao2 else Option.map (fun x => x.add i) ao2) (n - i) (cap2 - i)) (V.drop i) rfl (by have h9 := (hM1.at2).ss; have := Ss.dropsIf (by rw [HKT.out.2.2]; exact h9) i (by rw [HKT.out.2.2]; omega); rw [HKT.out.2.2] at this; exact this) (by have e1 := HKT.out.2.1; have e2 := HKT.out.2.2; simp; omega) ?_
       intro v9v2 u2 ho hg hq
       have hM2 := hM1.grow4 _ _ ho hg hq
       clear ho hg hq
       refine hK.out _ _ (⟨by rw [(hM2.fix (x, #[.slice ao n cap, .slice ao2 n cap2], 31) (by simp)).1.cell]; rfl, by rw [(hM2.fix (x, #[.slice ao n cap, .slice ao2 n cap2], 31) (by simp)).1.cell]; rfl⟩) (fun hS => ?_)
       clear hK KK
       try simp only [Act.put, List.setIfInBounds_toArray, List.set_cons_zero, List.set_cons_succ]
       refine wpAnyT_take (i := 18) (oi := ⟨some 78, _, _, _, _, _⟩) (v := ?_) rfl (by kernel_rfl) (by kernel_rfl) (by kernel_rfl) (by kernel_rfl) (fun _ _ _ h => h) (Or.inl ⟨by simp only [Region.wanted], ?_⟩) hS ?_
       rotate_left
       ·intro wz hSw
        clear hSw
        go_simp
        first | done | with_reducible rfl
       try simp only [Act.put, List.setIfInBounds_toArray, List.set_cons_zero, List.set_cons_succ]
       refine wpAnyT_take (i := 19) (oi := ⟨some 79, _, _, _, _, _⟩) (v := ?_) rfl (by kernel_rfl) (by kernel_rfl) (by kernel_rfl) (by kernel_rfl) (fun _ _ _ h => h) (Or.inl ⟨by simp only [Region.wanted], ?_⟩) hS ?_
       rotate_left
       ·intro wz hSw
        clear hSw
        go_simp
        first | done | with_reducible rfl
       try simp only [Act.put, List.setIfInBounds_toArray, List.set_cons_zero, List.set_cons_succ]
       obtain ⟨a1, p1, e1, -, -⟩ := (show OwnS _ _ k9v1 _ from hM2.at3).ss.form
       obtain ⟨a2, p2, e2, -, -⟩ := (show OwnS _ _ v9v2 _ from hM2.at4).ss.form
       generalize List.length _ = m1 at e1
       generalize List.length _ = m2 at e2
       subst e1 e2
       have c0 := hS.1
       have f0 := (hM2.fix (x, #[.slice ao n cap, .slice ao2 n cap2], 31) (by simp)).1.frozen 0
       refine wpAnyT_ready (rs := [20]) (by kernel_rfl) (by simp) ?_
       refine AllReadyT.last (o := ⟨none, _, _, _, _, _⟩) rfl (by kernel_rfl) (fun KK hK => ?_) (AllReadyT.nil)
       ·go_simp
        refine hK.out _ _ ?_
        clear hK KK
        try simp only [Act.put, List.setIfInBounds_toArray, List.set_cons_zero, List.set_cons_succ]
        have hv := (hM2.fix (x, #[.slice ao n cap, .slice ao2 n cap2], 31) (by simp)).1.set 0 (.slice a1 m1 p1)
        have c1 : (World.setCell u2 ⟨x, 0, none⟩ (.slice a1 m1 p1)).cell? ⟨x, 1, none⟩ = some (.slice ao2 n cap2) := by rw [hv.cell]; rfl
        have f1 := hv.frozen 1
        clear c0 f0 hv
        refine wpAnyT_takeL (i := 21) (oi := ⟨some 80, _, _, _, _, _⟩) (v := ?_) rfl (by kernel_rfl) (by kernel_rfl) (by kernel_rfl) (by kernel_rfl) (fun _ _ _ h => h) (Or.inl ⟨by simp only [Region.wanted], ?_⟩) ?_
        rotate_left
        ·intro wz hSw
         clear hSw
         go_simp
         first | done | with_reducible rfl
        try simp only [Act.put, List.setIfInBounds_toArray, List.set_cons_zero, List.set_cons_succ]
        refine wpAnyT_takeL (i := 22) (oi := ⟨some 81, _, _, _, _, _⟩) (v := ?_) rfl (by kernel_rfl) (by kernel_rfl) (by kernel_rfl) (by kernel_rfl) (fun _ _ _ h => h) (Or.inl ⟨by simp only [Region.wanted], ?_⟩) ?_
        rotate_left
        ·intro wz hSw
         clear hSw
         go_simp
         first | done | with_reducible rfl
        try simp only [Act.put, List.setIfInBounds_toArray, List.set_cons_zero, List.set_cons_succ]
        refine wpAnyT_ready (rs := [23]) (by kernel_rfl) (by simp) ?_
        refine AllReadyT.last (o := ⟨none, _, _, _, _, _⟩) rfl (by kernel_rfl) (fun KK hK => ?_) (AllReadyT.nil)
        ·go_simp
         refine hK.out _ _ ?_
         clear hK KK
         try simp only [Act.put, List.setIfInBounds_toArray, List.set_cons_zero, List.set_cons_succ]
         refine wpAnyT_done (by kernel_rfl) ?_ _
         have HFN := Lib.hid (MapAt.fin HBK.out HDX.out hM2 (List.Sublist.cons _ (List.Sublist.cons _ (List.Sublist.cons_cons _ (List.Sublist.cons_cons _ (List.nil_sublist _))))))
         clear c1 f1 hS hQ hM0 hM1 hM2
         generalize (if cap = i then ao else Option.map (fun x => x.add i) ao) = q1
         generalize (if cap2 = i then ao2 else Option.map (fun x => x.add i) ao2) = q2
         go_wp2_with fail
         go_ret
         have hfn := HFN.out
         rw [List.append_assoc, List.append_assoc] at hfn
         exact ⟨rfl, _, _, hfn⟩
 ·have hL1 := hL0.empty
  go_simp
  generalize World.alloc u0 _ = u1 at hL1 ⊢
  refine hK.out _ _ (⟨by rw [(hL1.fix (x, #[.slice ao n cap, .slice ao2 n cap2], 31) (by simp)).1.cell]; rfl, by rw [(hL1.fix (x, #[.slice ao n cap, .slice ao2 n cap2], 31) (by simp)).1.cell]; rfl⟩) (fun hS => ?_)
  clear hK KK
  try simp only [Act.put, List.setIfInBounds_toArray, List.set_cons_zero, List.set_cons_succ]
  refine wpAnyT_ready (rs := [0]) (by kernel_rfl) (by simp) ?_
  refine AllReadyT.cons (o := ⟨some 36, _, _, _, _, _⟩) rfl (fun KK hK => ?_) (AllReadyT.nil)
  ·have hL2 := hL1.empty
   go_simp
   generalize World.alloc u1 _ = u2 at hL2 ⊢
   refine hK.out _ _ (⟨by rw [(hL2.fix (x, #[.slice ao n cap, .slice ao2 n cap2], 31) (by simp)).1.cell]; rfl, by rw [(hL2.fix (x, #[.slice ao n cap, .slice ao2 n cap2], 31) (by simp)).1.cell]; rfl⟩) (fun hS => ?_)
   clear hK KK
   try simp only [Act.put, List.setIfInBounds_toArray, List.set_cons_zero, List.set_cons_succ]
   refine wpAnyT_ready (rs := [7]) (by kernel_rfl) (by simp) ?_
   refine AllReadyT.cons (o := ⟨some 43, _, _, _, _, _⟩) rfl (fun KK hK => ?_) (AllReadyT.nil)
   ·refine step_append_ss rfl _ _ rfl _ hL2.low (.slice (some ⟨u1.heap.size, 0, none⟩) 0 0) ([]) rfl hL2.at4 (.slice ao i cap) (K.take i) rfl (by have h9 := (hL2.at1).ss; have := Ss.takes (by rw [HKT.out.2.1]; exact h9) i (by rw [HKT.out.2.1]; omega); exact this) (by have e1 := HKT.out.2.1; have e2 := HKT.out.2.2; simp; omega) ?_
    intro ekv3 u3 ho hg hq
    have hL3 := hL2.grow4 _ _ ho hg hq
    clear ho hg hq
    refine hK.out _ _ (⟨by rw [(hL3.fix (x, #[.slice ao n cap, .slice ao2 n cap2], 31) (by simp)).1.cell]; rfl, by rw [(hL3.fix (x, #[.slice ao n cap, .slice ao2 n cap2], 31) (by simp)).1.cell]; rfl⟩) (fun hS => ?_)
    clear hK KK
    try simp only [Act.put, List.setIfInBounds_toArray, List.set_cons_zero, List.set_cons_succ]
    refine wpAnyT_ready (rs := [15]) (by kernel_rfl) (by simp) ?_
    refine AllReadyT.cons (o := ⟨some 51, _, _, _, _, _⟩) rfl (fun KK hK => ?_) (AllReadyT.nil)
    ·refine step_append_ss rfl _ _ rfl _ hL3.low (.slice (some ⟨u0.heap.size, 0, none⟩) 0 0) ([]) rfl hL3.at3 (.slice ao2 i cap2) (V.take i) rfl (by have h9 := (hL3.at2).ss; have := Ss.takes (by rw [HKT.out.2.2]; exact h9) i (by rw [HKT.out.2.2]; omega); exact this) (by have e1 := HKT.out.2.1; have e2 := HKT.out.2.2; simp; omega) ?_
     intro evv4 u4 ho hg hq
     have hL4 := hL3.grow3 _ _ ho hg hq
     clear ho hg hq
     refine hK.out _ _ (⟨by rw [(hL4.fix (x, #[.slice ao n cap, .slice ao2 n cap2], 31) (by simp)).1.cell]; rfl, by rw [(hL4.fix (x, #[.slice ao n cap, .slice ao2 n cap2], 31) (by simp)).1.cell]; rfl⟩) (fun hS => ?_)
     clear hK KK
     try simp only [Act.put, List.setIfInBounds_toArray, List.set_cons_zero, List.set_cons_succ]
     refine wpAnyT_take (i := 16) (oi := ⟨some 9, _, _, _, _, _⟩) (v := ?_) rfl (by kernel_rfl) (by kernel_rfl) (by kernel_rfl) (by kernel_rfl) (fun _ _ _ h => h) (Or.inl ⟨by simp only [Region.wanted], ?_⟩) hS ?_
     rotate_left
     ·intro wz hSw
      clear hSw
      go_simp
      first | done | with_reducible rfl
     try simp only [Act.put, List.setIfInBounds_toArray, List.set_cons_zero, List.set_cons_succ]
     refine wpAnyT_take (i := 17) (oi := ⟨some 10, _, _, _, _, _⟩) (v := ?_) rfl (by kernel_rfl) (by kernel_rfl) (by kernel_rfl) (by kernel_rfl) (fun _ _ _ h => h) (Or.inl ⟨by simp only [Region.wanted], ?_⟩) hS ?_
     rotate_left
     ·intro wz hSw
      clear hSw
      go_simp
      first | done | with_reducible rfl
     try simp only [Act.put, List.setIfInBounds_toArray, List.set_cons_zero, List.set_cons_succ]
     refine wpAnyT_done (by kernel_rfl) ?_ _
     have hP : Live w1 _ u4 B [(x, #[.slice ao n cap, .slice ao2 n cap2], 31)] [(.slice ao n cap, K), (.slice ao2 n cap2, V), (ekv3, K.take i), (evv4, V.take i)] := hL4.perm ((List.Perm.cons _ (List.Perm.cons _ (List.Perm.swap _ _ _))))
     have HP := Lib.hid hP
     have HT := Lib.hid (hP.text key)
     clear hP hS c0 c1 hL0 hL1 hL2 hL3 hL4
     go_wp2_with (first | (at_builtin; refine wpList_append_ss rfl _ _ rfl B HT.out.low ekv3 (K.take i) rfl HT.out.at3 (.slice (some ⟨u4.heap.size, 0, none⟩) 1 1) [key] rfl HT.out.at5.ss (by have e1 := HKT.out.2.1; have e2 := HKT.out.2.2; simp; omega) ?_; intro k9 w9 ho9 hg9 hq9) | (at_builtin; refine wpList_append_ss rfl _ _ rfl B ((HT.out.grow3 k9 _ ho9 hg9 hq9).text val).low evv4 (V.take i) rfl ((HT.out.grow3 k9 _ ho9 hg9 hq9).text val).at4 (.slice (some ⟨w9.heap.size, 0, none⟩) 1 1) [val] rfl ((HT.out.grow3 k9 _ ho9 hg9 hq9).text val).at6.ss (by have e1 := HKT.out.2.1; have e2 := HKT.out.2.2; simp; omega) ?_; intro v9 w10 ho10 hg10 hq10))
     have hQ := ((HT.out.grow3 k9 _ ho9 hg9 hq9).text val).grow4 v9 _ ho10 hg10 hq10
     clear ho9 hg9 hq9 ho10 hg10 hq10
     refine wp_region_any (by kernel_rfl) ?_
     change wpAny _ _ _ _ _ _ _ (World.drew _)
     refine wpAny_of_T (C := fun (w' : World) => w'.cell? ⟨x, 0, none⟩ = some (.slice ao n cap) ∧ w'.cell? ⟨x, 1, none⟩ = some (.slice ao2 n cap2)) (T := [20, 23]) _ _ _ _ ?_
     have hS : (fun (w' : World) => w'.cell? ⟨x, 0, none⟩ = some (.slice ao n cap) ∧ w'.cell? ⟨x, 1, none⟩ = some (.slice ao2 n cap2)) _ := ⟨by rw [((Live.drew hQ).fix (x, #[.slice ao n cap, .slice ao2 n cap2], 31) (by simp)).1.cell]; rfl, by rw [((Live.drew hQ).fix (x, #[.slice ao n cap, .slice ao2 n cap2], 31) (by simp)).1.cell]; rfl⟩
     have hM0 := Live.drew hQ
     generalize World.drew w10 = z0 at hM0 hS ⊢
     try simp only [Act.put, List.setIfInBounds_toArray, List.set_cons_zero, List.set_cons_succ]
     refine wpAnyT_take0 (i := 0) (oi := ⟨some 60, _, _, _, _, _⟩) (v := ?_) rfl (by kernel_rfl) (by kernel_rfl) (by kernel_rfl) (by kernel_rfl) (fun _ _ _ h => h) (Or.inl ⟨by simp only [Region.wanted], ?_⟩) hS ?_
     rotate_left
     ·intro wz hSw
      clear hSw
      go_simp
      first | done | with_reducible rfl
     try simp only [Act.put, List.setIfInBounds_toArray, List.set_cons_zero, List.set_cons_succ]
     refine wpAnyT_take0 (i := 1) (oi := ⟨some 61, _, _, _, _, _⟩) (v := ?_) rfl (by kernel_rfl) (by kernel_rfl) (by kernel_rfl) (by kernel_rfl) (fun _ _ _ h => h) (Or.inl ⟨by simp only [Region.wanted], ?_⟩) hS ?_
     rotate_left
     ·intro wz hSw
      clear hSw
      go_simp
      first | done | with_reducible rfl
     try simp only [Act.put, List.setIfInBounds_toArray, List.set_cons_zero, List.set_cons_succ]
     refine wpAnyT_take (i := 2) (oi := ⟨some 62, _, _, _, _, _⟩) (v := ?_) rfl (by kernel_rfl) (by kernel_rfl) (by kernel_rfl) (by kernel_rfl) (fun _ _ _ h => h) (Or.inl ⟨by simp only [Region.wanted], ?_⟩) hS ?_
     rotate_left
     ·intro wz hSw
      clear hSw
      go_simp
      first | done | with_reducible rfl
     try simp only [Act.put, List.setIfInBounds_toArray, List.set_cons_zero, List.set_cons_succ]
     refine wpAnyT_take (i := 3) (oi := ⟨some 63, _, _, _, _, _⟩) (v := ?_) rfl (by kernel_rfl) (by kernel_rfl) (by kernel_rfl) (by kernel_rfl) (fun _ _ _ h => h) (Or.inl ⟨by simp only [Region.wanted], ?_⟩) hS ?_
     rotate_left
     ·intro wz hSw
      clear hSw
      go_simp
      first | done | with_reducible rfl
     try simp only [Act.put, List.setIfInBounds_toArray, List.set_cons_zero, List.set_cons_succ]
     refine wpAnyT_take (i := 4) (oi := ⟨some 64, _, _, _, _, _⟩) (v := ?_) rfl (by kernel_rfl) (by kernel_rfl) (by kernel_rfl) (by kernel_rfl) (fun _ _ _ h => h) (Or.inl ⟨by simp only [Region.wanted], ?_⟩) hS ?_
     rotate_left
     ·intro wz hSw
      clear hSw
      go_simp
      first | done | with_reducible rfl
     try simp only [Act.put, List.setIfInBounds_toArray, List.set_cons_zero, List.set_cons_succ]
     refine wpAnyT_take (i := 5) (oi := ⟨some 65, _, _, _, _, _⟩) (v := ?_) rfl (by kernel_rfl) (by kernel_rfl) (by kernel_rfl) (by kernel_rfl) (fun _ _ _ h => h) (Or.inl ⟨by simp only [Region.wanted], ?_⟩) hS ?_
     rotate_left
     ·intro wz hSw
      clear hSw
      go_simp
      first | done | with_reducible rfl
     try simp only [Act.put, List.setIfInBounds_toArray, List.set_cons_zero, List.set_cons_succ]
     refine wpAnyT_take (i := 6) (oi := ⟨some 66, _, _, _, _, _⟩) (v := ?_) rfl (by kernel_rfl) (by kernel_rfl) (by kernel_rfl) (by kernel_rfl) (fun _ _ _ h => h) (Or.inl ⟨by simp only [Region.wanted], ?_⟩) hS ?_
     rotate_left
     ·intro wz hSw
      (try dsimp only at hSw)
      (try go_split_ands)
      go_simp
      first | done | with_reducible rfl
     try simp only [Act.put, List.setIfInBounds_toArray, List.set_cons_zero, List.set_cons_succ]
     refine wpAnyT_take (i := 7) (oi := ⟨some 67, _, _, _, _, _⟩) (v := ?_) rfl (by kernel_rfl) (by kernel_rfl) (by kernel_rfl) (by kernel_rfl) (fun _ _ _ h => h) (Or.inl ⟨by simp only [Region.wanted], ?_⟩) hS ?_
     rotate_left
     ·intro wz hSw
      clear hSw
      go_simp
      first | done | with_reducible rfl
     try simp only [Act.put, List.setIfInBounds_toArray, List.set_cons_zero, List.set_cons_succ]
     refine wpAnyT_take (i := 8) (oi := ⟨some 68, _, _, _, _, _⟩) (v := ?_) rfl (by kernel_rfl) (by kernel_rfl) (by kernel_rfl) (by kernel_rfl) (fun _ _ _ h => h) (Or.inl ⟨by simp only [Region.wanted], ?_⟩) hS ?_
     rotate_left
     ·intro wz hSw
      clear hSw
      go_simp
      first | done | with_reducible rfl
     try simp only [Act.put, List.setIfInBounds_toArray, List.set_cons_zero, List.set_cons_succ]
     refine wpAnyT_take (i := 10) (oi := ⟨some 70, _, _, _, _, _⟩) (v := ?_) rfl (by kernel_rfl) (by kernel_rfl) (by kernel_rfl) (by kernel_rfl) (fun _ _ _ h => h) (Or.inl ⟨by simp only [Region.wanted], ?_⟩) hS ?_
     rotate_left
     ·intro wz hSw
      clear hSw
      go_simp
      first | done | with_reducible rfl
     try simp only [Act.put, List.setIfInBounds_toArray, List.set_cons_zero, List.set_cons_succ]
     refine wpAnyT_take (i := 11) (oi := ⟨some 71, _, _, _, _, _⟩) (v := ?_) rfl (by kernel_rfl) (by kernel_rfl) (by kernel_rfl) (by kernel_rfl) (fun _ _ _ h => h) (Or.inl ⟨by simp only [Region.wanted], ?_⟩) hS ?_
     rotate_left
     ·intro wz hSw
      clear hSw
      go_simp
      first | done | with_reducible rfl
     try simp only [Act.put, List.setIfInBounds_toArray, List.set_cons_zero, List.set_cons_succ]
     refine wpAnyT_take (i := 12) (oi := ⟨some 72, _, _, _, _, _⟩) (v := ?_) rfl (by kernel_rfl) (by kernel_rfl) (by kernel_rfl) (by kernel_rfl) (fun _ _ _ h => h) (Or.inl ⟨by simp only [Region.wanted], ?_⟩) hS ?_
     rotate_left
     ·intro wz hSw
      clear hSw
      go_simp
      first | done | with_reducible rfl
     try simp only [Act.put, List.setIfInBounds_toArray, List.set_cons_zero, List.set_cons_succ]
     refine wpAnyT_take (i := 13) (oi := ⟨some 73, _, _, _, _, _⟩) (v := ?_) rfl (by kernel_rfl) (by kernel_rfl) (by kernel_rfl) (by kernel_rfl) (fun _ _ _ h => h) (Or.inl ⟨by simp only [Region.wanted], ?_⟩) hS ?_
     rotate_left
     ·intro wz hSw
      clear hSw
      go_simp
      first | done | with_reducible rfl
     try simp only [Act.put, List.setIfInBounds_toArray, List.set_cons_zero, List.set_cons_succ]
     refine wpAnyT_take (i := 14) (oi := ⟨some 74, _, _, _, _, _⟩) (v := ?_) rfl (by kernel_rfl) (by kernel_rfl) (by kernel_rfl) (by kernel_rfl) (fun _ _ _ h => h) (Or.inl ⟨by simp only [Region.wanted], ?_⟩) hS ?_
     rotate_left
     ·intro wz hSw
      (try dsimp only at hSw)
      (try go_split_ands)
      go_simp
      first | done | with_reducible rfl
     try simp only [Act.put, List.setIfInBounds_toArray, List.set_cons_zero, List.set_cons_succ]
     refine wpAnyT_take (i := 15) (oi := ⟨some 75, _, _, _, _, _⟩) (v := ?_) rfl (by kernel_rfl) (by kernel_rfl) (by kernel_rfl) (by kernel_rfl) (fun _ _ _ h => h) (Or.inl ⟨by simp only [Region.wanted], ?_⟩) hS ?_
     rotate_left
     ·intro wz hSw
      clear hSw
      go_simp
      first | done | with_reducible rfl
     try simp only [Act.put, List.setIfInBounds_toArray, List.set_cons_zero, List.set_cons_succ]
     refine wpAnyT_take (i := 16) (oi := ⟨some 76, _, _, _, _, _⟩) (v := ?_) rfl (by kernel_rfl) (by kernel_rfl) (by kernel_rfl) (by kernel_rfl) (fun _ _ _ h => h) (Or.inl ⟨by simp only [Region.wanted], ?_⟩) hS ?_
     rotate_left
     ·intro wz hSw
      clear hSw
      go_simp
      first | done | with_reducible rfl
     try simp only [Act.put, List.setIfInBounds_toArray, List.set_cons_zero, List.set_cons_succ]
     refine wpAnyT_ready (rs := [9]) (by kernel_rfl) (by simp) ?_
     refine AllReadyT.cons (o := ⟨some 69, _, _, _, _, _⟩) rfl (fun KK hK => ?_) (AllReadyT.nil)
     ·refine step_append_ss rfl _ _ rfl _ hM0.low (k9) (K.take i ++ [key]) rfl hM0.at3 (.slice (if cap = i then ao else Option.map (fun x => x.add i) ao) (n - i) (cap - i)) (K.drop i) rfl (by have h9 := (hM0.at1).ss; have := Ss.dropsIf (by rw [HKT.out.2.1]; exact h9) i (by rw [HKT.out.2.1]; omega); rw [HKT.out.2.1] at this; exact this) (by have e1 := HKT.out.2.1; have e2 := HKT.out.2.2; simp; omega) ?_
      intro k9v1 u1 ho hg hq
      have hM1 := hM0.grow3 _ _ ho hg hq
      clear ho hg hq
      refine hK.out _ _ (⟨by rw [(hM1.fix (x, #[.slice ao n cap, .slice ao2 n cap2], 31) (by simp)).1.cell]; rfl, by rw [(hM1.fix (x, #[.slice ao n cap, .slice ao2 n cap2], 31) (by simp)).1.cell]; rfl⟩) (fun hS => ?_)
      clear hK KK
      try simp only [Act.put, List.setIfInBounds_toArray, List.set_cons_zero, List.set_cons_succ]
      refine wpAnyT_ready (rs := [17]) (by kernel_rfl) (by simp) ?_
      refine AllReadyT.cons (o := ⟨some 77, _, _, _, _, _⟩) rfl (fun KK hK => ?_) (AllReadyT.nil)
      ·refine step_append_ss rfl _ _ rfl _ hM1.low (v9) (V.take i ++ [val]) rfl hM1.at4 (.slice (if cap2 = i then ao2 else Option.map (fun x => x.add i) ao2) (n - i) (cap2 - i)) (V.drop i) rfl (by have h9 := (hM1.at2).ss; have := Ss.dropsIf (by rw [HKT.out.2.2]; exact h9) i (by rw [HKT.out.2.2]; omega); rw [HKT.out.2.2] at this; exact this) (by have e1 := HKT.out.2.1; have e2 := HKT.out.2.2; simp; omega) ?_
       intro v9v2 u2 ho hg hq
       have hM2 := hM1.grow4 _ _ ho hg hq
       clear ho hg hq
       refine hK.out _ _ (⟨by rw [(hM2.fix (x, #[.slice ao n cap, .slice ao2 n cap2], 31) (by simp)).1.cell]; rfl, by rw [(hM2.fix (x, #[.slice ao n cap, .slice ao2 n cap2], 31) (by simp)).1.cell]; rfl⟩) (fun hS => ?_)
       clear hK KK
       try simp only [Act.put, List.setIfInBounds_toArray, List.set_cons_zero, List.set_cons_succ]
       refine wpAnyT_take (i := 18) (oi := ⟨some 78, _, _, _, _, _⟩) (v := ?_) rfl (by kernel_rfl) (by kernel_rfl) (by kernel_rfl) (by kernel_rfl) (fun _ _ _ h => h) (Or.inl ⟨by simp only [Region.wanted], ?_⟩) hS ?_
       rotate_left
       ·intro wz hSw
        clear hSw
        go_simp
        first | done | with_reducible rfl
       try simp only [Act.put, List.setIfInBounds_toArray, List.set_cons_zero, List.set_cons_succ]
       refine wpAnyT_take (i := 19) (oi := ⟨some 79, _, _, _, _, _⟩) (v := ?_) rfl (by kernel_rfl) (by kernel_rfl) (by kernel_rfl) (by kernel_rfl) (fun _ _ _ h => h) (Or.inl ⟨by simp only [Region.wanted], ?_⟩) hS ?_
       rotate_left
       ·intro wz hSw
        clear hSw
        go_simp
        first | done | with_reducible rfl
       try simp only [Act.put, List.setIfInBounds_toArray, List.set_cons_zero, List.set_cons_succ]
       obtain ⟨a1, p1, e1, -, -⟩ := (show OwnS _ _ k9v1 _ from hM2.at3).ss.form
       obtain ⟨a2, p2, e2, -, -⟩ := (show OwnS _ _ v9v2 _ from hM2.at4).ss.form
       generalize List.length _ = m1 at e1
       generalize List.length _ = m2 at e2
       subst e1 e2
       have c0 := hS.1
       have f0 := (hM2.fix (x, #[.slice ao n cap, .slice ao2 n cap2], 31) (by simp)).1.frozen 0
       refine wpAnyT_ready (rs := [20]) (by kernel_rfl) (by simp) ?_
       refine AllReadyT.last (o := ⟨none, _, _, _, _, _⟩) rfl (by kernel_rfl) (fun KK hK => ?_) (AllReadyT.nil)
       ·go_simp
        refine hK.out _ _ ?_
        clear hK KK
        try simp only [Act.put, List.setIfInBounds_toArray, List.set_cons_zero, List.set_cons_succ]
        have hv := (hM2.fix (x, #[.slice ao n cap, .slice ao2 n cap2], 31) (by simp)).1.set 0 (.slice a1 m1 p1)
        have c1 : (World.setCell u2 ⟨x, 0, none⟩ (.slice a1 m1 p1)).cell? ⟨x, 1, none⟩ = some (.slice ao2 n cap2) := by rw [hv.cell]; rfl
        have f1 := hv.frozen 1
        clear c0 f0 hv
        refine wpAnyT_takeL (i := 21) (oi := ⟨some 80, _, _, _, _, _⟩) (v := ?_) rfl (by kernel_rfl) (by kernel_rfl) (by kernel_rfl) (by kernel_rfl) (fun _ _ _ h => h) (Or.inl ⟨by simp only [Region.wanted], ?_⟩) ?_
        rotate_left
        ·intro wz hSw
         clear hSw
         go_simp
         first | done | with_reducible rfl
        try simp only [Act.put, List.setIfInBounds_toArray, List.set_cons_zero, List.set_cons_succ]
        refine wpAnyT_takeL (i := 22) (oi := ⟨some 81, _, _, _, _, _⟩) (v := ?_) rfl (by kernel_rfl) (by kernel_rfl) (by kernel_rfl) (by kernel_rfl) (fun _ _ _ h => h) (Or.inl ⟨by simp only [Region.wanted], ?_⟩) ?_
        rotate_left
        ·intro wz hSw
         clear hSw
         go_simp
         first | done | with_reducible rfl
        try simp only [Act.put, List.setIfInBounds_toArray, List.set_cons_zero, List.set_cons_succ]
        refine wpAnyT_ready (rs := [23]) (by kernel_rfl) (by simp) ?_
        refine AllReadyT.last (o := ⟨none, _, _, _, _, _⟩) rfl (by kernel_rfl) (fun KK hK => ?_) (AllReadyT.nil)
        ·go_simp
         refine hK.out _ _ ?_
         clear hK KK
         try simp only [Act.put, List.setIfInBounds_toArray, List.set_cons_zero, List.set_cons_succ]
         refine wpAnyT_done (by kernel_rfl) ?_ _
         have HFN := Lib.hid (MapAt.fin HBK.out HDX.out hM2 (List.Sublist.cons _ (List.Sublist.cons _ (List.Sublist.cons_cons _ (List.Sublist.cons_cons _ (List.nil_sublist _))))))
         clear c1 f1 hS hQ hM0 hM1 hM2
         generalize (if cap = i then ao else Option.map (fun x => x.add i) ao) = q1
         generalize (if cap2 = i then ao2 else Option.map (fun x => x.add i) ao2) = q2
         go_wp2_with fail
         go_ret
         have hfn := HFN.out
         rw [List.append_assoc, List.append_assoc] at hfn
         exact ⟨rfl, _, _, hfn⟩
end Go.Proofs.Ytpfjbcfnpfgidaa
