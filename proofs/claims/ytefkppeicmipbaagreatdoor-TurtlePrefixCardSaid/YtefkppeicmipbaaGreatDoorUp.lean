/- Triples as text: object. -/
import Derived.Test.YtefkppeicmipbaaGreatDoorUo
import Derived.ScopeJumps
namespace Go.Proofs.YtefkppeicmipbaaGreatDoor
open Go.RowKit Go.Shelf Go.Maps
set_option maxRecDepth 100000
set_option linter.unusedVariables false
set_option linter.unusedSimpArgs false
theorem obj_brk (lab : ByteArray) (n : Nat) {s : St} (h : s.peek = sg [91]) : objP lab (n + 1) s = ((brkP lab n s.next.down).1, (brkP lab n s.next.down).2.up) := by rw [objP, if_pos h]
theorem obj_5 (lab : ByteArray) (n : Nat) {s : St} (h : s.peek.1 = 5) : objP lab (n + 1) s = (litT s.peek.2 s.next, litS s.next) := by
  rw [objP, if_neg (fun e => by rw [e] at h; exact absurd h (by decide)), if_pos h]
theorem obj_bool (lab : ByteArray) (n : Nat) {s : St} (h : s.peek = trueT ∨ s.peek = falseT) : objP lab (n + 1) s = (typed (bl s.peek.2) xBoolB, s.next) := by
  have h8 : s.peek.1 = 8 := by rcases h with h | h <;> rw [h] <;> rfl
  rw [objP, if_neg (fun e => by rw [e] at h8; exact absurd h8 (by decide)), if_neg (by rw [h8]; decide), if_pos h]
theorem obj_7 (lab : ByteArray) (n : Nat) {s : St} (h : s.peek.1 = 7) : objP lab (n + 1) s = (numT [] s.peek, s.next) := by
  rw [objP, if_neg (fun e => by rw [e] at h; exact absurd h (by decide)), if_neg (by rw [h]; decide), if_neg (by rintro (e | e) <;> rw [e] at h <;> exact absurd h (by decide)), if_pos h]
theorem obj_minus (lab : ByteArray) (n : Nat) {s : St} (h : s.peek = sg [45]) : objP lab (n + 1) s = (numT [45] s.next.peek, numS s.next.peek s.next.next) := by
  rw [objP, h, if_neg (by decide), if_neg (show ¬ (sg [45]).1 = 5 by decide), if_neg (by decide), if_neg (show ¬ (sg [45]).1 = 7 by decide), if_pos rfl]
theorem obj_plus (lab : ByteArray) (n : Nat) {s : St} (h : s.peek = sg [43]) : objP lab (n + 1) s = (numT [] s.next.peek, numS s.next.peek s.next.next) := by
  rw [objP, h, if_neg (by decide), if_neg (show ¬ (sg [43]).1 = 5 by decide), if_neg (by decide), if_neg (show ¬ (sg [43]).1 = 7 by decide), if_neg (by decide), if_pos rfl]
theorem obj_node (lab : ByteArray) (n : Nat) {s : St} (h1 : ¬ s.peek = sg [91]) (h2 : ¬ s.peek.1 = 5) (h3 : ¬ s.peek = trueT) (h4 : ¬ s.peek = falseT) (h5 : ¬ s.peek.1 = 7) (h6 : ¬ s.peek = sg [45]) (h7 : ¬ s.peek = sg [43]) : objP lab (n + 1) s = nodeP lab n s.peek s.next := by
  rw [objP, if_neg h1, if_neg h2, if_neg (by rintro (e | e); exact h3 e; exact h4 e), if_neg h5, if_neg h6, if_neg h7]
theorem index_mem : ∀ (l : List UInt8) (c : UInt8), c ∈ l ↔ 0 ≤ Lib.indexByte l c
  | [], c => by simp [Lib.indexByte]
  | b :: l, c => by
    have ih := index_mem l c
    have hlt : -1 ≤ Lib.indexByte l c := by
      clear ih
      induction l with
      | nil => exact Int.le_refl _
      | cons x r ih => rw [Lib.indexByte]; split; decide; split; decide; omega
    rw [Lib.indexByte, List.mem_cons]
    by_cases h : b = c
    · subst h; simp
    · have h1 : (b == c) = false := by simpa using h
      rw [h1]
      simp only [Bool.false_eq_true, if_false]
      by_cases h2 : c ∈ l
      · have h3 := ih.1 h2
        have h4 : (Lib.indexByte l c == -1) = false := by rw [beq_eq_false_iff_ne]; omega
        rw [h4]
        simp only [Bool.false_eq_true, if_false]
        exact ⟨fun _ => by omega, fun _ => .inr h2⟩
      · have h3 : ¬ 0 ≤ Lib.indexByte l c := fun h => h2 (ih.2 h)
        have h4 : (Lib.indexByte l c == -1) = true := by rw [beq_iff_eq]; omega
        rw [h4]
        exact ⟨fun h5 => by rcases h5 with h5 | h5; exact absurd h5.symm h; exact absurd h5 h2, fun h5 => by simp at h5⟩
theorem obj_num (lab : ByteArray) (s : St) (h : s.peek.1 = 7) : numS s.peek s.next = s.next := if_pos h
set_option maxHeartbeats 16000000 in
theorem tobject {n : Nat} (hC : C12 n) {w : World} {P : Pl} {tv : Value} {s : St} (h : RdT w P tv s) (hn : 4 * s.len + 2 ≤ n + 1) :
    Calls Tryz.prog 53 #[.pointer (some ⟨P.r, 0, none⟩)] w (To12 P w tv (objP P.lab (n + 1) s).1.val (objP P.lab (n + 1) s).2) := by
  have hst := h.start
  have hnx := tnext hst.1.rd
  have hpk := h.inv.peek
  have hpk2 := h.inv.next.peek
  obtain ⟨X, hX⟩ : ∃ X, X = (objP P.lab (n + 1) s).1 := ⟨_, rfl⟩
  obtain ⟨Q, hQ⟩ : ∃ Q, Q = (objP P.lab (n + 1) s).2 := ⟨_, rfl⟩
  rw [← hX, ← hQ]
  have HX := Lib.hid (And.intro hX hQ)
  clear hX hQ
  obtain ⟨q1, q2, hq⟩ : ∃ q1 q2, s.peek = (q1, q2) := ⟨_, _, rfl⟩
  obtain ⟨p1, p2, hp⟩ : ∃ p1 p2, s.next.peek = (p1, p2) := ⟨_, _, rfl⟩
  rw [hq] at hnx hpk
  rw [hp] at hpk2
  dsimp only at hpk hpk2
  unfold tokV at hnx
  dsimp only at hnx
  have HNX := Lib.hid hnx
  have hn2 := fun w1 tv1 (r : RdT w1 P tv1 s.next) => tnext r
  rw [hp] at hn2
  unfold tokV at hn2
  dsimp only at hn2
  have HN2 := Lib.hid hn2
  have HG0 := Lib.hid hst.1
  have HT0 := Lib.hid hst.2
  have HQ := Lib.hid (And.intro hq hp)
  have HBD := Lib.hid (And.intro hpk hpk2)
  have HC := Lib.hid hC
  have HN := Lib.hid (And.intro hn (len_next s))
  have HI := Lib.hid h.inv
  have HSG := Lib.hid (fun l w => tsign l w)
  have HSB := Lib.hid (fun w => tsign ⟨#[91]⟩ w)
  have HSM := Lib.hid (fun w => tsign ⟨#[45]⟩ w)
  have HSP := Lib.hid (fun w => tsign ⟨#[43]⟩ w)
  have HWT := Lib.hid (fun w => tword ⟨#[116, 114, 117, 101]⟩ w)
  have HWF := Lib.hid (fun w => tword ⟨#[102, 97, 108, 115, 101]⟩ w)
  have HTY := Lib.hid (fun l m w => ttyped l m w)
  have HLI := Lib.hid (fun w1 tv1 (r : RdT w1 P tv1 s.next) => tliteral r q2)
  have HFL := Lib.hid (fun w1 tv1 s1 (r : RdT w1 P tv1 s1) => tfail r 6)
  have hmf : ∀ (f : Nat) (a b : Array Value) (w : World), (Instr.makeFunc (.func f) a b).run Tryz.prog w = .ok (.func (.func f) a b) w := fun f a b w => rfl
  obtain ⟨d1, hd1⟩ : ∃ d, d = decide ((q1, q2) = ((9 : Int), ([91] : List UInt8))) := ⟨_, rfl⟩
  obtain ⟨d2, hd2⟩ : ∃ d, d = decide ((q1, q2) = ((8 : Int), ([116, 114, 117, 101] : List UInt8))) := ⟨_, rfl⟩
  obtain ⟨d3, hd3⟩ : ∃ d, d = decide ((q1, q2) = ((8 : Int), ([102, 97, 108, 115, 101] : List UInt8))) := ⟨_, rfl⟩
  obtain ⟨d5, hd5⟩ : ∃ d, d = decide ((q1, q2) = ((9 : Int), ([45] : List UInt8))) := ⟨_, rfl⟩
  obtain ⟨d6, hd6⟩ : ∃ d, d = decide ((q1, q2) = ((9 : Int), ([43] : List UInt8))) := ⟨_, rfl⟩
  have HIF1 := Lib.hid (fun wz : World => show (if q1 = 9 then if q2 = [91] then Result.ok (Next.value (Value.bool true)) wz else Result.ok (Next.value (Value.bool false)) wz else Result.ok (Next.value (Value.bool false)) wz) = Result.ok (Next.value (Value.bool d1)) wz from by
    rw [hd1]
    by_cases h1 : q1 = 9 <;> by_cases h2 : q2 = [91] <;> simp [h1, h2])
  have HIF2 := Lib.hid (fun wz : World => show (if q1 = 8 then if q2 = [116, 114, 117, 101] then Result.ok (Next.value (Value.bool true)) wz else Result.ok (Next.value (Value.bool false)) wz else Result.ok (Next.value (Value.bool false)) wz) = Result.ok (Next.value (Value.bool d2)) wz from by
    rw [hd2]
    by_cases h1 : q1 = 8 <;> by_cases h2 : q2 = [116, 114, 117, 101] <;> simp [h1, h2])
  have HIF3 := Lib.hid (fun wz : World => show (if q1 = 8 then if q2 = [102, 97, 108, 115, 101] then Result.ok (Next.value (Value.bool true)) wz else Result.ok (Next.value (Value.bool false)) wz else Result.ok (Next.value (Value.bool false)) wz) = Result.ok (Next.value (Value.bool d3)) wz from by
    rw [hd3]
    by_cases h1 : q1 = 8 <;> by_cases h2 : q2 = [102, 97, 108, 115, 101] <;> simp [h1, h2])
  have HIF5 := Lib.hid (fun wz : World => show (if q1 = 9 then if q2 = [45] then Result.ok (Next.value (Value.bool true)) wz else Result.ok (Next.value (Value.bool false)) wz else Result.ok (Next.value (Value.bool false)) wz) = Result.ok (Next.value (Value.bool d5)) wz from by
    rw [hd5]
    by_cases h1 : q1 = 9 <;> by_cases h2 : q2 = [45] <;> simp [h1, h2])
  have HIF6 := Lib.hid (fun wz : World => show (if q1 = 9 then if q2 = [43] then Result.ok (Next.value (Value.bool true)) wz else Result.ok (Next.value (Value.bool false)) wz else Result.ok (Next.value (Value.bool false)) wz) = Result.ok (Next.value (Value.bool d6)) wz from by
    rw [hd6]
    by_cases h1 : q1 = 9 <;> by_cases h2 : q2 = [43] <;> simp [h1, h2])
  have HD1 := Lib.hid hd1
  have HD2 := Lib.hid hd2
  have HD3 := Lib.hid hd3
  have HD5 := Lib.hid hd5
  have HD6 := Lib.hid hd6
  clear h hst hnx hpk hpk2 hq hp hn2 hC hn hd1 hd2 hd3 hd5 hd6
  go_enter Tryz.func53, Tryz.ntmps53
  go_wp2_with fail
  generalize World.alloc w _ = w0 at HNX HG0 HT0 ⊢
  refine wp_scope_jumps 0 (fun a' w' => ∃ (m : ByteArray) (T : Nat) (e1 : Int) (e2 : List UInt8) (tvx : Value) (sx : St), ∃ u : Nat → Value, a' = { tmps := #[.pointer (some ⟨P.r, 0, none⟩), u 1, .pointer (some ⟨w.heap.size, 0, none⟩), .string m, .pointer (some ⟨T, 0, none⟩), u 5, u 6, u 7, u 8, u 9, u 10, u 11, u 12, u 13, u 14, u 15, u 16, u 17, u 18, u 19, u 20, u 21, u 22, u 23, u 24, u 25, u 26, u 27, u 28, u 29, u 30, u 31, u 32, u 33, u 34, u 35, u 36, u 37, u 38, u 39, u 40, u 41, u 42, u 43, u 44, u 45, u 46, u 47, u 48, u 49, u 50, u 51, u 52, u 53, u 54, u 55, u 56, u 57, u 58, u 59, u 60, u 61, u 62, u 63, u 64, u 65, u 66, u 67, u 68, u 69], defers := [] } ∧ Go12 P w tv w' tvx sx ∧ Tp w' P tvx w.heap.size #[.int .i64 0, .string ⟨#[]⟩, .string ⟨#[]⟩, .string ⟨#[]⟩] 33 ∧ Tp w' P tvx T #[.int .i64 e1, .string ⟨e2.toArray⟩] 47 ∧ m.size ≤ 1 ∧ e2.length ≤ 90000 ∧ X = numT m.data.toList (e1, e2) ∧ Q = numS (e1, e2) sx) (fun _ _ => 0) rfl ?_ ?_
  · skip
    go_wp2_with fail
    refine HNX.out.mono ?_
    rintro e w1 ⟨rfl, tv1, hg1⟩
    have HG := Lib.hid ((HG0.out.trans hg1).alloc (.cells #[.int .i64 q1, .string ⟨q2.toArray⟩] 47))
    have HT := Lib.hid ((HT0.out.go hg1).alloc (.cells #[.int .i64 q1, .string ⟨q2.toArray⟩] 47))
    have HK := Lib.hid (Tp.new hg1.rd #[.int .i64 q1, .string ⟨q2.toArray⟩] 47)
    have HKW := Lib.hid ((HT0.out.go hg1).blk.lt)
    clear hg1
    go_wp2_with fail
    generalize World.alloc w1 _ = W at HG HT HK ⊢
    generalize w1.heap.size = K at HK HKW ⊢
    refine wp_region_any (by kernel_rfl) ?_
    change wpAny _ _ _ _ _ _ _ (World.drew _)
    refine wpAny_of_held (S := fun w' => Go12 P w tv w' tv1 (s.next) ∧ Tp w' P tv1 (w.heap.size) #[.int .i64 0, .string ⟨#[]⟩, .string ⟨#[]⟩, .string ⟨#[]⟩] 33 ∧ Tp w' P tv1 (K) #[.int .i64 q1, .string ⟨q2.toArray⟩] 47) _ _ _ _ ?_
    have hS : (fun w' => Go12 P w tv w' tv1 (s.next) ∧ Tp w' P tv1 (w.heap.size) #[.int .i64 0, .string ⟨#[]⟩, .string ⟨#[]⟩, .string ⟨#[]⟩] 33 ∧ Tp w' P tv1 (K) #[.int .i64 q1, .string ⟨q2.toArray⟩] 47) _ := ⟨HG.out.below (below_drew1 _), HT.out.go ((Go12.refl HG.out.rd).below (below_drew1 _)), HK.out.go ((Go12.refl HG.out.rd).below (below_drew1 _))⟩
    refine wpAnyH_take (i := 0) (oi := ⟨some 8, _, _, _, _, _⟩) (v := ?_) rfl (by kernel_rfl) (by kernel_rfl) (by kernel_rfl) (fun _ _ _ h => h) (Or.inl ⟨by simp only [Region.wanted], ?_⟩) hS ?_
    rotate_left
    · intro wz hSw; obtain ⟨-, k0, k1, -, -⟩ := hSw.2.2.two
      clear hSw
      go_simp
      first | done | with_reducible rfl
    try simp only [Act.put, List.setIfInBounds_toArray, List.set_cons_zero, List.set_cons_succ]
    refine wpAnyH_ready (rs := [1]) (by kernel_rfl) (by simp) ?_
    refine AllReadyH.cons (o := ⟨some 9, _, _, _, _, _⟩) rfl (fun K hK => ?_) AllReadyH.nil
    go_simp
    refine (HSB.out _).mono ?_
    rintro e wq ⟨rfl, hbq⟩
    have HG2 := Lib.hid ((HG.out.below (below_drew1 _)).below hbq)
    have HR2 := Lib.hid (HT.out.go (((Go12.refl HG.out.rd).below (below_drew1 _)).below hbq))
    have HK2 := Lib.hid (HK.out.go (((Go12.refl HG.out.rd).below (below_drew1 _)).below hbq))
    clear hbq
    refine hK.out _ _ (⟨HG2.out, HR2.out, HK2.out⟩) (fun hS => ?_)
    clear hK K
    try simp only [Act.put, List.setIfInBounds_toArray, List.set_cons_zero, List.set_cons_succ]
    refine wpAnyH_take (i := 2) (oi := ⟨some 10, _, _, _, _, _⟩) (v := ?_) rfl (by kernel_rfl) (by kernel_rfl) (by kernel_rfl) (fun _ _ _ h => h) (Or.inl ⟨by simp only [Region.wanted], ?_⟩) hS ?_
    rotate_left
    · intro wz hSw
      clear hSw
      go_simp
      first | done | with_reducible rfl | exact HIF1.out wz
    try simp only [Act.put, List.setIfInBounds_toArray, List.set_cons_zero, List.set_cons_succ]
    refine wpAnyH_take (i := 3) (oi := ⟨some 7, _, _, _, _, _⟩) (v := ?_) rfl (by kernel_rfl) (by kernel_rfl) (by kernel_rfl) (fun _ _ _ h => h) (Or.inl ⟨by simp only [Region.wanted], ?_⟩) hS ?_
    rotate_left
    · intro wz hSw
      clear hSw
      go_simp
      first | done | with_reducible rfl
    try simp only [Act.put, List.setIfInBounds_toArray, List.set_cons_zero, List.set_cons_succ]
    refine wpAnyH_done (by kernel_rfl) ?_ _
    clear hS
    clear HG HT HK
    cases d1 with
    | true =>
      have hqs : s.peek = sg [91] := HQ.out.1.trans (of_decide_eq_true HD1.out.symm)
      have he := obj_brk P.lab n hqs
      obtain ⟨Y, hY⟩ : ∃ Y, Y = brkP P.lab n s.next.down := ⟨_, rfl⟩
      rw [← hY] at he
      have hx : X = Y.1 := by rw [HX.out.1, he]
      have hq : Q = Y.2.up := by rw [HX.out.2, he]
      have hB : ∀ w1 tv1, RdT w1 P tv1 s.next.down → Calls Tryz.prog 23 #[.pointer (some ⟨P.r, 0, none⟩)] w1 (To12 P w1 tv1 Y.1.val Y.2) := fun w1 tv1 r => by
        rw [hY]
        exact HC.out.brk w1 P tv1 _ r (by have := len_next1 (s := s) (by rw [hqs]; decide); have := len_down s.next; have := HN.out.1; omega)
      obtain ⟨⟨xk, xs, xl, xt⟩, YS⟩ := Y
      dsimp only at hx hq hB
      have hdc := fun w1 tv1 (r : RdT w1 P tv1 s.next) => tdeep_brk r ⟨xk, xs, xl, xt⟩ YS hB
      subst hx hq
      unfold Tm.val at hdc
      dsimp only at hdc
      have HDD := Lib.hid hdc
      clear hdc hB hY hqs he
      go_wp2_with fail
      refine (HDD.out _ _ HG2.out.rd).mono ?_
      rintro e w3 ⟨rfl, tv3, hg3⟩
      have HG3 := Lib.hid (HG2.out.trans hg3)
      have HT3 := Lib.hid (HR2.out.go hg3)
      clear hg3
      have HF := Lib.hid (HG3.out.temp4 HT3.out (.int .i64 xk) (.string xs) (.string xl) (.string xt) (Nat.le_refl _))
      obtain ⟨t0, t1, t2, t3, t4, y1, y2, y3, y4⟩ := (HT3.out).four
      go_wp2_with fail
      try simp only [Exit.inBlock, Exit.then, Exit.jump]
      exact bodyPost_ret (v := .agg #[.int .i64 xk, .string xs, .string xl, .string xt]) (results_tm (p := 2) (by kernel_rfl) _ _ w.heap.size _ _ _ _ _ rfl HF.out.2.blk) rfl ⟨rfl, tv3, HF.out.1⟩
    | false =>
      have hn91 : ¬ s.peek = sg [91] := fun h => of_decide_eq_false HD1.out.symm (HQ.out.1.symm.trans h)
      have HN91 := Lib.hid hn91
      clear hn91
      obtain ⟨k9, k0, k1, z0, z1⟩ := HK2.out.two
      by_cases h5 : q1 = 5
      · skip
        have hqb : (q1 == 5) = true := by rw [h5]; rfl
        have he := obj_5 P.lab n (s := s) (by rw [HQ.out.1]; exact h5)
        rw [HQ.out.1] at he
        obtain ⟨Y, hY⟩ : ∃ Y, Y = litT q2 s.next := ⟨_, rfl⟩
        dsimp only at he
        rw [← hY] at he
        have hx : X = Y := by rw [HX.out.1, he]
        have hq : Q = litS s.next := by rw [HX.out.2, he]
        have hli := HLI.out
        rw [← hY] at hli
        obtain ⟨xk, xs, xl, xt⟩ := Y
        subst hx hq
        unfold Tm.val at hli
        dsimp only at hli
        have HLL := Lib.hid hli
        clear hli hY he
        go_wp2_with fail
        refine (HLL.out _ _ HG2.out.rd).mono ?_
        rintro e w3 ⟨rfl, tv3, hg3⟩
        have HG3 := Lib.hid (HG2.out.trans hg3)
        have HT3 := Lib.hid (HR2.out.go hg3)
        clear hg3
        have HF := Lib.hid (HG3.out.temp4 HT3.out (.int .i64 xk) (.string xs) (.string xl) (.string xt) (Nat.le_refl _))
        obtain ⟨t0, t1, t2, t3, t4, y1, y2, y3, y4⟩ := (HT3.out).four
        go_wp2_with fail
        try simp only [Exit.inBlock, Exit.then, Exit.jump]
        exact bodyPost_ret (v := .agg #[.int .i64 xk, .string xs, .string xl, .string xt]) (results_tm (p := 2) (by kernel_rfl) _ _ w.heap.size _ _ _ _ _ rfl HF.out.2.blk) rfl ⟨rfl, tv3, HF.out.1⟩
      have hqb5 : (q1 == 5) = false := by simpa using h5
      go_wp2_with fail
      refine wp_region_any (by kernel_rfl) ?_
      change wpAny _ _ _ _ _ _ _ (World.drew _)
      refine wpAny_of_held (S := fun w' => Go12 P w tv w' tv1 (s.next) ∧ Tp w' P tv1 (w.heap.size) #[.int .i64 0, .string ⟨#[]⟩, .string ⟨#[]⟩, .string ⟨#[]⟩] 33 ∧ Tp w' P tv1 (K) #[.int .i64 q1, .string ⟨q2.toArray⟩] 47) _ _ _ _ ?_
      have hS : (fun w' => Go12 P w tv w' tv1 (s.next) ∧ Tp w' P tv1 (w.heap.size) #[.int .i64 0, .string ⟨#[]⟩, .string ⟨#[]⟩, .string ⟨#[]⟩] 33 ∧ Tp w' P tv1 (K) #[.int .i64 q1, .string ⟨q2.toArray⟩] 47) _ := ⟨HG2.out.below (below_drew1 _), HR2.out.go ((Go12.refl HG2.out.rd).below (below_drew1 _)), HK2.out.go ((Go12.refl HG2.out.rd).below (below_drew1 _))⟩
      refine wpAnyH_take (i := 0) (oi := ⟨some 16, _, _, _, _, _⟩) (v := ?_) rfl (by kernel_rfl) (by kernel_rfl) (by kernel_rfl) (fun _ _ _ h => h) (Or.inl ⟨by simp only [Region.wanted], ?_⟩) hS ?_
      rotate_left
      · intro wz hSw; obtain ⟨-, k0, k1, -, -⟩ := hSw.2.2.two
        clear hSw
        go_simp
        first | done | with_reducible rfl
      try simp only [Act.put, List.setIfInBounds_toArray, List.set_cons_zero, List.set_cons_succ]
      refine wpAnyH_ready (rs := [1]) (by kernel_rfl) (by simp) ?_
      refine AllReadyH.cons (o := ⟨some 17, _, _, _, _, _⟩) rfl (fun K hK => ?_) AllReadyH.nil
      go_simp
      refine (HWT.out _).mono ?_
      rintro e wq ⟨rfl, hbq⟩
      have HG3 := Lib.hid ((HG2.out.below (below_drew1 _)).below hbq)
      have HR3 := Lib.hid (HR2.out.go (((Go12.refl HG2.out.rd).below (below_drew1 _)).below hbq))
      have HK3 := Lib.hid (HK2.out.go (((Go12.refl HG2.out.rd).below (below_drew1 _)).below hbq))
      clear hbq
      refine hK.out _ _ (⟨HG3.out, HR3.out, HK3.out⟩) (fun hS => ?_)
      clear hK K
      try simp only [Act.put, List.setIfInBounds_toArray, List.set_cons_zero, List.set_cons_succ]
      refine wpAnyH_take (i := 2) (oi := ⟨some 18, _, _, _, _, _⟩) (v := ?_) rfl (by kernel_rfl) (by kernel_rfl) (by kernel_rfl) (fun _ _ _ h => h) (Or.inl ⟨by simp only [Region.wanted], ?_⟩) hS ?_
      rotate_left
      · intro wz hSw
        clear hSw
        go_simp
        first | done | with_reducible rfl | exact HIF2.out wz
      try simp only [Act.put, List.setIfInBounds_toArray, List.set_cons_zero, List.set_cons_succ]
      refine wpAnyH_take (i := 3) (oi := ⟨some 15, _, _, _, _, _⟩) (v := ?_) rfl (by kernel_rfl) (by kernel_rfl) (by kernel_rfl) (fun _ _ _ h => h) (Or.inl ⟨by simp only [Region.wanted], ?_⟩) hS ?_
      rotate_left
      · intro wz hSw
        clear hSw
        go_simp
        first | done | with_reducible rfl
      try simp only [Act.put, List.setIfInBounds_toArray, List.set_cons_zero, List.set_cons_succ]
      refine wpAnyH_done (by kernel_rfl) ?_ _
      clear hS
      clear HG2 HR2 HK2 k9 k0 k1 z0 z1
      cases d2 with
      | true =>
        have hqs : s.peek = trueT ∨ s.peek = falseT := .inl (HQ.out.1.trans (of_decide_eq_true HD2.out.symm))
        have he := obj_bool P.lab n hqs
        rw [HQ.out.1] at he
        dsimp only at he
        have hx : X = typed (bl q2) xBoolB := by rw [HX.out.1, he]
        have hq : Q = s.next := by rw [HX.out.2, he]
        subst hx hq
        clear hqs he
        obtain ⟨k9, k0, k1, -, -⟩ := HK3.out.two
        go_wp2_with fail
        refine (HTY.out _ _ _).mono ?_
        rintro e w5 ⟨rfl, hb5⟩
        have HG5 := Lib.hid (HG3.out.below hb5)
        have HT5 := Lib.hid (HR3.out.go ((Go12.refl HG3.out.rd).below hb5))
        clear hb5 k0 k1 k9
        unfold typed nobT Tm.val
        dsimp only
        have HF := Lib.hid (HG5.out.temp4 HT5.out (.int .i64 3) (.string ⟨q2.toArray⟩) (.string ⟨#[]⟩) (.string xBoolB) (Nat.le_refl _))
        obtain ⟨t0, t1, t2, t3, t4, y1, y2, y3, y4⟩ := (HT5.out).four
        unfold xBoolB bl at HF
        go_wp2_with fail
        try simp only [Exit.inBlock, Exit.then, Exit.jump]
        exact bodyPost_ret (results_tm (p := 2) (by kernel_rfl) _ _ w.heap.size _ _ _ _ _ rfl HF.out.2.blk) rfl ⟨rfl, tv1, HF.out.1⟩
      | false =>
        have hnT : ¬ s.peek = trueT := fun h => of_decide_eq_false HD2.out.symm (HQ.out.1.symm.trans h)
        have HNT := Lib.hid hnT
        clear hnT
        go_wp2_with fail
        refine wp_region_any (by kernel_rfl) ?_
        change wpAny _ _ _ _ _ _ _ (World.drew _)
        refine wpAny_of_held (S := fun w' => Go12 P w tv w' tv1 (s.next) ∧ Tp w' P tv1 (w.heap.size) #[.int .i64 0, .string ⟨#[]⟩, .string ⟨#[]⟩, .string ⟨#[]⟩] 33 ∧ Tp w' P tv1 (K) #[.int .i64 q1, .string ⟨q2.toArray⟩] 47) _ _ _ _ ?_
        have hS : (fun w' => Go12 P w tv w' tv1 (s.next) ∧ Tp w' P tv1 (w.heap.size) #[.int .i64 0, .string ⟨#[]⟩, .string ⟨#[]⟩, .string ⟨#[]⟩] 33 ∧ Tp w' P tv1 (K) #[.int .i64 q1, .string ⟨q2.toArray⟩] 47) _ := ⟨HG3.out.below (below_drew1 _), HR3.out.go ((Go12.refl HG3.out.rd).below (below_drew1 _)), HK3.out.go ((Go12.refl HG3.out.rd).below (below_drew1 _))⟩
        refine wpAnyH_take (i := 0) (oi := ⟨some 19, _, _, _, _, _⟩) (v := ?_) rfl (by kernel_rfl) (by kernel_rfl) (by kernel_rfl) (fun _ _ _ h => h) (Or.inl ⟨by simp only [Region.wanted], ?_⟩) hS ?_
        rotate_left
        · intro wz hSw; obtain ⟨-, k0, k1, -, -⟩ := hSw.2.2.two
          clear hSw
          go_simp
          first | done | with_reducible rfl
        try simp only [Act.put, List.setIfInBounds_toArray, List.set_cons_zero, List.set_cons_succ]
        refine wpAnyH_ready (rs := [1]) (by kernel_rfl) (by simp) ?_
        refine AllReadyH.cons (o := ⟨some 20, _, _, _, _, _⟩) rfl (fun K hK => ?_) AllReadyH.nil
        go_simp
        refine (HWF.out _).mono ?_
        rintro e wq ⟨rfl, hbq⟩
        have HG4 := Lib.hid ((HG3.out.below (below_drew1 _)).below hbq)
        have HR4 := Lib.hid (HR3.out.go (((Go12.refl HG3.out.rd).below (below_drew1 _)).below hbq))
        have HK4 := Lib.hid (HK3.out.go (((Go12.refl HG3.out.rd).below (below_drew1 _)).below hbq))
        clear hbq
        refine hK.out _ _ (⟨HG4.out, HR4.out, HK4.out⟩) (fun hS => ?_)
        clear hK K
        try simp only [Act.put, List.setIfInBounds_toArray, List.set_cons_zero, List.set_cons_succ]
        refine wpAnyH_take (i := 2) (oi := ⟨some 21, _, _, _, _, _⟩) (v := ?_) rfl (by kernel_rfl) (by kernel_rfl) (by kernel_rfl) (fun _ _ _ h => h) (Or.inl ⟨by simp only [Region.wanted], ?_⟩) hS ?_
        rotate_left
        · intro wz hSw
          clear hSw
          go_simp
          first | done | with_reducible rfl | exact HIF3.out wz
        try simp only [Act.put, List.setIfInBounds_toArray, List.set_cons_zero, List.set_cons_succ]
        refine wpAnyH_take (i := 3) (oi := ⟨some 15, _, _, _, _, _⟩) (v := ?_) rfl (by kernel_rfl) (by kernel_rfl) (by kernel_rfl) (fun _ _ _ h => h) (Or.inl ⟨by simp only [Region.wanted], ?_⟩) hS ?_
        rotate_left
        · intro wz hSw
          clear hSw
          go_simp
          first | done | with_reducible rfl
        try simp only [Act.put, List.setIfInBounds_toArray, List.set_cons_zero, List.set_cons_succ]
        refine wpAnyH_done (by kernel_rfl) ?_ _
        clear hS
        clear HG3 HR3 HK3
        cases d3 with
        | true =>
          have hqs : s.peek = trueT ∨ s.peek = falseT := .inr (HQ.out.1.trans (of_decide_eq_true HD3.out.symm))
          have he := obj_bool P.lab n hqs
          rw [HQ.out.1] at he
          dsimp only at he
          have hx : X = typed (bl q2) xBoolB := by rw [HX.out.1, he]
          have hq : Q = s.next := by rw [HX.out.2, he]
          subst hx hq
          clear hqs he
          obtain ⟨k9, k0, k1, -, -⟩ := HK4.out.two
          go_wp2_with fail
          refine (HTY.out _ _ _).mono ?_
          rintro e w5 ⟨rfl, hb5⟩
          have HG5 := Lib.hid (HG4.out.below hb5)
          have HT5 := Lib.hid (HR4.out.go ((Go12.refl HG4.out.rd).below hb5))
          clear hb5 k0 k1 k9
          unfold typed nobT Tm.val
          dsimp only
          have HF := Lib.hid (HG5.out.temp4 HT5.out (.int .i64 3) (.string ⟨q2.toArray⟩) (.string ⟨#[]⟩) (.string xBoolB) (Nat.le_refl _))
          obtain ⟨t0, t1, t2, t3, t4, y1, y2, y3, y4⟩ := (HT5.out).four
          unfold xBoolB bl at HF
          go_wp2_with fail
          try simp only [Exit.inBlock, Exit.then, Exit.jump]
          exact bodyPost_ret (results_tm (p := 2) (by kernel_rfl) _ _ w.heap.size _ _ _ _ _ rfl HF.out.2.blk) rfl ⟨rfl, tv1, HF.out.1⟩
        | false =>
          have hnF : ¬ s.peek = falseT := fun h => of_decide_eq_false HD3.out.symm (HQ.out.1.symm.trans h)
          have HNF := Lib.hid hnF
          clear hnF
          obtain ⟨k9, k0, k1, z0, z1⟩ := HK4.out.two
          by_cases h7 : q1 = 7
          · skip
            have hqb7 : (q1 == 7) = true := by rw [h7]; rfl
            have he := obj_7 P.lab n (s := s) (by rw [HQ.out.1]; exact h7)
            rw [HQ.out.1] at he
            have hx : X = numT [] (q1, q2) := by rw [HX.out.1, he]
            have hq : Q = numS (q1, q2) s.next := by rw [HX.out.2, he]; exact (if_pos h7).symm
            clear he
            go_wp2_with fail
            refine wp_goto ?_
            exact ⟨rfl, ⟨#[]⟩, K, q1, q2, tv1, s.next, ex_u11 _ _ (by kernel_rfl) _ ⟨HG4.out, HR4.out, HK4.out, by decide, (by have := HBD.out.1; omega), hx, hq⟩⟩
          have hqb7 : (q1 == 7) = false := by simpa using h7
          go_wp2_with fail
          refine wp_region_any (by kernel_rfl) ?_
          change wpAny _ _ _ _ _ _ _ (World.drew _)
          refine wpAny_of_held (S := fun w' => Go12 P w tv w' tv1 (s.next) ∧ Tp w' P tv1 (w.heap.size) #[.int .i64 0, .string ⟨#[]⟩, .string ⟨#[]⟩, .string ⟨#[]⟩] 33 ∧ Tp w' P tv1 (K) #[.int .i64 q1, .string ⟨q2.toArray⟩] 47) _ _ _ _ ?_
          have hS : (fun w' => Go12 P w tv w' tv1 (s.next) ∧ Tp w' P tv1 (w.heap.size) #[.int .i64 0, .string ⟨#[]⟩, .string ⟨#[]⟩, .string ⟨#[]⟩] 33 ∧ Tp w' P tv1 (K) #[.int .i64 q1, .string ⟨q2.toArray⟩] 47) _ := ⟨HG4.out.below (below_drew1 _), HR4.out.go ((Go12.refl HG4.out.rd).below (below_drew1 _)), HK4.out.go ((Go12.refl HG4.out.rd).below (below_drew1 _))⟩
          refine wpAnyH_take (i := 0) (oi := ⟨some 27, _, _, _, _, _⟩) (v := ?_) rfl (by kernel_rfl) (by kernel_rfl) (by kernel_rfl) (fun _ _ _ h => h) (Or.inl ⟨by simp only [Region.wanted], ?_⟩) hS ?_
          rotate_left
          · intro wz hSw; obtain ⟨-, k0, k1, -, -⟩ := hSw.2.2.two
            clear hSw
            go_simp
            first | done | with_reducible rfl
          try simp only [Act.put, List.setIfInBounds_toArray, List.set_cons_zero, List.set_cons_succ]
          refine wpAnyH_ready (rs := [1]) (by kernel_rfl) (by simp) ?_
          refine AllReadyH.cons (o := ⟨some 28, _, _, _, _, _⟩) rfl (fun K hK => ?_) AllReadyH.nil
          go_simp
          refine (HSM.out _).mono ?_
          rintro e wq ⟨rfl, hbq⟩
          have HG5 := Lib.hid ((HG4.out.below (below_drew1 _)).below hbq)
          have HR5 := Lib.hid (HR4.out.go (((Go12.refl HG4.out.rd).below (below_drew1 _)).below hbq))
          have HK5 := Lib.hid (HK4.out.go (((Go12.refl HG4.out.rd).below (below_drew1 _)).below hbq))
          clear hbq
          refine hK.out _ _ (⟨HG5.out, HR5.out, HK5.out⟩) (fun hS => ?_)
          clear hK K
          try simp only [Act.put, List.setIfInBounds_toArray, List.set_cons_zero, List.set_cons_succ]
          refine wpAnyH_take (i := 2) (oi := ⟨some 29, _, _, _, _, _⟩) (v := ?_) rfl (by kernel_rfl) (by kernel_rfl) (by kernel_rfl) (fun _ _ _ h => h) (Or.inl ⟨by simp only [Region.wanted], ?_⟩) hS ?_
          rotate_left
          · intro wz hSw
            clear hSw
            go_simp
            first | done | with_reducible rfl | exact HIF5.out wz
          try simp only [Act.put, List.setIfInBounds_toArray, List.set_cons_zero, List.set_cons_succ]
          refine wpAnyH_take (i := 3) (oi := ⟨some 26, _, _, _, _, _⟩) (v := ?_) rfl (by kernel_rfl) (by kernel_rfl) (by kernel_rfl) (fun _ _ _ h => h) (Or.inl ⟨by simp only [Region.wanted], ?_⟩) hS ?_
          rotate_left
          · intro wz hSw
            clear hSw
            go_simp
            first | done | with_reducible rfl
          try simp only [Act.put, List.setIfInBounds_toArray, List.set_cons_zero, List.set_cons_succ]
          refine wpAnyH_done (by kernel_rfl) ?_ _
          clear hS
          clear HG4 HR4 HK4 k9 k0 k1 z0 z1
          cases d5 with
          | true =>
            have hqs : s.peek = sg [45] := HQ.out.1.trans (of_decide_eq_true HD5.out.symm)
            have he := obj_minus P.lab n hqs
            rw [HQ.out.2] at he
            have hqq := HQ.out.1.symm.trans hqs
            have hq2 : q2 = [45] := (Prod.mk.inj hqq).2
            have HSX := Lib.hid (show X = numT (q2) (p1, p2) ∧ Q = numS (p1, p2) s.next.next ∧ ((⟨q2.toArray⟩) : ByteArray).size ≤ 1 from ⟨by rw [HX.out.1, he, hq2], by rw [HX.out.2, he], by rw [hq2]; decide⟩)
            clear he hqs hqq hq2
            obtain ⟨k9, k0, k1, z0, z1⟩ := HK5.out.two
            go_wp2_with fail
            refine (HN2.out _ _ HG5.out.rd).mono ?_
            rintro e w3 ⟨rfl, tv3, hg3⟩
            have HG7 := Lib.hid (HG5.out.trans hg3)
            have HR7 := Lib.hid (HR5.out.go hg3)
            have HK7 := Lib.hid (HK5.out.go hg3)
            clear hg3 k9 k0 k1 z0 z1
            obtain ⟨k9, k0, k1, z0, z1⟩ := HK7.out.two
            have HF7 := Lib.hid (HG7.out.temp2 HK7.out (.int .i64 p1) (.string ⟨p2.toArray⟩) (Nat.le_of_lt HKW.out))
            have HR8 := Lib.hid (show Tp ((w3.setCell ⟨K, 0, none⟩ (.int .i64 p1)).setCell ⟨K, 1, none⟩ (.string ⟨p2.toArray⟩)) P tv3 w.heap.size #[.int .i64 0, .string ⟨#[]⟩, .string ⟨#[]⟩, .string ⟨#[]⟩] 33 from ⟨(HR7.out.blk.other _ _ (Nat.ne_of_lt HKW.out)).other _ _ (Nat.ne_of_lt HKW.out), HR7.out.ge, HR7.out.own⟩)
            go_wp2_with fail
            refine wp_goto ?_
            exact ⟨rfl, ⟨q2.toArray⟩, K, p1, p2, tv3, s.next.next, ex_u11 _ _ (by kernel_rfl) _ ⟨HF7.out.1, HR8.out, HF7.out.2, HSX.out.2.2, (by have := HBD.out.2; omega), HSX.out.1, HSX.out.2.1⟩⟩
          | false =>
            have HN45 := Lib.hid (show ¬ s.peek = sg [45] from fun h => of_decide_eq_false HD5.out.symm (HQ.out.1.symm.trans h))
            go_wp2_with fail
            refine wp_region_any (by kernel_rfl) ?_
            change wpAny _ _ _ _ _ _ _ (World.drew _)
            refine wpAny_of_held (S := fun w' => Go12 P w tv w' tv1 (s.next) ∧ Tp w' P tv1 (w.heap.size) #[.int .i64 0, .string ⟨#[]⟩, .string ⟨#[]⟩, .string ⟨#[]⟩] 33 ∧ Tp w' P tv1 (K) #[.int .i64 q1, .string ⟨q2.toArray⟩] 47) _ _ _ _ ?_
            have hS : (fun w' => Go12 P w tv w' tv1 (s.next) ∧ Tp w' P tv1 (w.heap.size) #[.int .i64 0, .string ⟨#[]⟩, .string ⟨#[]⟩, .string ⟨#[]⟩] 33 ∧ Tp w' P tv1 (K) #[.int .i64 q1, .string ⟨q2.toArray⟩] 47) _ := ⟨HG5.out.below (below_drew1 _), HR5.out.go ((Go12.refl HG5.out.rd).below (below_drew1 _)), HK5.out.go ((Go12.refl HG5.out.rd).below (below_drew1 _))⟩
            refine wpAnyH_take (i := 0) (oi := ⟨some 31, _, _, _, _, _⟩) (v := ?_) rfl (by kernel_rfl) (by kernel_rfl) (by kernel_rfl) (fun _ _ _ h => h) (Or.inl ⟨by simp only [Region.wanted], ?_⟩) hS ?_
            rotate_left
            · intro wz hSw; obtain ⟨-, k0, k1, -, -⟩ := hSw.2.2.two
              clear hSw
              go_simp
              first | done | with_reducible rfl
            try simp only [Act.put, List.setIfInBounds_toArray, List.set_cons_zero, List.set_cons_succ]
            refine wpAnyH_ready (rs := [1]) (by kernel_rfl) (by simp) ?_
            refine AllReadyH.cons (o := ⟨some 32, _, _, _, _, _⟩) rfl (fun K hK => ?_) AllReadyH.nil
            go_simp
            refine (HSP.out _).mono ?_
            rintro e wq ⟨rfl, hbq⟩
            have HG6 := Lib.hid ((HG5.out.below (below_drew1 _)).below hbq)
            have HR6 := Lib.hid (HR5.out.go (((Go12.refl HG5.out.rd).below (below_drew1 _)).below hbq))
            have HK6 := Lib.hid (HK5.out.go (((Go12.refl HG5.out.rd).below (below_drew1 _)).below hbq))
            clear hbq
            refine hK.out _ _ (⟨HG6.out, HR6.out, HK6.out⟩) (fun hS => ?_)
            clear hK K
            try simp only [Act.put, List.setIfInBounds_toArray, List.set_cons_zero, List.set_cons_succ]
            refine wpAnyH_take (i := 2) (oi := ⟨some 33, _, _, _, _, _⟩) (v := ?_) rfl (by kernel_rfl) (by kernel_rfl) (by kernel_rfl) (fun _ _ _ h => h) (Or.inl ⟨by simp only [Region.wanted], ?_⟩) hS ?_
            rotate_left
            · intro wz hSw
              clear hSw
              go_simp
              first | done | with_reducible rfl | exact HIF6.out wz
            try simp only [Act.put, List.setIfInBounds_toArray, List.set_cons_zero, List.set_cons_succ]
            refine wpAnyH_take (i := 3) (oi := ⟨some 30, _, _, _, _, _⟩) (v := ?_) rfl (by kernel_rfl) (by kernel_rfl) (by kernel_rfl) (fun _ _ _ h => h) (Or.inl ⟨by simp only [Region.wanted], ?_⟩) hS ?_
            rotate_left
            · intro wz hSw
              clear hSw
              go_simp
              first | done | with_reducible rfl
            try simp only [Act.put, List.setIfInBounds_toArray, List.set_cons_zero, List.set_cons_succ]
            refine wpAnyH_done (by kernel_rfl) ?_ _
            clear hS
            clear HG5 HR5 HK5
            cases d6 with
            | true =>
              have hqs : s.peek = sg [43] := HQ.out.1.trans (of_decide_eq_true HD6.out.symm)
              have he := obj_plus P.lab n hqs
              rw [HQ.out.2] at he
              have hqq := HQ.out.1.symm.trans hqs
              have hq2 : q2 = [43] := (Prod.mk.inj hqq).2
              have HSX := Lib.hid (show X = numT ([]) (p1, p2) ∧ Q = numS (p1, p2) s.next.next ∧ ((⟨#[]⟩) : ByteArray).size ≤ 1 from ⟨by rw [HX.out.1, he], by rw [HX.out.2, he], by decide⟩)
              clear he hqs hqq hq2
              obtain ⟨k9, k0, k1, z0, z1⟩ := HK6.out.two
              go_wp2_with fail
              refine (HN2.out _ _ HG6.out.rd).mono ?_
              rintro e w3 ⟨rfl, tv3, hg3⟩
              have HG7 := Lib.hid (HG6.out.trans hg3)
              have HR7 := Lib.hid (HR6.out.go hg3)
              have HK7 := Lib.hid (HK6.out.go hg3)
              clear hg3 k9 k0 k1 z0 z1
              obtain ⟨k9, k0, k1, z0, z1⟩ := HK7.out.two
              have HF7 := Lib.hid (HG7.out.temp2 HK7.out (.int .i64 p1) (.string ⟨p2.toArray⟩) (Nat.le_of_lt HKW.out))
              have HR8 := Lib.hid (show Tp ((w3.setCell ⟨K, 0, none⟩ (.int .i64 p1)).setCell ⟨K, 1, none⟩ (.string ⟨p2.toArray⟩)) P tv3 w.heap.size #[.int .i64 0, .string ⟨#[]⟩, .string ⟨#[]⟩, .string ⟨#[]⟩] 33 from ⟨(HR7.out.blk.other _ _ (Nat.ne_of_lt HKW.out)).other _ _ (Nat.ne_of_lt HKW.out), HR7.out.ge, HR7.out.own⟩)
              go_wp2_with fail
              refine wp_goto ?_
              exact ⟨rfl, ⟨#[]⟩, K, p1, p2, tv3, s.next.next, ex_u11 _ _ (by kernel_rfl) _ ⟨HF7.out.1, HR8.out, HF7.out.2, HSX.out.2.2, (by have := HBD.out.2; omega), HSX.out.1, HSX.out.2.1⟩⟩
            | false =>
              have HN43 := Lib.hid (show ¬ s.peek = sg [43] from fun h => of_decide_eq_false HD6.out.symm (HQ.out.1.symm.trans h))
              have he := obj_node P.lab n HN91.out (by rw [HQ.out.1]; exact h5) HNT.out HNF.out (by rw [HQ.out.1]; exact h7) HN45.out HN43.out
              rw [HQ.out.1] at he
              obtain ⟨Y, hY⟩ : ∃ Y, Y = nodeP P.lab n (q1, q2) s.next := ⟨_, rfl⟩
              rw [← hY] at he
              have hx : X = Y.1 := by rw [HX.out.1, he]
              have hq : Q = Y.2 := by rw [HX.out.2, he]
              have hB : ∀ w1 tv1, RdT w1 P tv1 s.next → Calls Tryz.prog 25 #[.pointer (some ⟨P.r, 0, none⟩), tokV (q1, q2)] w1 (To12 P w1 tv1 Y.1.val Y.2) := fun w1 tv1 r => by
                rw [hY]
                refine HC.out.node w1 P tv1 s.next (q1, q2) r (by have := HBD.out.1; exact this) (by have := HN.out.1; omega) (fun e => ?_)
                have := len_next1 (s := s) (by rw [HQ.out.1, e]; decide)
                have := HN.out.1
                omega
              obtain ⟨⟨xk, xs, xl, xt⟩, YS⟩ := Y
              dsimp only at hx hq hB
              subst hx hq
              unfold Tm.val tokV at hB
              dsimp only at hB
              have HB := Lib.hid hB
              obtain ⟨k9, k0, k1, z0, z1⟩ := HK6.out.two
              clear hB hY he
              go_wp2_with fail
              refine (HB.out _ _ HG6.out.rd).mono ?_
              rintro e w3 ⟨rfl, tv3, hg3⟩
              have HG7 := Lib.hid (HG6.out.trans hg3)
              have HT7 := Lib.hid (HR6.out.go hg3)
              clear hg3 k9 k0 k1 z0 z1
              have HF := Lib.hid (HG7.out.temp4 HT7.out (.int .i64 xk) (.string xs) (.string xl) (.string xt) (Nat.le_refl _))
              obtain ⟨t0, t1, t2, t3, t4, y1, y2, y3, y4⟩ := (HT7.out).four
              go_wp2_with fail
              try simp only [Exit.inBlock, Exit.then, Exit.jump]
              exact bodyPost_ret (v := .agg #[.int .i64 xk, .string xs, .string xl, .string xt]) (results_tm (p := 2) (by kernel_rfl) _ _ w.heap.size _ _ _ _ _ rfl HF.out.2.blk) rfl ⟨rfl, tv3, HF.out.1⟩
  · intro a wx hJ
    obtain ⟨m, T, e1, e2, tvx, sx, u, rfl, hg, ht, hk, hm, he, hX, hQ⟩ := hJ
    obtain ⟨E, hE⟩ : ∃ E : ByteArray, E = ⟨e2.toArray⟩ := ⟨_, rfl⟩
    have hEl : E.data.toList = e2 := by rw [hE]
    have hEs : E.size ≤ 90000 := by rw [Lib.size_eq, hEl]; exact he
    obtain ⟨Z, hZ⟩ : ∃ Z, Z = m ++ E := ⟨_, rfl⟩
    obtain ⟨dd, hdd⟩ : ∃ d, d = decide (0 ≤ Lib.indexByte E.data.toList 46) := ⟨_, rfl⟩
    have HCT := Lib.hid (fun w => Any.strings_Contains_one Tryz.lays144 E 46 w)
    rw [← hdd] at HCT
    have HXD := Lib.hid (show X = typed Z (if dd then xDecB else xIntB) from by
      rw [hX, hdd, hZ]
      unfold numT
      have hb1 : bl m.data.toList = m := by unfold bl; cases m; rfl
      have e2' : bl (e1, e2).2 = E := by rw [hE]; rfl
      rw [hb1, e2']
      congr 1
      rw [hEl]
      by_cases h46 : (46 : UInt8) ∈ e2
      · rw [if_pos h46, if_pos (by simpa using (index_mem e2 46).1 h46)]
      · rw [if_neg h46, if_neg (by simpa using fun h => h46 ((index_mem e2 46).2 h))])
    have hZ' := hZ.symm
    have hsz1 : ¬ 9223372036854775807 < m.size + E.size := by omega
    rw [← hE] at hk
    have HQX := Lib.hid hQ
    have HGX := Lib.hid hg
    have HRX := Lib.hid ht
    have HKX := Lib.hid hk
    obtain ⟨k9, k0, k1, z0, z1⟩ := hk.two
    clear hX hZ hdd hE hEl hQ hg ht hk
    by_cases h7 : e1 = 7
    · have hqb : (e1 != 7) = false := by rw [h7]; rfl
      have hqb2 : (e1 == 7) = true := by rw [h7]; rfl
      have hq : Q = sx := HQX.out.trans (if_pos h7)
      subst hq
      clear HQX
      go_wp2_with fail
      refine (HCT.out _).mono ?_
      rintro e wz ⟨rfl, rfl⟩
      cases dd with
      | true =>
        have hx : X = typed Z xDecB := HXD.out
        subst hx
        go_wp2_with fail
        refine (HTY.out _ _ _).mono ?_
        rintro e w5 ⟨rfl, hb5⟩
        have HG5 := Lib.hid (HGX.out.below hb5)
        have HT5 := Lib.hid (HRX.out.go ((Go12.refl HGX.out.rd).below hb5))
        clear hb5 k0 k1 k9 z0 z1
        unfold typed nobT Tm.val
        dsimp only
        have HF := Lib.hid (HG5.out.temp4 HT5.out (.int .i64 3) (.string Z) (.string ⟨#[]⟩) (.string xDecB) (Nat.le_refl _))
        obtain ⟨t0, t1, t2, t3, t4, y1, y2, y3, y4⟩ := (HT5.out).four
        unfold xDecB bl at HF
        go_wp2_with fail
        try simp only [Exit.inBlock, Exit.then, Exit.jump]
        exact bodyPost_ret (results_tm (p := 2) (by kernel_rfl) _ _ w.heap.size _ _ _ _ _ rfl HF.out.2.blk) rfl ⟨rfl, tvx, HF.out.1⟩
      | false =>
        have hx : X = typed Z xIntB := HXD.out
        subst hx
        go_wp2_with fail
        refine (HTY.out _ _ _).mono ?_
        rintro e w5 ⟨rfl, hb5⟩
        have HG5 := Lib.hid (HGX.out.below hb5)
        have HT5 := Lib.hid (HRX.out.go ((Go12.refl HGX.out.rd).below hb5))
        clear hb5 k0 k1 k9 z0 z1
        unfold typed nobT Tm.val
        dsimp only
        have HF := Lib.hid (HG5.out.temp4 HT5.out (.int .i64 3) (.string Z) (.string ⟨#[]⟩) (.string xIntB) (Nat.le_refl _))
        obtain ⟨t0, t1, t2, t3, t4, y1, y2, y3, y4⟩ := (HT5.out).four
        unfold xIntB bl at HF
        go_wp2_with fail
        try simp only [Exit.inBlock, Exit.then, Exit.jump]
        exact bodyPost_ret (results_tm (p := 2) (by kernel_rfl) _ _ w.heap.size _ _ _ _ _ rfl HF.out.2.blk) rfl ⟨rfl, tvx, HF.out.1⟩
    · have hqb : (e1 != 7) = true := by simpa using h7
      have hqb2 : (e1 == 7) = false := by simpa using h7
      have hq : Q = sx.fail 6 := HQX.out.trans (if_neg h7)
      subst hq
      clear HQX
      go_wp2_with fail
      refine (HFL.out _ _ _ HGX.out.rd).mono ?_
      rintro e w3 ⟨⟨v, rfl⟩, tv3, hg3⟩
      have HG3 := Lib.hid (HGX.out.trans hg3)
      have HR3 := Lib.hid (HRX.out.go hg3)
      have HK3 := Lib.hid (HKX.out.go hg3)
      clear hg3 k9 k0 k1 z0 z1
      obtain ⟨k9, k0, k1, z0, z1⟩ := HK3.out.two
      go_wp2_with fail
      refine (HCT.out _).mono ?_
      rintro e wz ⟨rfl, rfl⟩
      cases dd with
      | true =>
        have hx : X = typed Z xDecB := HXD.out
        subst hx
        go_wp2_with fail
        refine (HTY.out _ _ _).mono ?_
        rintro e w5 ⟨rfl, hb5⟩
        have HG5 := Lib.hid (HG3.out.below hb5)
        have HT5 := Lib.hid (HR3.out.go ((Go12.refl HG3.out.rd).below hb5))
        clear hb5 k0 k1 k9 z0 z1
        unfold typed nobT Tm.val
        dsimp only
        have HF := Lib.hid (HG5.out.temp4 HT5.out (.int .i64 3) (.string Z) (.string ⟨#[]⟩) (.string xDecB) (Nat.le_refl _))
        obtain ⟨t0, t1, t2, t3, t4, y1, y2, y3, y4⟩ := (HT5.out).four
        unfold xDecB bl at HF
        go_wp2_with fail
        try simp only [Exit.inBlock, Exit.then, Exit.jump]
        exact bodyPost_ret (results_tm (p := 2) (by kernel_rfl) _ _ w.heap.size _ _ _ _ _ rfl HF.out.2.blk) rfl ⟨rfl, tv3, HF.out.1⟩
      | false =>
        have hx : X = typed Z xIntB := HXD.out
        subst hx
        go_wp2_with fail
        refine (HTY.out _ _ _).mono ?_
        rintro e w5 ⟨rfl, hb5⟩
        have HG5 := Lib.hid (HG3.out.below hb5)
        have HT5 := Lib.hid (HR3.out.go ((Go12.refl HG3.out.rd).below hb5))
        clear hb5 k0 k1 k9 z0 z1
        unfold typed nobT Tm.val
        dsimp only
        have HF := Lib.hid (HG5.out.temp4 HT5.out (.int .i64 3) (.string Z) (.string ⟨#[]⟩) (.string xIntB) (Nat.le_refl _))
        obtain ⟨t0, t1, t2, t3, t4, y1, y2, y3, y4⟩ := (HT5.out).four
        unfold xIntB bl at HF
        go_wp2_with fail
        try simp only [Exit.inBlock, Exit.then, Exit.jump]
        exact bodyPost_ret (results_tm (p := 2) (by kernel_rfl) _ _ w.heap.size _ _ _ _ _ rfl HF.out.2.blk) rfl ⟨rfl, tv3, HF.out.1⟩
end Go.Proofs.YtefkppeicmipbaaGreatDoor
