/- Triples as text: node. -/
import Derived.Test.YtefkppeicmipbaaGreatDoorUn
namespace Go.Proofs.YtefkppeicmipbaaGreatDoor
open Go.RowKit Go.Shelf Go.Maps
set_option maxRecDepth 100000
set_option linter.unusedVariables false
set_option linter.unusedSimpArgs false
set_option maxHeartbeats 8000000 in
theorem tnode {n : Nat} (hC : ∀ (w : World) (P : Pl) (tv : Value) (s : St), RdT w P tv s → 4 * s.len + 3 ≤ n → Calls Tryz.prog 48 #[.pointer (some ⟨P.r, 0, none⟩)] w (To12 P w tv (colP P.lab n ⟨0, nobT, nobT, nobT⟩ none s).1.val (colP P.lab n ⟨0, nobT, nobT, nobT⟩ none s).2))
    {w : World} {P : Pl} {tv : Value} {s : St} (h : RdT w P tv s) (t : Tok) (ht : s.base.size + t.2.length ≤ 90000) (hn : t = sg [40] → 4 * s.len + 4 ≤ n + 1) :
    Calls Tryz.prog 25 #[.pointer (some ⟨P.r, 0, none⟩), tokV t] w (To12 P w tv (nodeP P.lab (n + 1) t s).1.val (nodeP P.lab (n + 1) t s).2) := by
  have HRF := Lib.hid (fun w1 tv1 (r : RdT w1 P tv1 s) => treference r t ht)
  obtain ⟨q1, q2⟩ := t
  obtain ⟨X, hX⟩ : ∃ X, X = (nodeP P.lab (n + 1) (q1, q2) s).1 := ⟨_, rfl⟩
  obtain ⟨Q, hQ⟩ : ∃ Q, Q = (nodeP P.lab (n + 1) (q1, q2) s).2 := ⟨_, rfl⟩
  rw [← hX, ← hQ]
  rw [nodeP] at hX hQ
  unfold tokV at HRF ⊢
  dsimp only at HRF ⊢
  have g1 := (Go12.refl h).alloc (.cells #[.int .i64 q1, .string ⟨q2.toArray⟩] 47)
  have g2 := g1.alloc (.cells #[.int .i64 0, .string ⟨#[]⟩, .string ⟨#[]⟩, .string ⟨#[]⟩] 33)
  have t1 := (Tp.new h #[.int .i64 q1, .string ⟨q2.toArray⟩] 47).alloc (.cells #[.int .i64 0, .string ⟨#[]⟩, .string ⟨#[]⟩, .string ⟨#[]⟩] 33)
  have t2 := Tp.new g1.rd #[.int .i64 0, .string ⟨#[]⟩, .string ⟨#[]⟩, .string ⟨#[]⟩] 33
  have hz1 : (w.alloc (.cells #[.int .i64 q1, .string ⟨q2.toArray⟩] 47)).heap.size = w.heap.size + 1 := by simp
  rw [hz1] at t2
  have HG := Lib.hid g2
  have HK := Lib.hid t1
  have HT := Lib.hid t2
  have HNM := Lib.hid (fun l w => tnamed l w)
  have HSG := Lib.hid (fun w => tsign ⟨#[40]⟩ w)
  have HDC := Lib.hid (fun x S1 w1 tv1 (r : RdT w1 P tv1 s) (hB : ∀ w1 tv1, RdT w1 P tv1 s.down → Calls Tryz.prog 48 #[.pointer (some ⟨P.r, 0, none⟩)] w1 (To12 P w1 tv1 x.val S1)) => tdeep_col r x S1 hB)
  have HC := Lib.hid hC
  have HN := Lib.hid hn
  have hmf : ∀ (f : Nat) (a b : Array Value) (w : World), (Instr.makeFunc (.func f) a b).run Tryz.prog w = .ok (.func (.func f) a b) w := fun f a b w => rfl
  clear h ht g1 g2 t1 t2 hC hn
  go_enter Tryz.func25, Tryz.ntmps25
  go_upto_region 1 with fail
  generalize World.alloc (World.alloc w _) _ = W at HG HT HK ⊢
  obtain ⟨k9, k0, k1, -, -⟩ := HK.out.two
  by_cases h3 : q1 = 3
  · have hqb : (q1 == 3) = true := by rw [h3]; rfl
    rw [if_pos h3] at hX hQ
    dsimp only at hX hQ
    have HF := Lib.hid (HG.out.temp4 HT.out (.int .i64 2) (.string (bl q2)) (.string ⟨#[]⟩) (.string ⟨#[]⟩) (by omega))
    obtain ⟨t0, t1, t2, t3, t4, y1, y2, y3, y4⟩ := HT.out.four
    subst hX hQ
    unfold bl at HF
    unfold bl nobT Tm.val
    dsimp only at HF ⊢
    go_wp2_with fail
    exact bodyPost_ret (v := .agg #[.int .i64 2, .string ⟨q2.toArray⟩, .string ⟨#[]⟩, .string ⟨#[]⟩]) (results_tm (p := 4) (by kernel_rfl) _ _ (w.heap.size + 1) _ _ _ _ _ rfl HF.out.2.blk) rfl ⟨rfl, tv, HF.out.1⟩
  have hqb : (q1 == 3) = false := by simpa using h3
  rw [if_neg h3] at hX hQ
  obtain ⟨d, hd⟩ : ∃ d, d = decide ((q1, q2) = ((9 : Int), ([40] : List UInt8))) := ⟨_, rfl⟩
  have HIF := Lib.hid (fun wz : World => show (if q1 = 9 then if q2 = [40] then Result.ok (Next.value (Value.bool true)) wz else Result.ok (Next.value (Value.bool false)) wz else Result.ok (Next.value (Value.bool false)) wz) = Result.ok (Next.value (Value.bool d)) wz from by
    rw [hd]
    by_cases h1 : q1 = 9 <;> by_cases h2 : q2 = [40] <;> simp [h1, h2])
  have HX := Lib.hid (And.intro hX hQ)
  have HD := Lib.hid hd
  clear hX hQ hd
  go_wp2_with fail
  refine wp_region_any (by kernel_rfl) ?_
  change wpAny _ _ _ _ _ _ _ (World.drew _)
  refine wpAny_of_held (S := fun w' => Go12 P w tv w' tv (s) ∧ Tp w' P tv (w.heap.size + 1) #[.int .i64 0, .string ⟨#[]⟩, .string ⟨#[]⟩, .string ⟨#[]⟩] 33 ∧ Tp w' P tv (w.heap.size) #[.int .i64 q1, .string ⟨q2.toArray⟩] 47) _ _ _ _ ?_
  have hS : (fun w' => Go12 P w tv w' tv (s) ∧ Tp w' P tv (w.heap.size + 1) #[.int .i64 0, .string ⟨#[]⟩, .string ⟨#[]⟩, .string ⟨#[]⟩] 33 ∧ Tp w' P tv (w.heap.size) #[.int .i64 q1, .string ⟨q2.toArray⟩] 47) _ := ⟨HG.out.below (below_drew1 _), HT.out.go ((Go12.refl HG.out.rd).below (below_drew1 _)), HK.out.go ((Go12.refl HG.out.rd).below (below_drew1 _))⟩
  refine wpAnyH_take (i := 0) (oi := ⟨some 13, _, _, _, _, _⟩) (v := ?_) rfl (by kernel_rfl) (by kernel_rfl) (by kernel_rfl) (fun _ _ _ h => h) (Or.inl ⟨by simp only [Region.wanted], ?_⟩) hS ?_
  rotate_left
  · intro wz hSw; obtain ⟨-, k0, k1, -, -⟩ := hSw.2.2.two
    clear hSw
    go_simp
    first | done | with_reducible rfl
  try simp only [Act.put, List.setIfInBounds_toArray, List.set_cons_zero, List.set_cons_succ]
  refine wpAnyH_ready (rs := [1]) (by kernel_rfl) (by simp) ?_
  refine AllReadyH.cons (o := ⟨some 14, _, _, _, _, _⟩) rfl (fun K hK => ?_) AllReadyH.nil
  go_simp
  refine (HSG.out _).mono ?_
  rintro e wq ⟨rfl, hbq⟩
  have HG2 := Lib.hid ((HG.out.below (below_drew1 _)).below hbq)
  have HR2 := Lib.hid (HT.out.go (((Go12.refl HG.out.rd).below (below_drew1 _)).below hbq))
  have HK2 := Lib.hid (HK.out.go (((Go12.refl HG.out.rd).below (below_drew1 _)).below hbq))
  clear hbq
  refine hK.out _ _ (⟨HG2.out, HR2.out, HK2.out⟩) (fun hS => ?_)
  clear hK K
  try simp only [Act.put, List.setIfInBounds_toArray, List.set_cons_zero, List.set_cons_succ]
  refine wpAnyH_take (i := 2) (oi := ⟨some 15, _, _, _, _, _⟩) (v := ?_) rfl (by kernel_rfl) (by kernel_rfl) (by kernel_rfl) (fun _ _ _ h => h) (Or.inl ⟨by simp only [Region.wanted], ?_⟩) hS ?_
  rotate_left
  · intro wz hSw
    clear hSw
    go_simp
    first | done | with_reducible rfl | exact HIF.out wz
  try simp only [Act.put, List.setIfInBounds_toArray, List.set_cons_zero, List.set_cons_succ]
  refine wpAnyH_take (i := 3) (oi := ⟨some 12, _, _, _, _, _⟩) (v := ?_) rfl (by kernel_rfl) (by kernel_rfl) (by kernel_rfl) (fun _ _ _ h => h) (Or.inl ⟨by simp only [Region.wanted], ?_⟩) hS ?_
  rotate_left
  · intro wz hSw
    clear hSw
    go_simp
    first | done | with_reducible rfl
  try simp only [Act.put, List.setIfInBounds_toArray, List.set_cons_zero, List.set_cons_succ]
  refine wpAnyH_done (by kernel_rfl) ?_ _
  clear hS
  clear HG HT HK k9 k0 k1
  cases d with
  | true =>
    have hqs : (q1, q2) = sg [40] := of_decide_eq_true HD.out.symm
    have hx := HX.out.1
    have hq := HX.out.2
    rw [if_pos hqs] at hx hq
    obtain ⟨Y, hY⟩ : ∃ Y, Y = colP P.lab n ⟨0, nobT, nobT, nobT⟩ none s.down := ⟨_, rfl⟩
    rw [← hY] at hx hq
    have hB : ∀ w1 tv1, RdT w1 P tv1 s.down → Calls Tryz.prog 48 #[.pointer (some ⟨P.r, 0, none⟩)] w1 (To12 P w1 tv1 Y.1.val Y.2) := fun w1 tv1 r => by
      rw [hY]
      exact HC.out w1 P tv1 s.down r (by have := HN.out hqs; have := len_down s; omega)
    have HB := Lib.hid hB
    obtain ⟨⟨xk, xs, xl, xt⟩, YS⟩ := Y
    dsimp only at hx hq HB
    have hdc := fun w1 tv1 (r : RdT w1 P tv1 s) => HDC.out ⟨xk, xs, xl, xt⟩ YS w1 tv1 r HB.out
    subst hx hq
    unfold Tm.val at hdc ⊢
    dsimp only at hdc ⊢
    have HDD := Lib.hid hdc
    clear hdc hB hY hqs
    go_wp2_with fail
    refine (HDD.out _ _ HG2.out.rd).mono ?_
    rintro e w3 ⟨rfl, tv3, hg3⟩
    have HG3 := Lib.hid (HG2.out.trans hg3)
    have HT3 := Lib.hid (HR2.out.go hg3)
    have HF := Lib.hid (HG3.out.temp4 HT3.out (.int .i64 xk) (.string xs) (.string xl) (.string xt) (by omega))
    obtain ⟨t0, t1, t2, t3, t4, y1, y2, y3, y4⟩ := HT3.out.four
    clear hg3
    go_wp2_with fail
    exact bodyPost_ret (v := .agg #[.int .i64 xk, .string xs, .string xl, .string xt]) (results_tm (p := 4) (by kernel_rfl) _ _ (w.heap.size + 1) _ _ _ _ _ rfl HF.out.2.blk) rfl ⟨rfl, tv3, HF.out.1⟩
  | false =>
    have hqs : ¬ (q1, q2) = sg [40] := of_decide_eq_false HD.out.symm
    have hx := HX.out.1
    have hq := HX.out.2
    rw [if_neg hqs] at hx hq
    dsimp only at hx hq
    obtain ⟨RT, hRT⟩ : ∃ RT, RT = refT (q1, q2) s := ⟨_, rfl⟩
    rw [← hRT] at hx HRF
    subst hx hq
    clear hqs hRT
    obtain ⟨k9, k0, k1, -, -⟩ := HK2.out.two
    go_wp2_with fail
    refine (HRF.out _ _ HG2.out.rd).mono ?_
    rintro e w3 ⟨rfl, tv3, hg3⟩
    have HG3 := Lib.hid (HG2.out.trans hg3)
    have HT3 := Lib.hid (HR2.out.go hg3)
    clear hg3 k9 k0 k1
    go_wp2_with fail
    refine (HNM.out _ _).mono ?_
    rintro e w4 ⟨rfl, hb4⟩
    have HG4 := Lib.hid (HG3.out.below hb4)
    have HT4 := Lib.hid (HT3.out.go ((Go12.refl HG3.out.rd).below hb4))
    have HF := Lib.hid (HG4.out.temp4 HT4.out (.int .i64 1) (.string RT) (.string ⟨#[]⟩) (.string ⟨#[]⟩) (by omega))
    obtain ⟨t0, t1, t2, t3, t4, y1, y2, y3, y4⟩ := HT4.out.four
    clear hb4
    unfold named nobT Tm.val
    dsimp only
    go_wp2_with fail
    exact bodyPost_ret (v := .agg #[.int .i64 1, .string RT, .string ⟨#[]⟩, .string ⟨#[]⟩]) (results_tm (p := 4) (by kernel_rfl) _ _ (w.heap.size + 1) _ _ _ _ _ rfl HF.out.2.blk) rfl ⟨rfl, tv3, HF.out.1⟩
end Go.Proofs.YtefkppeicmipbaaGreatDoor
