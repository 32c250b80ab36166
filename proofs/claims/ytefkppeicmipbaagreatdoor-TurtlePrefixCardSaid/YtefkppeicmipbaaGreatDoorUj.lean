/- Triples as text: tell. -/
import Derived.Test.YtefkppeicmipbaaGreatDoorUi
import Derived.Test.YtefkppeicmipbaaGreatDoorWR
import Derived.Deep.CutBlock
import Derived.Deep.DeepCutAuto
namespace Go.Proofs.YtefkppeicmipbaaGreatDoor
open Go.RowKit Go.Shelf Go.Maps
set_option maxRecDepth 100000
set_option linter.unusedVariables false
set_option linter.unusedSimpArgs false
theorem step_append_tr {w : World} {ops : Array Oper} {o : Oper} {a : Act} {K : Act → World → Prop} {Q : Exit → Act → World → Prop} {E : Prop} (hgd : o.guard = none) (s x : Operand)
    (ho : o.op = .call { callee := .builtin .append, args := #[s, x], argTypes := #[26, 26] }) (base : Nat) (hbase : base ≤ w.heap.size)
    (v : Value) (l : List Tri3) (hs : a.eval s = v) (hown : OwR w base v l) (g0 : Nat) (hx : a.eval x = .slice (some ⟨g0, 0, none⟩) 1 1) (e : Tri3) (hg : Blk w g0 (rcells1 e).toArray 35) (n : Nat) (hn : n = l.length + 1) (hl : n ≤ 1000000)
    (h : ∀ ao cap w', OwR w' base (.slice ao n cap) (l ++ [e]) → n ≤ cap → cap ≤ 9223372036854775807 → w.grownBy w' v.ownBlock → (∀ q, (Value.slice ao n cap).ownBlock = some q → v.ownBlock = some q ∨ w.heap.size ≤ q) → K (a.put o.dst (.slice ao n cap)) w') :
    if Region.wanted o (yielded ops a.tmps) = true then Oper.wp Tryz.prog o a w K Q else E := by
  obtain ⟨i0, hi, hz0, hz1, hz2⟩ := info_parts Tryz.infoTr
  refine step_append_lies w hgd s x _ ho base 35 i0 _ 12 168 Tryz.underlying26 hi hz0 hz1 hz2 rfl (by decide) v l.length (rcells l) hs hown ⟨g0, 0, none⟩ 1 1 (rcells1 e) hx rfl ?_ ?_ (by decide) (by simp [maxLen]; omega) (by omega) hbase _ rfl ?_
  · intro j u hj
    rw [show (⟨g0, 0, none⟩ : Addr).add j = ⟨g0, j, none⟩ from by unfold Addr.add; split <;> simp_all, hg.cell]
    simpa using hj
  · intro u hu
    simp [rcells1] at hu
    rcases hu with rfl | rfl | rfl | rfl | rfl | rfl | rfl | rfl | rfl | rfl | rfl | rfl <;> rfl
  · intro g cap w' k1 k2 k3 k4
    subst hn
    obtain ⟨aox, capx, ex, hx1, hx2⟩ := owns_form k1
    simp only [Value.slice.injEq] at ex
    obtain ⟨-, -, rfl⟩ := ex
    refine h _ _ w' ?_ hx1 hx2 k2 (fun q hq => ?_)
    · unfold OwR
      rw [rcells_append, List.length_append]
      simpa [rcells] using k1
    · have : g = q := Option.some.inj hq
      subst this
      rcases k3 with k3 | k3
      · exact .inl k3
      · exact .inr (by omega)
/-- A triple is put behind those that are told. -/
theorem RdT.tells {w w2 : World} {P : Pl} {tv tv2 : Value} {s : St} (h : RdT w P tv s) (he : s.e = 0) (x : Tri3) (hr : s.told.length ≤ 299) (hg : w.grownBy w2 tv.ownBlock) (ho : OwR w2 P.B tv2 (s.told ++ [x])) (hn : ∀ q, tv2.ownBlock = some q → tv.ownBlock = some q ∨ w.heap.size ≤ q) :
    Go12 P w tv (w2.setCell ⟨P.r, 5, none⟩ tv2) tv2 (s.put x) := by
  have e : s.put x = { s with told := s.told ++ [x] } := if_pos he
  have m : Moved (fun q => tv.ownBlock = some q) w w2 := ⟨hg.os, hg.tape, hg.output, hg.size, fun k hk hne => hg.block k hk (fun e => hne e.symm)⟩
  have hi := h.inv.put x (fun _ => hr)
  have hl := h.lts
  have hlow := h.low
  obtain ⟨n1, n2, n3, n4, n5, n6, n7, n8, n9⟩ := h.ne
  have ow : ∀ q, tv.ownBlock = some q → P.B ≤ q := fun q hq => (h.told.lt q hq).1
  have ow2 : ∀ q, tv2.ownBlock = some q → P.B ≤ q := fun q hq => (ho.lt q hq).1
  obtain ⟨rv, g1, g2⟩ := h.cells
  have g2' := g2.moved m (fun e => by have := ow _ e; omega)
  have m2 : Moved (· = P.r) w2 (w2.setCell ⟨P.r, 5, none⟩ tv2) := (Moved.refl (· = P.r) w2).setCell _ _ (.inl rfl)
  have mm : Moved (fun q => q = P.r ∨ tv.ownBlock = some q) w (w2.setCell ⟨P.r, 5, none⟩ tv2) := (m.mono (fun j hj => .inr hj)).trans m2 (fun j hj => .inl (.inl hj))
  have no : ∀ k, k < P.B → k ≠ P.r → ¬ (k = P.r ∨ tv.ownBlock = some k) := fun k hk hr => by
    rintro (h1 | h1)
    · exact hr h1
    · have := ow _ h1; omega
  have hb := g2'.set 5 tv2
  have htab : 4 < P.B ∧ 4 ≠ P.r := by omega
  rw [e] at hi ⊢
  refine ⟨⟨⟨rv, g1.moved mm (no _ hl.2.2.2.2 (fun e => n4 e.symm)), ?_⟩, h.n.moved mm (no _ hl.2.1 (fun e => n1 e.symm)), h.lb.moved mm (no _ hl.2.2.1 (fun e => n2 e.symm)), h.pm.moved mm (no _ hl.2.2.2.1 (fun e => n3 e.symm)), ho.moved m2 (fun q hq e => by have := ow2 q hq; omega), hi, h.lts, Nat.le_trans h.B mm.size, h.ne, h.lab, h.tab.moved mm (no _ htab.1 htab.2), h.low⟩, mm.mono (fun j hj => hj.elim .inl (fun q => .inr (.inr (.inr q)))), hn⟩
  simpa only [List.setIfInBounds_toArray, List.set_cons_zero, List.set_cons_succ] using hb
theorem many_e {s : St} (h : s.told.length = 300) : s.many = s.fail 4 ∧ (s.many).e ≠ 0 := by
  have e : s.many = s.fail 4 := if_pos h
  refine ⟨e, ?_⟩
  rw [e]
  unfold St.fail
  split
  · simp
  · rename_i h; exact h
theorem fail_ne {s : St} {x : Int} (hx : x ≠ 0) : (s.fail x).e ≠ 0 := by
  unfold St.fail
  split
  · exact hx
  · rename_i h; exact h
theorem put_dead {s : St} (h : s.e ≠ 0) (x : Tri3) : s.put x = s := if_neg h
theorem trif (x y z : Tm) (hx : x.Ok) (hy : y.Ok) (hz : z.Ok) (w : World) :
    Calls Tryz.prog 76 #[.agg #[.int .i64 x.k, .string x.s, .string x.l, .string x.t, .int .i64 y.k, .string y.s, .string y.l, .string y.t, .int .i64 z.k, .string z.s, .string z.l, .string z.t]] w fun e w' => e = .returned (.int .i64 (fitsK x y z)) ∧ Below w.heap.size w w' := by
  rw [← fits_eq]
  exact fits_any x y z hx hy hz w
set_option maxHeartbeats 16000000 in
theorem ttell {w : World} {P : Pl} {tv : Value} {s : St} (h : RdT w P tv s) (x y z : Tm) (hx : x.Ok) (hy : y.Ok) (hz : z.Ok) :
    Calls Tryz.prog 52 #[.pointer (some ⟨P.r, 0, none⟩), x.val, y.val, z.val] w (ToV12 P w tv (s.tell x y z)) := by
  have HFT := Lib.hid (fun w => trif x y z hx hy hz w)
  unfold St.tell
  generalize hf : fitsK x y z = f at HFT
  obtain ⟨xk, xs, xl, xt⟩ := x
  obtain ⟨yk, ys, yl, yt⟩ := y
  obtain ⟨zk, zs, zl, zt⟩ := z
  dsimp only at HFT
  unfold Tm.val
  dsimp only
  obtain ⟨s1, hs1⟩ : ∃ s1, s1 = s.many := ⟨_, rfl⟩
  obtain ⟨s2, hs2⟩ : ∃ s2, s2 = s1.wrong f := ⟨_, rfl⟩
  rw [← hs1, ← hs2]
  obtain ⟨X, hX⟩ : ∃ X : Tri3, X = (⟨xk, xs, xl, xt⟩, ⟨yk, ys, yl, yt⟩, ⟨zk, zs, zl, zt⟩) := ⟨_, rfl⟩
  rw [← hX]
  obtain ⟨S3, hS3⟩ : ∃ S3, S3 = s2.put X := ⟨_, rfl⟩
  rw [← hS3]
  have HS3 := Lib.hid hS3
  have HX := Lib.hid hX
  clear hS3 hX
  obtain ⟨ao, cap, htv, hcap1, hcap2⟩ := h.told.form
  obtain ⟨N, hN⟩ : ∃ N, N = s.told.length := ⟨_, rfl⟩
  rw [← hN] at htv
  have hN3 : N ≤ 300 := by rw [hN]; exact h.inv.told
  have g1 := (Go12.refl h).alloc (.cells #[.int .i64 xk, .string xs, .string xl, .string xt] 33)
  have g2 := g1.alloc (.cells #[.int .i64 yk, .string ys, .string yl, .string yt] 33)
  have g3 := g2.alloc (.cells #[.int .i64 zk, .string zs, .string zl, .string zt] 33)
  have t1 := ((Tp.new h #[.int .i64 xk, .string xs, .string xl, .string xt] 33).alloc (.cells #[.int .i64 yk, .string ys, .string yl, .string yt] 33)).alloc (.cells #[.int .i64 zk, .string zs, .string zl, .string zt] 33)
  have t2 := (Tp.new g1.rd #[.int .i64 yk, .string ys, .string yl, .string yt] 33).alloc (.cells #[.int .i64 zk, .string zs, .string zl, .string zt] 33)
  have t3 := Tp.new g2.rd #[.int .i64 zk, .string zs, .string zl, .string zt] 33
  have hz1 : (w.alloc (.cells #[.int .i64 xk, .string xs, .string xl, .string xt] 33)).heap.size = w.heap.size + 1 := by simp
  have hz2 : ((w.alloc (.cells #[.int .i64 xk, .string xs, .string xl, .string xt] 33)).alloc (.cells #[.int .i64 yk, .string ys, .string yl, .string yt] 33)).heap.size = w.heap.size + 1 + 1 := by simp
  rw [hz1] at t2
  rw [hz2] at t3
  have HG := Lib.hid g3
  have HT1 := Lib.hid t1
  have HT2 := Lib.hid t2
  have HT3 := Lib.hid t3
  have HNN := Lib.hid hN
  have HTV := Lib.hid htv
  clear h g1 g2 g3 t1 t2 t3 hN htv hx hy hz hf hz1 hz2
  go_enter Tryz.func52, Tryz.ntmps52
  go_upto_region 1 with fail
  have HW0 := Lib.hid (show w.heap.size ≤ w.heap.size from Nat.le_refl _)
  generalize World.alloc (World.alloc (World.alloc w _) _) _ = W at HG HT1 HT2 HT3 ⊢
  obtain ⟨rv, hrv, c0, c1, c2, c3, c4, c5, c6⟩ := HG.out.rd.open
  rw [HTV.out] at c5
  have hlt := HG.out.rd.rlt
  obtain ⟨a0, a1, a2, a3, a4, -, -, -, -⟩ := HT1.out.four
  obtain ⟨b0, b1, b2, b3, b4, -, -, -, -⟩ := HT2.out.four
  obtain ⟨d0, d1, d2, d3, d4, -, -, -, -⟩ := HT3.out.four
  clear hrv c0 c1 c2 c3 c4
  by_cases h3 : N = 300
  · have hNb : ((N : Int) == 300) = true := by rw [h3]; rfl
    have hme := many_e (s := s) (by rw [← HNN.out]; exact h3)
    have hF := tfail HG.out.rd 4
    rw [← hme.1, ← hs1] at hF
    have HF := Lib.hid hF
    have HNE := Lib.hid (show s1.e ≠ 0 by rw [hs1]; exact hme.2)
    clear hme hF hs1 h3
    go_wp2_with fail
    refine HF.out.mono ?_
    rintro e w1 ⟨⟨v, rfl⟩, tv1, hg1⟩
    have HG1 := Lib.hid (HG.out.trans hg1)
    have HX1 := Lib.hid (HT1.out.go hg1)
    have HX2 := Lib.hid (HT2.out.go hg1)
    have HX3 := Lib.hid (HT3.out.go hg1)
    clear a0 a1 a2 a3 a4 b0 b1 b2 b3 b4 d0 d1 d2 d3 d4 c5 c6 hlt hg1
    obtain ⟨a0, a1, a2, a3, a4, -, -, -, -⟩ := HX1.out.four
    obtain ⟨b0, b1, b2, b3, b4, -, -, -, -⟩ := HX2.out.four
    obtain ⟨d0, d1, d2, d3, d4, -, -, -, -⟩ := HX3.out.four
    go_wp2_with fail
    refine (HFT.out _).mono ?_
    rintro e w2 ⟨rfl, hb2⟩
    have HG2 := Lib.hid ((HG1.out.alloc (.cells #[.int .i64 xk, .string xs, .string xl, .string xt, .int .i64 yk, .string ys, .string yl, .string yt, .int .i64 zk, .string zs, .string zl, .string zt] 35)).below hb2)
    have HT := Lib.hid ((Tp.new HG1.out.rd #[.int .i64 xk, .string xs, .string xl, .string xt, .int .i64 yk, .string ys, .string yl, .string yt, .int .i64 zk, .string zs, .string zl, .string zt] 35).go ((Go12.refl (HG1.out.alloc (.cells #[.int .i64 xk, .string xs, .string xl, .string xt, .int .i64 yk, .string ys, .string yl, .string yt, .int .i64 zk, .string zs, .string zl, .string zt] 35)).rd).below hb2))
    clear hb2
    by_cases hf0 : f = 0
    rotate_left
    · have hfb : (f != 0) = true := by simpa using hf0
      have hfb2 : (f == 0) = false := by simpa using hf0
      have hsf : s2 = s1.fail f := by rw [hs2]; exact if_pos hf0
      have hF := tfail HG2.out.rd f
      rw [← hsf] at hF
      have HF2 := Lib.hid hF
      have hne2 : s2.e ≠ 0 := by rw [hsf]; exact fail_ne hf0
      have HPD := Lib.hid (put_dead hne2)
      have hneb : (s2.e == 0) = false := by simpa using hne2
      clear hsf hF hne2 hs2 hf0
      go_wp2_with fail
      refine HF2.out.mono ?_
      rintro e w3 ⟨⟨v, rfl⟩, tv3, hg3⟩
      obtain ⟨rv3, -, -, -, -, -, -, -, e6⟩ := hg3.rd.open
      have HG3 := Lib.hid (HG2.out.trans hg3)
      clear hg3
      go_wp2_with fail
      exact bodyPost_end (results_none rfl _ _ _) rfl ⟨⟨_, rfl⟩, tv3, by rw [HS3.out, HPD.out]; exact HG3.out⟩
    have hfb : (f != 0) = false := by rw [hf0]; rfl
    have hfb2 : (f == 0) = true := by rw [hf0]; rfl
    have hsf : s2 = s1 := by rw [hs2]; exact if_neg (by simpa using hf0)
    subst hsf
    clear hs2
    obtain ⟨rv3, -, -, -, -, -, -, e5, e6⟩ := HG2.out.rd.open
    have hne := HNE.out
    have hneb : (s2.e == 0) = false := by simpa using hne
    have HPD := Lib.hid (put_dead hne)
    clear hne
    go_wp2_with fail
    exact bodyPost_end (results_none rfl _ _ _) rfl ⟨⟨_, rfl⟩, tv1, by rw [HS3.out, HPD.out]; exact HG2.out⟩
  · have hNb : ((N : Int) == 300) = false := by rw [beq_eq_false_iff_ne]; omega
    have hsm : s1 = s := by rw [hs1]; exact if_neg (by rw [← HNN.out]; exact h3)
    subst hsm
    clear hs1
    go_wp2_with fail
    refine (HFT.out _).mono ?_
    rintro e w2 ⟨rfl, hb2⟩
    have HG2 := Lib.hid ((HG.out.alloc (.cells #[.int .i64 xk, .string xs, .string xl, .string xt, .int .i64 yk, .string ys, .string yl, .string yt, .int .i64 zk, .string zs, .string zl, .string zt] 35)).below hb2)
    have HT := Lib.hid ((Tp.new HG.out.rd #[.int .i64 xk, .string xs, .string xl, .string xt, .int .i64 yk, .string ys, .string yl, .string yt, .int .i64 zk, .string zs, .string zl, .string zt] 35).go ((Go12.refl (HG.out.alloc (.cells #[.int .i64 xk, .string xs, .string xl, .string xt, .int .i64 yk, .string ys, .string yl, .string yt, .int .i64 zk, .string zs, .string zl, .string zt] 35)).rd).below hb2))
    clear hb2
    by_cases hf0 : f = 0
    rotate_left
    · have hfb : (f != 0) = true := by simpa using hf0
      have hfb2 : (f == 0) = false := by simpa using hf0
      have hsf : s2 = s1.fail f := by rw [hs2]; exact if_pos hf0
      have hF := tfail HG2.out.rd f
      rw [← hsf] at hF
      have HF2 := Lib.hid hF
      have hne2 : s2.e ≠ 0 := by rw [hsf]; exact fail_ne hf0
      have HPD := Lib.hid (put_dead hne2)
      have hneb : (s2.e == 0) = false := by simpa using hne2
      clear hsf hF hne2 hs2 hf0
      go_wp2_with fail
      refine HF2.out.mono ?_
      rintro e w3 ⟨⟨v, rfl⟩, tv3, hg3⟩
      obtain ⟨rv3, -, -, -, -, -, -, -, e6⟩ := hg3.rd.open
      have HG3 := Lib.hid (HG2.out.trans hg3)
      clear hg3
      go_wp2_with fail
      exact bodyPost_end (results_none rfl _ _ _) rfl ⟨⟨_, rfl⟩, tv3, by rw [HS3.out, HPD.out]; exact HG3.out⟩
    have hfb : (f != 0) = false := by rw [hf0]; rfl
    have hfb2 : (f == 0) = true := by rw [hf0]; rfl
    have hsf : s2 = s1 := by rw [hs2]; exact if_neg (by simpa using hf0)
    subst hsf
    clear hs2
    obtain ⟨rv3, -, -, -, -, -, -, e5, e6⟩ := HG2.out.rd.open
    by_cases he0 : s2.e = 0
    rotate_left
    · have hne := he0
      have hneb : (s2.e == 0) = false := by simpa using hne
      have HPD := Lib.hid (put_dead hne)
      clear hne
      go_wp2_with fail
      exact bodyPost_end (results_none rfl _ _ _) rfl ⟨⟨_, rfl⟩, tv, by rw [HS3.out, HPD.out]; exact HG2.out⟩
    have hneb : (s2.e == 0) = true := by rw [he0]; rfl
    have HE0 := Lib.hid he0
    clear he0
    go_wp2_with fail
    refine wp_region_any (by kernel_rfl) ?_
    change wpAny _ _ _ _ _ _ _ (World.drew _)
    refine wpAny_of_T (C := fun w' => w'.cell? ⟨P.r, 5, none⟩ = some (.slice ao N cap) ∧ Blk w' W.heap.size #[.int .i64 xk, .string xs, .string xl, .string xt, .int .i64 yk, .string ys, .string yl, .string yt, .int .i64 zk, .string zs, .string zl, .string zt] 35) (T := [10]) _ _ _ _ ?_
    have hS : (fun w' => w'.cell? ⟨P.r, 5, none⟩ = some (.slice ao N cap) ∧ Blk w' W.heap.size #[.int .i64 xk, .string xs, .string xl, .string xt, .int .i64 yk, .string ys, .string yl, .string yt, .int .i64 zk, .string zs, .string zl, .string zt] 35) (World.drew w2) := ⟨by rw [← HTV.out]; exact e5, HT.out.blk⟩
    generalize hu0 : World.drew w2 = u0 at hS ⊢
    have HGu := Lib.hid (show Go12 P w tv u0 tv s2 from by rw [← hu0]; exact HG2.out.below (below_drew1 _))
    clear hu0
    try simp only [Act.put, List.setIfInBounds_toArray, List.set_cons_zero, List.set_cons_succ]
    have m12 : ∀ (wz : World), Blk wz W.heap.size #[.int .i64 xk, .string xs, .string xl, .string xt, .int .i64 yk, .string ys, .string yl, .string yt, .int .i64 zk, .string zs, .string zl, .string zt] 35 → (wz.cell? ⟨W.heap.size, 0, none⟩ = some (.int .i64 xk) ∧ wz.cell? ⟨W.heap.size, 1, none⟩ = some (.string xs) ∧ wz.cell? ⟨W.heap.size, 2, none⟩ = some (.string xl) ∧ wz.cell? ⟨W.heap.size, 3, none⟩ = some (.string xt)) ∧ (wz.cell? ⟨W.heap.size, 4, none⟩ = some (.int .i64 yk) ∧ wz.cell? ⟨W.heap.size, 5, none⟩ = some (.string ys) ∧ wz.cell? ⟨W.heap.size, 6, none⟩ = some (.string yl) ∧ wz.cell? ⟨W.heap.size, 7, none⟩ = some (.string yt)) ∧ wz.cell? ⟨W.heap.size, 8, none⟩ = some (.int .i64 zk) ∧ wz.cell? ⟨W.heap.size, 9, none⟩ = some (.string zs) ∧ wz.cell? ⟨W.heap.size, 10, none⟩ = some (.string zl) ∧ wz.cell? ⟨W.heap.size, 11, none⟩ = some (.string zt) := fun wz hb => ⟨⟨hb.cell 0, hb.cell 1, hb.cell 2, hb.cell 3⟩, ⟨hb.cell 4, hb.cell 5, hb.cell 6, hb.cell 7⟩, hb.cell 8, hb.cell 9, hb.cell 10, hb.cell 11⟩
    have M12 := Lib.hid m12
    clear m12 c5 c6 hlt a0 a1 a2 a3 a4 b0 b1 b2 b3 b4 d0 d1 d2 d3 d4 e5 e6
    refine wpAnyT_take (i := 0) (oi := ⟨some 34, _, _, _, _, _⟩) (v := ?_) rfl (by kernel_rfl) (by kernel_rfl) (by kernel_rfl) (by kernel_rfl) (fun _ _ _ h => h) (Or.inl ⟨by simp only [Region.wanted], ?_⟩) hS ?_
    rotate_left
    · intro wz hSw
      clear hSw
      go_simp
      first | done | with_reducible rfl
    try simp only [Act.put, List.setIfInBounds_toArray, List.set_cons_zero, List.set_cons_succ]
    refine wpAnyT_take (i := 1) (oi := ⟨some 35, _, _, _, _, _⟩) (v := ?_) rfl (by kernel_rfl) (by kernel_rfl) (by kernel_rfl) (by kernel_rfl) (fun _ _ _ h => h) (Or.inl ⟨by simp only [Region.wanted], ?_⟩) hS ?_
    rotate_left
    · intro wz hSw
      clear hSw
      go_simp
      first | done | with_reducible rfl
    try simp only [Act.put, List.setIfInBounds_toArray, List.set_cons_zero, List.set_cons_succ]
    refine wpAnyT_take (i := 2) (oi := ⟨some 36, _, _, _, _, _⟩) (v := ?_) rfl (by kernel_rfl) (by kernel_rfl) (by kernel_rfl) (by kernel_rfl) (fun _ _ _ h => h) (Or.inl ⟨by simp only [Region.wanted], ?_⟩) hS ?_
    rotate_left
    · intro wz hSw
      clear hSw
      go_simp
      first | done | with_reducible rfl
    try simp only [Act.put, List.setIfInBounds_toArray, List.set_cons_zero, List.set_cons_succ]
    refine wpAnyT_take (i := 3) (oi := ⟨some 37, _, _, _, _, _⟩) (v := ?_) rfl (by kernel_rfl) (by kernel_rfl) (by kernel_rfl) (by kernel_rfl) (fun _ _ _ h => h) (Or.inl ⟨by simp only [Region.wanted], ?_⟩) hS ?_
    rotate_left
    · intro wz hSw
      clear hSw
      go_simp
      first | done | with_reducible rfl
    try simp only [Act.put, List.setIfInBounds_toArray, List.set_cons_zero, List.set_cons_succ]
    refine wpAnyT_take (i := 4) (oi := ⟨some 38, _, _, _, _, _⟩) (v := ?_) rfl (by kernel_rfl) (by kernel_rfl) (by kernel_rfl) (by kernel_rfl) (fun _ _ _ h => h) (Or.inl ⟨by simp only [Region.wanted], ?_⟩) hS ?_
    rotate_left
    · intro wz hSw; have q0 := hSw.1
      clear hSw
      go_simp
      first | done | with_reducible rfl
    try simp only [Act.put, List.setIfInBounds_toArray, List.set_cons_zero, List.set_cons_succ]
    refine wpAnyT_take (i := 5) (oi := ⟨some 39, _, _, _, _, _⟩) (v := ?_) rfl (by kernel_rfl) (by kernel_rfl) (by kernel_rfl) (by kernel_rfl) (fun _ _ _ h => h) (Or.inl ⟨by simp only [Region.wanted], ?_⟩) hS ?_
    rotate_left
    · intro wz hSw; obtain ⟨⟨m0, m1, m2, m3⟩, ⟨m4, m5, m6, m7⟩, m8, m9, m10, m11⟩ := M12.out _ hSw.2
      clear hSw
      go_simp
      first | done | with_reducible rfl
    try simp only [Act.put, List.setIfInBounds_toArray, List.set_cons_zero, List.set_cons_succ]
    refine wpAnyT_ready (rs := [6]) (by kernel_rfl) (by simp) ?_
    refine AllReadyT.cons (o := ⟨some 40, _, _, _, _, _⟩) rfl (fun KK hK => ?_) (AllReadyT.nil)
    · have hal5 : Below u0.heap.size u0 (u0.alloc (.cells #[.int .i64 xk, .string xs, .string xl, .string xt, .int .i64 yk, .string ys, .string yl, .string yt, .int .i64 zk, .string zs, .string zl, .string zt] 35)) := (Below.refl _ _).alloc (Nat.le_refl _) _
      have hbx : Blk (u0.alloc (.cells #[.int .i64 xk, .string xs, .string xl, .string xt, .int .i64 yk, .string ys, .string yl, .string yt, .int .i64 zk, .string zs, .string zl, .string zt] 35)) u0.heap.size #[.int .i64 xk, .string xs, .string xl, .string xt, .int .i64 yk, .string ys, .string yl, .string yt, .int .i64 zk, .string zs, .string zl, .string zt] 35 := Blk.new _ _ _
      go_simp
      generalize World.alloc u0 _ = u1 at hal5 hbx ⊢
      refine hK.out _ _ (⟨(hal5.cell (p := ⟨P.r, 5, none⟩) (World.block_lt_of_cell? _ _ hS.1)).trans hS.1, (hal5.block _ hS.2.lt).trans hS.2⟩) (fun hS => ?_)
      clear hK KK
      try simp only [Act.put, List.setIfInBounds_toArray, List.set_cons_zero, List.set_cons_succ]
      have HG1u := Lib.hid (HGu.out.below hal5)
      refine wpAnyT_ready (rs := [7]) (by kernel_rfl) (by simp) ?_
      refine AllReadyT.cons (o := ⟨some 41, _, _, _, _, _⟩) rfl (fun KK hK => ?_) (AllReadyT.nil)
      · have hto := HG1u.out.rd.told
        rw [HTV.out] at hto
        refine step_append_tr rfl _ _ rfl P.B HG1u.out.rd.B (.slice ao N cap) s2.told rfl hto u0.heap.size rfl X (by rw [HX.out]; exact hbx) (N + 1) (by rw [HNN.out]) (by omega) ?_
        intro ao5 cap5 u2 ho hx5 hy5 hg hq
        have hm2 : Moved (fun q => (Value.slice ao N cap).ownBlock = some q) u1 u2 := ⟨hg.os, hg.tape, hg.output, hg.size, fun k hk hne => hg.block k hk (fun e => hne e.symm)⟩
        have hblkr : ∀ j, u2.cell? ⟨P.r, j, none⟩ = u1.cell? ⟨P.r, j, none⟩ := fun j => World.cell?_of_block (a := ⟨P.r, j, none⟩) (hg.block P.r HG1u.out.rd.rlt (fun e => by have := (hto.lt _ e.symm).1; have := HG1u.out.rd.lts.1; omega))
        have hTell := HG1u.out.rd.tells HE0.out X (by have := HNN.out; omega) (by rw [HTV.out]; exact hg) ho (by rw [HTV.out]; exact hq)
        have HTELL := Lib.hid (HG1u.out.trans hTell)
        have y0 : u2.frozen? ⟨P.r, 5, none⟩ = false := by
          obtain ⟨rvx, -, gx⟩ := HG1u.out.rd.cells
          exact (gx.moved hm2 (fun e => by have := (hto.lt _ e).1; have := HG1u.out.rd.lts.1; omega)).frozen 5
        refine hK.out _ _ (⟨(hblkr 5).trans hS.1, hS.2.moved hm2 (fun e => HT.out.own (by rw [HTV.out]; exact e))⟩) (fun hS => ?_)
        clear hK KK
        try simp only [Act.put, List.setIfInBounds_toArray, List.set_cons_zero, List.set_cons_succ]
        refine wpAnyT_take (i := 8) (oi := ⟨some 42, _, _, _, _, _⟩) (v := ?_) rfl (by kernel_rfl) (by kernel_rfl) (by kernel_rfl) (by kernel_rfl) (fun _ _ _ h => h) (Or.inl ⟨by simp only [Region.wanted], ?_⟩) hS ?_
        rotate_left
        · intro wz hSw
          clear hSw
          go_simp
          first | done | with_reducible rfl
        try simp only [Act.put, List.setIfInBounds_toArray, List.set_cons_zero, List.set_cons_succ]
        refine wpAnyT_take (i := 9) (oi := ⟨some 43, _, _, _, _, _⟩) (v := ?_) rfl (by kernel_rfl) (by kernel_rfl) (by kernel_rfl) (by kernel_rfl) (fun _ _ _ h => h) (Or.inl ⟨by simp only [Region.wanted], ?_⟩) hS ?_
        rotate_left
        · intro wz hSw
          clear hSw
          go_simp
          first | done | with_reducible rfl
        try simp only [Act.put, List.setIfInBounds_toArray, List.set_cons_zero, List.set_cons_succ]
        refine wpAnyT_ready (rs := [10]) (by kernel_rfl) (by simp) ?_
        refine AllReadyT.last (o := ⟨none, _, _, _, _, _⟩) rfl (by kernel_rfl) (fun KK hK => ?_) (AllReadyT.nil)
        · go_simp
          refine hK.out _ _ ?_
          clear hK KK
          try simp only [Act.put, List.setIfInBounds_toArray, List.set_cons_zero, List.set_cons_succ]
          refine wpAnyT_done (by kernel_rfl) ?_ _
          go_wp2_with fail
          exact bodyPost_end (results_none rfl _ _ _) rfl ⟨⟨_, rfl⟩, _, by rw [HS3.out]; exact HTELL.out⟩
end Go.Proofs.YtefkppeicmipbaaGreatDoor
