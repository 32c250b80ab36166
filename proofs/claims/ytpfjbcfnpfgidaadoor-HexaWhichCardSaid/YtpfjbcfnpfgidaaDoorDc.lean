/- Are all numbers that are given ahead? -/
import Derived.Test.YtpfjbcfnpfgidaaDoorDb
import Derived.ChangeKeysEq
namespace Go.Proofs.YtpfjbcfnpfgidaaDoor
open Go.RowKit
set_option maxRecDepth 100000
set_option linter.unusedVariables false
set_option linter.unusedSimpArgs false
theorem of_any {i j k : Int} (hp : Perm3 i j k) (a b c : Int) (w : World) :
    Calls Tryd.prog 13 #[tri i j k, tri a b c] w fun e w' => e = .returned (tri (at3i a b c i) (at3i a b c j) (at3i a b c k)) ∧ Below w.heap.size w w' := by
  rcases hp with ⟨rfl, rfl, rfl⟩ | ⟨rfl, rfl, rfl⟩ | ⟨rfl, rfl, rfl⟩ | ⟨rfl, rfl, rfl⟩ | ⟨rfl, rfl, rfl⟩ | ⟨rfl, rfl, rfl⟩
  · exact of_012 a b c w
  · exact of_021 a b c w
  · exact of_102 a b c w
  · exact of_120 a b c w
  · exact of_201 a b c w
  · exact of_210 a b c w
theorem cnt3 (a b c : Int) : cnt a b c 3 = nzN a + nzN b + nzN c := rfl
theorem nzN_le (a : Int) : nzN a ≤ 1 := by unfold nzN; split <;> omega
theorem cnt_perm {i j k : Int} (hp : Perm3 i j k) (a b c : Int) : cnt (at3i a b c i) (at3i a b c j) (at3i a b c k) 3 = cnt a b c 3 := by
  have h1 : at3i a b c 0 = a := rfl
  have h2 : at3i a b c 1 = b := rfl
  have h3 : at3i a b c 2 = c := rfl
  rcases hp with ⟨rfl, rfl, rfl⟩ | ⟨rfl, rfl, rfl⟩ | ⟨rfl, rfl, rfl⟩ | ⟨rfl, rfl, rfl⟩ | ⟨rfl, rfl, rfl⟩ | ⟨rfl, rfl, rfl⟩ <;> rw [h1, h2, h3] <;> simp only [cnt3] <;> omega
/-- The front of three numbers. -/
def frontI (x : Int) (n g : Nat) : Int := if n < g then x else 0
def frontV (x y z : Int) (g : Nat) : Array Value := #[.int .i64 (frontI x 0 g), .int .i64 (frontI y 1 g), .int .i64 (frontI z 2 g)]
theorem step_copy3 {ops : Array Oper} {o : Oper} {a : Act} {w : World} {K : Act → World → Prop} {Q : Exit → Act → World → Prop} {E : Prop} (hgd : o.guard = none) (d s : Operand)
    (ho : o.op = .call { callee := .builtin .copy, args := #[d, s], argTypes := #[39, 39] }) (bd bs g cap : Nat) (hg : g ≤ 3)
    (hd : a.eval d = .slice (some ⟨bd, 0, none⟩) 3 3) (hx : a.eval s = .slice (some ⟨bs, 0, none⟩) g cap) (x y z : Int) {t1 t2 : TypeId}
    (hbd : Blk w bd #[.int .i64 0, .int .i64 0, .int .i64 0] t1) (hbs : Blk w bs #[.int .i64 x, .int .i64 y, .int .i64 z] t2)
    (h : ∀ w', Blk w' bd (frontV x y z g) t1 → (∀ k, k ≠ bd → w'.heap[k]? = w.heap[k]?) → (∀ B, B ≤ bd → Below B w w') → K (a.put o.dst (goInt g)) w') :
    if Region.wanted o (yielded ops a.tmps) = true then Oper.wp Tryd.prog o a w K Q else E := by
  have hw : Region.wanted o (yielded ops a.tmps) = true := by simp [Region.wanted, hgd]
  rw [if_pos hw]
  have hsz : (Tryd.prog.info? 3).map (·.size) = some 1 := by kernel_rfl
  have hcl : (([.int .i64 x, .int .i64 y, .int .i64 z] : List Value).take g).length = g := by rw [List.length_take]; simp; omega
  have hrun := run_copy_row (P := Tryd.prog) w 39 39 o.type 3 bd 0 3 3 ⟨bs, 0, none⟩ g cap #[.int .i64 0, .int .i64 0, .int .i64 0] t1 (([.int .i64 x, .int .i64 y, .int .i64 z] : List Value).take g) Tryd.underlying39 hsz hbd (by rw [hcl]; show g = Nat.min g 3; exact (Nat.min_eq_left hg).symm)
    (fun j v hj => by
      rw [show (⟨bs, 0, none⟩ : Addr).add j = ⟨bs, j, none⟩ from by unfold Addr.add; split <;> simp_all, hbs.cell]
      have hjg : j < g := by
        rcases Nat.lt_or_ge j g with h | h
        · exact h
        · rw [List.getElem?_eq_none (by omega)] at hj; cases hj
      rw [List.getElem?_take_of_lt hjg] at hj
      simpa using hj) (by rw [hcl]; simp; omega)
    (fun v hv => by
      have := List.mem_of_mem_take hv
      simp only [List.mem_cons, List.not_mem_nil, or_false] at this
      rcases this with rfl | rfl | rfl <;> rfl)
  rw [hcl] at hrun
  have e : ((#[.int .i64 0, .int .i64 0, .int .i64 0] : Array Value).toList.take 0 ++ ([.int .i64 x, .int .i64 y, .int .i64 z] : List Value).take g ++ (#[.int .i64 0, .int .i64 0, .int .i64 0] : Array Value).toList.drop (0 + g)).toArray = frontV x y z g := by
    rcases (show g = 0 ∨ g = 1 ∨ g = 2 ∨ g = 3 by omega) with rfl | rfl | rfl | rfl <;> rfl
  rw [e] at hrun
  unfold Oper.wp
  simp [execOp, ho, resolve, invoke, builtin, hd, hx, hrun, Result.andThen]
  refine h _ (setRow_heap w bd _ _ _ _ hbd) (fun k hk => setRow_other w bd k _ hk) (fun B hB => ⟨rfl, rfl, rfl, by simp [World.setRow], fun k hk => setRow_other w bd k _ (by omega)⟩)
theorem run_eq3 (w : World) (x y z x' y' z' : Int) : (Op.equalIn 10000 22 (.agg #[.int .i64 x, .int .i64 y, .int .i64 z]) (.agg #[.int .i64 x', .int .i64 y', .int .i64 z'])).run Tryd.prog w = .ok ((x == x') && ((y == y') && (z == z'))) w := by
  cases hi : Tryd.prog.info? 3 with
  | none =>
    have h : (Tryd.prog.info? 3).isSome = true := by kernel_rfl
    rw [hi] at h; cases h
  | some i =>
    have hc : Tryd.prog.cellsOf 3 = 1 := by kernel_rfl
    have p0 : ∀ u v s : Value, ∀ w, (part 3 #[u, v, s] 0).run Tryd.prog w = .ok u w := fun _ _ _ _ => by kernel_rfl
    have p1 : ∀ u v s : Value, ∀ w, (part 3 #[u, v, s] 1).run Tryd.prog w = .ok v w := fun _ _ _ _ => by kernel_rfl
    have p2 : ∀ u v s : Value, ∀ w, (part 3 #[u, v, s] 2).run Tryd.prog w = .ok s w := fun _ _ _ _ => by kernel_rfl
    have q : ∀ (a b : Int) w, (Op.equalIn 9999 3 (.int .i64 a) (.int .i64 b)).run Tryd.prog w = .ok (a == b) w := fun a b w => by
      go_simp
    rw [run_equalIn_array (P := Tryd.prog) w 9999 _ _ Tryd.underlying22 hi, hc, show List.range 3 = [0, 1, 2] from rfl]
    simp only [Op.eqItems, Sem.run_bind, Nat.zero_mul, Nat.one_mul, Nat.mul_one, p0, p1, p2, q, Result.andThen_ok]
    cases x == x'
    · rfl
    · simp only [Bool.not_true, Bool.false_eq_true, if_false, Sem.run_bind, Nat.one_mul, Nat.mul_one, p1, q, Result.andThen_ok, Bool.true_and]
      cases y == y'
      · rfl
      · simp only [Bool.not_true, Bool.false_eq_true, if_false, Sem.run_bind, Nat.one_mul, Nat.mul_one, p2, q, Result.andThen_ok, Bool.true_and]
        cases z == z' <;> rfl
def aheadB (x y z : Int) : Bool := (frontI x 0 (cnt x y z 3) == x) && ((frontI y 1 (cnt x y z 3) == y) && (frontI z 2 (cnt x y z 3) == z))
set_option maxHeartbeats 4000000 in
theorem ahead_any {i j k : Int} (hp : Perm3 i j k) (a b c : Int) (w : World) :
    Calls Tryd.prog 9 #[tri i j k, tri a b c] w fun e w' => e = .returned (.bool (aheadB (at3i a b c i) (at3i a b c j) (at3i a b c k))) ∧ Below w.heap.size w w' := by
  have HOF := Lib.hid (fun w => of_any hp a b c w)
  have HGV := Lib.hid (fun w => given_any a b c w)
  have hg3 : cnt a b c 3 ≤ 3 := by have := nzN_le a; have := nzN_le b; have := nzN_le c; rw [cnt3]; omega
  have hcp := cnt_perm hp a b c
  obtain ⟨x, hx⟩ : ∃ x, x = at3i a b c i := ⟨_, rfl⟩
  obtain ⟨y, hy⟩ : ∃ y, y = at3i a b c j := ⟨_, rfl⟩
  obtain ⟨z, hz⟩ : ∃ z, z = at3i a b c k := ⟨_, rfl⟩
  rw [← hx, ← hy, ← hz] at HOF hcp ⊢
  unfold aheadB
  rw [hcp]
  obtain ⟨g, hg⟩ : ∃ g, g = cnt a b c 3 := ⟨_, rfl⟩
  rw [← hg] at HGV hg3 ⊢
  clear hx hy hz hcp hg hp
  unfold tri at HOF HGV ⊢
  go_enter Tryd.func9, Tryd.ntmps9
  go_wp2_with fail
  refine (HOF.out _).mono ?_
  rintro en w4 ⟨rfl, hb4⟩
  obtain ⟨W2, hW2⟩ : ∃ W2, W2 = (((w.alloc (.cells #[.int .i64 i, .int .i64 j, .int .i64 k] 30)).alloc (.cells #[.int .i64 a, .int .i64 b, .int .i64 c] 22)).alloc (.cells #[.int .i64 0, .int .i64 0, .int .i64 0] 22)) := ⟨_, rfl⟩
  have hB1 : Blk W2 (w.heap.size + 1) #[.int .i64 a, .int .i64 b, .int .i64 c] 22 := by
    have := (Blk.new (w.alloc (.cells #[.int .i64 i, .int .i64 j, .int .i64 k] 30)) #[.int .i64 a, .int .i64 b, .int .i64 c] 22).alloc (.cells #[.int .i64 0, .int .i64 0, .int .i64 0] 22)
    rw [show (w.alloc (.cells #[.int .i64 i, .int .i64 j, .int .i64 k] 30)).heap.size = w.heap.size + 1 by simp] at this
    rw [hW2]; exact this
  have hB2 : Blk W2 (w.heap.size + 1 + 1) #[.int .i64 0, .int .i64 0, .int .i64 0] 22 := by
    have := Blk.new ((w.alloc (.cells #[.int .i64 i, .int .i64 j, .int .i64 k] 30)).alloc (.cells #[.int .i64 a, .int .i64 b, .int .i64 c] 22)) #[.int .i64 0, .int .i64 0, .int .i64 0] 22
    rw [show ((w.alloc (.cells #[.int .i64 i, .int .i64 j, .int .i64 k] 30)).alloc (.cells #[.int .i64 a, .int .i64 b, .int .i64 c] 22)).heap.size = w.heap.size + 1 + 1 by simp] at this
    rw [hW2]; exact this
  have hsz : W2.heap.size = w.heap.size + 3 := by rw [hW2]; simp
  have hbw : Below w.heap.size w W2 := by
    rw [hW2]
    exact (((Below.refl _ w).alloc (Nat.le_refl _) _).alloc (by simp) _).alloc (by simp; omega) _
  rw [← hW2] at hb4
  clear hW2
  have hB1' : Blk w4 (w.heap.size + 1) _ _ := (hb4.block _ hB1.lt).trans hB1
  have hB2' : Blk w4 (w.heap.size + 1 + 1) _ _ := (hb4.block _ hB2.lt).trans hB2
  have hq := hb4.size
  have hbw4 : Below w.heap.size w w4 := hbw.trans (hb4.mono (by omega))
  clear hB1 hB2 hbw hb4
  go_wp2_with fail
  have hB1 := hB1'.alloc (.cells #[.int .i64 x, .int .i64 y, .int .i64 z] 22)
  have hB2 := hB2'.alloc (.cells #[.int .i64 x, .int .i64 y, .int .i64 z] 22)
  have hB3 := Blk.new w4 #[.int .i64 x, .int .i64 y, .int .i64 z] 22
  have hbw5 := hbw4.alloc (by omega) (.cells #[.int .i64 x, .int .i64 y, .int .i64 z] 22)
  obtain ⟨q, hqq⟩ : ∃ q, q = w4.heap.size := ⟨_, rfl⟩
  rw [← hqq] at hB3 hq ⊢
  clear hB1' hB2' hbw4
  generalize World.alloc w4 _ = w5 at hB1 hB2 hB3 hbw5 ⊢
  clear hqq
  refine wp_region_any (by kernel_rfl) ?_
  change wpAny _ _ _ _ _ _ _ (World.drew _)
  refine wpAny_of_held (S := fun (w' : World) => Blk w' (w.heap.size + 1) #[.int .i64 a, .int .i64 b, .int .i64 c] 22 ∧ Blk w' q #[.int .i64 x, .int .i64 y, .int .i64 z] 22) _ _ _ _ ?_
  have hS : (fun (w' : World) => Blk w' (w.heap.size + 1) #[.int .i64 a, .int .i64 b, .int .i64 c] 22 ∧ Blk w' q #[.int .i64 x, .int .i64 y, .int .i64 z] 22) (World.drew w5) := ⟨hB1.drew, hB3.drew⟩
  have hB2d := hB2.drew
  have hbd := hbw5.drew
  clear hB1 hB3 hB2 hbw5
  generalize World.drew w5 = v0 at hB2d hbd hS ⊢
  try simp only [Act.put, List.setIfInBounds_toArray, List.set_cons_zero, List.set_cons_succ]
  refine wpAnyH_take (i := 0) (oi := ⟨some 10, _, _, _, _, _⟩) (v := ?_) rfl (by kernel_rfl) (by kernel_rfl) (by kernel_rfl) (fun _ _ _ h => h) (Or.inl ⟨by simp only [Region.wanted], ?_⟩) hS ?_
  rotate_left
  · intro wz hSw
    clear hSw
    go_simp
    first | done | with_reducible rfl
  try simp only [Act.put, List.setIfInBounds_toArray, List.set_cons_zero, List.set_cons_succ]
  refine wpAnyH_take (i := 1) (oi := ⟨some 11, _, _, _, _, _⟩) (v := ?_) rfl (by kernel_rfl) (by kernel_rfl) (by kernel_rfl) (fun _ _ _ h => h) (Or.inl ⟨by simp only [Region.wanted], ?_⟩) hS ?_
  rotate_left
  · intro wz hSw; have hd0 := hSw.1.cell 0; have hd1 := hSw.1.cell 1; have hd2 := hSw.1.cell 2; simp only [List.getElem?_toArray, List.getElem?_cons_zero, List.getElem?_cons_succ] at hd0 hd1 hd2
    clear hSw
    go_simp
    first | done | with_reducible rfl
  try simp only [Act.put, List.setIfInBounds_toArray, List.set_cons_zero, List.set_cons_succ]
  refine wpAnyH_ready (rs := [2]) (by kernel_rfl) (by simp) ?_
  refine AllReadyH.cons (o := ⟨some 12, _, _, _, _, _⟩) rfl (fun K hK => ?_) AllReadyH.nil
  go_simp
  refine (HGV.out _).mono ?_
  rintro en w6 ⟨rfl, hb6⟩
  have hB2e : Blk w6 (w.heap.size + 1 + 1) _ _ := (hb6.block _ hB2d.lt).trans hB2d
  have hbe : Below w.heap.size w w6 := hbd.trans (hb6.mono hbd.size)
  refine hK.out _ _ (⟨(hb6.block _ hS.1.lt).trans hS.1, (hb6.block _ hS.2.lt).trans hS.2⟩) (fun hS => ?_)
  clear hK K
  try simp only [Act.put, List.setIfInBounds_toArray, List.set_cons_zero, List.set_cons_succ]
  clear hB2d hbd
  have hg3' : (g : Int) ≤ 3 := by omega
  have hg0' : (0 : Int) ≤ g := by omega
  refine wpAnyH_take (i := 3) (oi := ⟨some 13, _, _, _, _, _⟩) (v := ?_) rfl (by kernel_rfl) (by kernel_rfl) (by kernel_rfl) (fun _ _ _ h => h) (Or.inl ⟨by simp only [Region.wanted], ?_⟩) hS ?_
  rotate_left
  · intro wz hSw
    clear hSw
    go_simp
    first | done | with_reducible rfl
  try simp only [Act.put, List.setIfInBounds_toArray, List.set_cons_zero, List.set_cons_succ]
  refine wpAnyH_ready (rs := [4]) (by kernel_rfl) (by simp) ?_
  refine AllReadyH.cons (o := ⟨some 14, _, _, _, _, _⟩) rfl (fun K hK => ?_) AllReadyH.nil
  refine step_copy3 rfl _ _ rfl _ _ g _ hg3 rfl rfl x y z hB2e hS.2 ?_
  intro w7 hB7 hoth hbel
  refine hK.out _ _ (⟨(hoth _ (by omega)).trans hS.1, (hoth _ (by omega)).trans hS.2⟩) (fun hS => ?_)
  clear hK K
  try simp only [Act.put, List.setIfInBounds_toArray, List.set_cons_zero, List.set_cons_succ]
  refine wpAnyH_done (by kernel_rfl) ?_ _
  unfold frontV at hB7
  obtain ⟨x', hx'⟩ : ∃ x', x' = frontI x 0 g := ⟨_, rfl⟩
  obtain ⟨y', hy'⟩ : ∃ x', x' = frontI y 1 g := ⟨_, rfl⟩
  obtain ⟨z', hz'⟩ : ∃ x', x' = frontI z 2 g := ⟨_, rfl⟩
  rw [← hx', ← hy', ← hz'] at hB7
  have k0 := hB7.cell 0
  have k1 := hB7.cell 1
  have k2 := hB7.cell 2
  have m0 := hS.2.cell 0
  have m1 := hS.2.cell 1
  have m2 := hS.2.cell 2
  simp only [List.getElem?_toArray, List.getElem?_cons_zero, List.getElem?_cons_succ] at k0 k1 k2 m0 m1 m2
  have heq := fun w => run_eq3 w (frontI x 0 g) (frontI y 1 g) (frontI z 2 g) x y z
  have hfin : Below w.heap.size w w7 := hbe.trans (hbel _ (by omega))
  go_wp2_with fail

  go_ret
  exact ⟨rfl, hfin⟩
end Go.Proofs.YtpfjbcfnpfgidaaDoor
