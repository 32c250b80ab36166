/- References: Resolve. -/
import Derived.Test.YtefkppeicmipbaaGreatDoorKj
namespace Go.Proofs.YtefkppeicmipbaaGreatDoor
open Go.RowKit Go.Shelf
set_option maxRecDepth 100000
set_option linter.unusedVariables false
theorem dotF_len : ∀ (n : Nat) (o s : List UInt8), (dotF n o s).length ≤ o.length + s.length
  | 0, o, s => by unfold dotF; omega
  | n + 1, o, s => by
    unfold dotF
    split
    · omega
    · rename_i h
      have h1 := dstep_lt o s h
      have h2 := dotF_len n (dstep o s).1 (dstep o s).2
      omega
theorem dot_len (s : List UInt8) : (dotL s).length ≤ s.length := by
  have := dotF_len s.length [] s
  rw [List.length_nil, Nat.zero_add] at this
  exact this
theorem blk5_cells {w : World} {g : Nat} {d0 d1 d2 d3 d4 : ByteArray} {t : TypeId} (h : Blk w g #[.string d0, .string d1, .string d2, .string d3, .string d4] t) : ∀ (j : Nat) x, [d0, d1, d2, d3, d4][j]? = some x → w.cell? ⟨g, j, none⟩ = some (.string x) := fun j x hj => by
  rw [h.cell j]
  match j, hj with
  | 0, hj => cases hj; rfl
  | 1, hj => cases hj; rfl
  | 2, hj => cases hj; rfl
  | 3, hj => cases hj; rfl
  | 4, hj => cases hj; rfl
  | j + 5, hj => simp at hj
theorem blk5_open {w : World} {g : Nat} {d0 d1 d2 d3 d4 : Value} {t : TypeId} (h : Blk w g #[d0, d1, d2, d3, d4] t) : Blk w g #[d0, d1, d2, d3, d4] t ∧ w.cell? ⟨g, 0, none⟩ = some d0 ∧ w.cell? ⟨g, 1, none⟩ = some d1 ∧ w.cell? ⟨g, 2, none⟩ = some d2 ∧ w.cell? ⟨g, 3, none⟩ = some d3 ∧ w.cell? ⟨g, 4, none⟩ = some d4 ∧ w.frozen? ⟨g, 0, none⟩ = false ∧ w.frozen? ⟨g, 1, none⟩ = false ∧ w.frozen? ⟨g, 2, none⟩ = false ∧ w.frozen? ⟨g, 3, none⟩ = false ∧ w.frozen? ⟨g, 4, none⟩ = false :=
  ⟨h, h.cell 0, h.cell 1, h.cell 2, h.cell 3, h.cell 4, h.frozen 0, h.frozen 1, h.frozen 2, h.frozen 3, h.frozen 4⟩
theorem join5 {w : World} {g : Nat} {d0 d1 d2 d3 d4 : ByteArray} {t : TypeId} (h : Blk w g #[.string d0, .string d1, .string d2, .string d3, .string d4] t) (hl : d0.size + d1.size + d2.size + d3.size + d4.size ≤ 1000000) (z : ByteArray) (hz : z.data.toList = d0.data.toList ++ d1.data.toList ++ d2.data.toList ++ d3.data.toList ++ d4.data.toList) :
    Calls Tryz.prog 101 #[.slice (some ⟨g, 0, none⟩) 5 5, .string ⟨#[]⟩] w fun e w' => e = .returned (.string z) ∧ Below w.heap.size w w' := by
  have e : ([d0, d1, d2, d3, d4].map (·.data.toList)).flatten = z.data.toList := by rw [hz]; simp
  have hJ := sjoin_any g [d0, d1, d2, d3, d4] w (blk5_cells h) h.lt 5 (by simp) (by simp) (by
    rw [e, hz]
    simp only [List.length_append, ← Lib.size_eq]
    exact hl)
  rw [e] at hJ
  exact hJ
theorem empty_dec (b : ByteArray) : b.toList.isEmpty = decide (b.data.toList = []) := by
  rw [Lib.toList_data]
  cases b.data.toList <;> simp
theorem pt_sizes (l : List UInt8) : (splitL l).s.length + (splitL l).a.length + (splitL l).p.length + (splitL l).q.length + (splitL l).f.length = l.length := by
  have := congrArg List.length (split_whole l)
  unfold Pt.whole at this
  simp only [List.length_append] at this
  exact this
def Exit.twoX (J0 J1 : Act → World → Prop) (Q : Exit → Act → World → Prop) : Exit → Act → World → Prop
  | .goto l, a, w => (l = 0 ∧ J0 a w) ∨ (l = 1 ∧ J1 a w)
  | e, a, w => Q e a w
theorem Exit.twoX_ret {J0 J1 : Act → World → Prop} {Q : Exit → Act → World → Prop} {a : Act} {w : World} : Exit.twoX J0 J1 Q .ret a w = Q .ret a w := rfl
theorem wp_scope_two10 {P : Program} {a : Act} {w : World} {Q : Exit → Act → World → Prop} {c r0 r1 : Code} (J0 J1 : Act → World → Prop) (μ : Act → World → Nat) (h0 : findLabel c 0 = some (Code.seq .skip r0)) (h1 : findLabel c 1 = some (Code.seq .skip r1))
    (out : ∀ a w, J1 a w → r1.wp P (Exit.noGoto Q) a w)
    (pass : ∀ a w, J0 a w → r0.wp P (Exit.twoX (fun a' w' => J0 a' w' ∧ μ a' w' < μ a w) J1 Q) a w)
    (first : (∀ a w, J0 a w → r0.wp P (Exit.twoX J0 J1 Q) a w) → c.wp P (Exit.twoX J0 J1 Q) a w) : (Code.scope c).wp P Q a w := by
  have pass' : ∀ a w, J0 a w → (Code.seq .skip r0).wp P (Exit.twoX (fun a' w' => J0 a' w' ∧ μ a' w' < μ a w) J1 Q) a w := fun a w hJ => wp_seq (wp_skip (pass a w hJ))
  have out' : ∀ a w, J1 a w → (Code.seq .skip r1).wp P (Exit.noGoto Q) a w := fun a w hJ => wp_seq (wp_skip (Code.wp_mono (by
    intro e a w h
    cases e with
    | normal => exact h
    | _ => exact h) (out a w hJ)))
  intro b k cs
  have hg0 : gotoIn 0 (.inScope c :: k) = some (.code (Code.seq .skip r0) :: .inScope c :: k) := by simp [gotoIn, h0]
  have hg1 : gotoIn 1 (.inScope c :: k) = some (.code (Code.seq .skip r1) :: .inScope c :: k) := by simp [gotoIn, h1]
  have last : ∀ a w, J1 a w → ∃ e a' w', Q e a' w' ∧ Arrives P (lone (b.at a (.code (Code.seq .skip r1) :: .inScope c :: k)) cs w) b k cs e a' w' := by
    intro a w hJ
    obtain ⟨e, a₁, w₁, hq, harr⟩ := out' a w hJ b (.inScope c :: k) cs
    cases e with
    | normal => exact ⟨.normal, a₁, w₁, hq, Steps.trans harr (.one step_inScope)⟩
    | exit id => exact ⟨.exit id, a₁, w₁, hq, fun k' hk => harr k' (by simp [exitTo, hk])⟩
    | goto l' => exact hq.elim
    | ret => exact ⟨_, a₁, w₁, hq, harr⟩
    | panic ch => exact ⟨_, a₁, w₁, hq, harr⟩
    | outgrown => exact ⟨_, a₁, w₁, hq, harr⟩
  have key : ∀ n a w, μ a w = n → J0 a w → ∃ e a' w', Q e a' w' ∧ Arrives P (lone (b.at a (.code (Code.seq .skip r0) :: .inScope c :: k)) cs w) b k cs e a' w' := by
    intro n
    induction n using Nat.strongRecOn with
    | _ n ih =>
      intro a w hn hJ
      obtain ⟨e, a₁, w₁, hq, harr⟩ := pass' a w hJ b (.inScope c :: k) cs
      cases e with
      | normal => exact ⟨.normal, a₁, w₁, hq, Steps.trans harr (.one step_inScope)⟩
      | exit id => exact ⟨.exit id, a₁, w₁, hq, fun k' hk => harr k' (by simp [exitTo, hk])⟩
      | goto l' =>
        rcases hq with ⟨rfl, hJ', hlt⟩ | ⟨rfl, hJ'⟩
        · obtain ⟨e₂, a₂, w₂, hq₂, harr₂⟩ := ih _ (by omega) a₁ w₁ rfl hJ'
          exact ⟨e₂, a₂, w₂, hq₂, .of_steps (harr _ hg0) harr₂⟩
        · obtain ⟨e₂, a₂, w₂, hq₂, harr₂⟩ := last a₁ w₁ hJ'
          exact ⟨e₂, a₂, w₂, hq₂, .of_steps (harr _ hg1) harr₂⟩
      | ret => exact ⟨_, a₁, w₁, hq, harr⟩
      | panic ch => exact ⟨_, a₁, w₁, hq, harr⟩
      | outgrown => exact ⟨_, a₁, w₁, hq, harr⟩
  obtain ⟨e, a₁, w₁, hq, harr⟩ := (first (fun a w hJ => Code.wp_mono (by
    intro e a w h
    cases e with
    | goto l' => exact h.imp (fun k => ⟨k.1, k.2.1⟩) id
    | _ => exact h) (pass a w hJ))) b (.inScope c :: k) cs
  cases e with
  | normal => exact ⟨.normal, a₁, w₁, hq, .head step_scope (Steps.trans harr (.one step_inScope))⟩
  | exit id => exact ⟨.exit id, a₁, w₁, hq, fun k' hk => .head step_scope (harr k' (by simp [exitTo, hk]))⟩
  | goto l' =>
    rcases hq with ⟨rfl, hJ'⟩ | ⟨rfl, hJ'⟩
    · obtain ⟨e₂, a₂, w₂, hq₂, harr₂⟩ := key _ a₁ w₁ rfl hJ'
      exact ⟨e₂, a₂, w₂, hq₂, .of_steps (.head step_scope (harr _ hg0)) harr₂⟩
    · obtain ⟨e₂, a₂, w₂, hq₂, harr₂⟩ := last a₁ w₁ hJ'
      exact ⟨e₂, a₂, w₂, hq₂, .of_steps (.head step_scope (harr _ hg1)) harr₂⟩
  | ret => exact ⟨_, a₁, w₁, hq, .of_steps (.one step_scope) harr⟩
  | panic ch => exact ⟨_, a₁, w₁, hq, .of_steps (.one step_scope) harr⟩
  | outgrown => exact ⟨_, a₁, w₁, hq, .of_steps (.one step_scope) harr⟩
theorem ex_u10 (T : Array Value) (F : (Nat → Value) → Array Value) (hF : F (fun i => T.getD i undef) = T) (R : (Nat → Value) → Prop) (h : R (fun i => T.getD i undef)) : ∃ u, ({ tmps := T, defers := [] } : Act) = { tmps := F u, defers := [] } ∧ R u :=
  ⟨_, by rw [hF], h⟩
set_option maxHeartbeats 16000000 in
theorem iresolve_any (b r : ByteArray) (hb : b.size ≤ 100000) (hr : r.size ≤ 100000) (hM1 : MarksAt b.data.toList) (hM2 : MarksAt r.data.toList) (z : ByteArray) (hz : z.data.toList = resolveL (splitL b.data.toList) (splitL r.data.toList)) (w : World) :
    Calls Tryz.prog 71 #[.string b, .string r] w fun e w' => e = .returned (.string z) ∧ Below w.heap.size w w' := by
  have HS1 := Lib.hid (fun w => isplit_any b (by omega) hM1 w)
  have HS2 := Lib.hid (fun w => isplit_any r (by omega) hM2 w)
  have hp1 := pt_sizes b.data.toList
  have hp2 := pt_sizes r.data.toList
  rw [← Lib.size_eq] at hp1 hp2
  generalize splitL b.data.toList = P at HS1 hz hp1
  generalize splitL r.data.toList = R at HS2 hz hp2
  obtain ⟨b0, hb0⟩ := exists_ba P.s
  obtain ⟨b1, hb1⟩ := exists_ba P.a
  obtain ⟨b2, hb2⟩ := exists_ba P.p
  obtain ⟨b3, hb3⟩ := exists_ba P.q
  obtain ⟨b4, hb4⟩ := exists_ba P.f
  obtain ⟨c0, hc0⟩ := exists_ba R.s
  obtain ⟨c1, hc1⟩ := exists_ba R.a
  obtain ⟨c2, hc2⟩ := exists_ba R.p
  obtain ⟨c3, hc3⟩ := exists_ba R.q
  obtain ⟨c4, hc4⟩ := exists_ba R.f
  have v1 : ptV P = .agg #[.string b0, .string b1, .string b2, .string b3, .string b4] := by unfold ptV; rw [← hb0, ← hb1, ← hb2, ← hb3, ← hb4]
  have v2 : ptV R = .agg #[.string c0, .string c1, .string c2, .string c3, .string c4] := by unfold ptV; rw [← hc0, ← hc1, ← hc2, ← hc3, ← hc4]
  rw [v1] at HS1
  rw [v2] at HS2
  rw [← hb0, ← hb1, ← hb2, ← hb3, ← hb4, ← Lib.size_eq, ← Lib.size_eq, ← Lib.size_eq, ← Lib.size_eq, ← Lib.size_eq] at hp1
  rw [← hc0, ← hc1, ← hc2, ← hc3, ← hc4, ← Lib.size_eq, ← Lib.size_eq, ← Lib.size_eq, ← Lib.size_eq, ← Lib.size_eq] at hp2
  have HB := Lib.hid (And.intro hb0 (And.intro hb1 (And.intro hb2 (And.intro hb3 hb4))))
  have HC := Lib.hid (And.intro hc0 (And.intro hc1 (And.intro hc2 (And.intro hc3 hc4))))
  have HZ := Lib.hid hz
  have HZ1 := Lib.hid (show b0.size + b1.size + b2.size + b3.size + b4.size ≤ 100000 by omega)
  have HZ2 := Lib.hid (show c0.size + c1.size + c2.size + c3.size + c4.size ≤ 100000 by omega)
  have q0 := empty_dec c0
  have q1 := empty_dec c1
  have q2 := empty_dec c2
  rw [hc0] at q0
  rw [hc1] at q1
  rw [hc2] at q2
  clear hb0 hb1 hb2 hb3 hb4 hc0 hc1 hc2 hc3 hc4 v1 v2 hp1 hp2 hz hM1 hM2 hb hr
  go_enter Tryz.func71, Tryz.ntmps71
  go_wp2_with fail
  refine wp_scope_two10 (fun a' w' => ∃ (N : Nat) (d0 d1 d2 d3 d4 : ByteArray), ∃ u : Nat → Value, a' = { tmps := #[u 0, u 1, u 2, u 3, u 4, u 5, .pointer (some ⟨N, 0, none⟩), u 7, u 8, u 9, u 10, u 11, u 12, u 13, u 14, u 15, u 16, u 17, u 18, u 19, u 20, u 21, u 22, u 23, u 24, u 25, u 26, u 27, u 28, u 29, u 30, u 31, u 32, u 33, u 34, u 35, u 36, u 37, u 38, u 39, u 40, u 41, u 42, u 43, u 44, u 45, u 46, u 47, u 48, u 49, u 50, u 51], defers := [] } ∧ Blk w' N #[.string d0, .string d1, .string d2, .string d3, .string d4] 109 ∧ Below w.heap.size w w' ∧ w.heap.size ≤ N ∧ d0.size + d1.size + d2.size + d3.size + d4.size ≤ 500000 ∧ z.data.toList = d0.data.toList ++ d1.data.toList ++ dotL d2.data.toList ++ d3.data.toList ++ d4.data.toList) (fun a' w' => ∃ (N : Nat) (d0 d1 d2 d3 d4 : ByteArray), ∃ u : Nat → Value, a' = { tmps := #[u 0, u 1, u 2, u 3, u 4, u 5, .pointer (some ⟨N, 0, none⟩), u 7, u 8, u 9, u 10, u 11, u 12, u 13, u 14, u 15, u 16, u 17, u 18, u 19, u 20, u 21, u 22, u 23, u 24, u 25, u 26, u 27, u 28, u 29, u 30, u 31, u 32, u 33, u 34, u 35, u 36, u 37, u 38, u 39, u 40, u 41, u 42, u 43, u 44, u 45, u 46, u 47, u 48, u 49, u 50, u 51], defers := [] } ∧ Blk w' N #[.string d0, .string d1, .string d2, .string d3, .string d4] 109 ∧ Below w.heap.size w w' ∧ w.heap.size ≤ N ∧ d0.size + d1.size + d2.size + d3.size + d4.size ≤ 500000 ∧ z.data.toList = d0.data.toList ++ d1.data.toList ++ d2.data.toList ++ d3.data.toList ++ d4.data.toList) (fun _ _ => 0) rfl rfl ?_ ?_ ?_
  · rintro a wr ⟨N, d0, d1, d2, d3, d4, u, rfl, hR, hbel, hN, hsz, hzz⟩
    have HJ := Lib.hid (join5 hR (by omega) z hzz)
    clear hR hzz
    go_wp2_with fail
    refine HJ.out.mono ?_
    rintro e wz ⟨rfl, hbz⟩
    replace hbel := hbel.trans (hbz.mono hbel.size)
    clear hbz HJ
    go_wp2_with fail
    repeat rw [Exit.noGoto_ret]
    go_ret
    exact ⟨rfl, hbel⟩
  · rintro a wr ⟨N, d0, d1, d2, d3, d4, u, rfl, hR, hbel, hN, hsz, hzz⟩
    obtain ⟨dd, hdd⟩ := exists_ba (dotL d2.data.toList)
    have hddl : dd.size ≤ d2.size := by
      rw [Lib.size_eq dd, hdd, Lib.size_eq d2]; exact dot_len _
    have HDT := Lib.hid (fun w => dotless_any d2 (by omega) w)
    rw [show (⟨(dotL d2.data.toList).toArray⟩ : ByteArray) = dd from ba_extK hdd.symm] at HDT
    rw [← hdd] at hzz
    have z0 := hR.cell 0
    have z1 := hR.cell 1
    have z2 := hR.cell 2
    have z3 := hR.cell 3
    have z4 := hR.cell 4
    have y0 := hR.frozen 0
    have y1 := hR.frozen 1
    have y2 := hR.frozen 2
    have y3 := hR.frozen 3
    have y4 := hR.frozen 4
    simp only [List.getElem?_toArray, List.getElem?_cons_zero, List.getElem?_cons_succ] at z0 z1 z2 z3 z4
    go_wp2_with fail
    refine (HDT.out _).mono ?_
    rintro e wy ⟨rfl, hby⟩
    clear z0 z1 z2 z3 z4 y0 y1 y2 y3 y4
    replace hR : Blk wy N _ _ := (hby.block _ hR.lt).trans hR
    replace hbel := hbel.trans (hby.mono hbel.size)
    clear hby HDT
    have z0 := hR.cell 0
    have z1 := hR.cell 1
    have z2 := hR.cell 2
    have z3 := hR.cell 3
    have z4 := hR.cell 4
    have y0 := hR.frozen 0
    have y1 := hR.frozen 1
    have y2 := hR.frozen 2
    have y3 := hR.frozen 3
    have y4 := hR.frozen 4
    simp only [List.getElem?_toArray, List.getElem?_cons_zero, List.getElem?_cons_succ] at z0 z1 z2 z3 z4
    go_upto_region 12 with fail
    clear z0 z1 z2 z3 z4 y0 y1 y2 y3 y4
    replace hR := hR.set 2 (.string dd)
    simp only [List.setIfInBounds_toArray, List.set_cons_zero, List.set_cons_succ] at hR
    replace hbel := hbel.setCell (p := ⟨N, 2, none⟩) (by omega) (.string dd)
    generalize World.setCell wy _ _ = wr at hR hbel ⊢
    clear hdd
    have HJ := Lib.hid (join5 hR (by omega) z hzz)
    clear hR hzz
    go_wp2_with fail
    refine wp_label ?_
    go_wp2_with fail
    refine HJ.out.mono ?_
    rintro e wz ⟨rfl, hbz⟩
    replace hbel := hbel.trans (hbz.mono hbel.size)
    clear hbz HJ
    go_wp2_with fail
    repeat rw [Exit.twoX_ret]
    go_ret
    exact ⟨rfl, hbel⟩
  · intro _
    go_wp2_with fail
    refine (HS1.out _).mono ?_
    rintro e w1 ⟨rfl, hbel⟩
    go_wp2_with fail
    refine (HS2.out _).mono ?_
    rintro e w2 ⟨rfl, hb2⟩
    replace hbel := hbel.trans (hb2.mono hbel.size)
    clear hb2
    have hle : w.heap.size ≤ w2.heap.size := hbel.size
    have hP := (Blk.new w2 #[.string b0, .string b1, .string b2, .string b3, .string b4] 109).alloc (.cells #[.string c0, .string c1, .string c2, .string c3, .string c4] 109)
    have hR := Blk.new (w2.alloc (.cells #[.string b0, .string b1, .string b2, .string b3, .string b4] 109)) #[.string c0, .string c1, .string c2, .string c3, .string c4] 109
    rw [show (w2.alloc (.cells #[.string b0, .string b1, .string b2, .string b3, .string b4] 109)).heap.size = w2.heap.size + 1 by simp] at hR
    replace hbel := (hbel.alloc hle (.cells #[.string b0, .string b1, .string b2, .string b3, .string b4] 109)).alloc (by simp; omega) (.cells #[.string c0, .string c1, .string c2, .string c3, .string c4] 109)
    go_upto_region 2 with fail
    generalize w2.heap.size = N at hle hP hR ⊢
    generalize World.alloc (World.alloc w2 _) _ = wr at hP hR hbel ⊢
    have z0 := hR.cell 0
    have z1 := hR.cell 1
    have z2 := hR.cell 2
    have z3 := hR.cell 3
    have z4 := hR.cell 4
    have y0 := hR.frozen 0
    have y1 := hR.frozen 1
    have y2 := hR.frozen 2
    have y3 := hR.frozen 3
    have y4 := hR.frozen 4
    simp only [List.getElem?_toArray, List.getElem?_cons_zero, List.getElem?_cons_succ] at z0 z1 z2 z3 z4
    have p0 := hP.cell 0
    have p1 := hP.cell 1
    have p2 := hP.cell 2
    have p3 := hP.cell 3
    have p4 := hP.cell 4
    have v0 := hP.frozen 0
    have v1 := hP.frozen 1
    have v2 := hP.frozen 2
    have v3 := hP.frozen 3
    have v4 := hP.frozen 4
    simp only [List.getElem?_toArray, List.getElem?_cons_zero, List.getElem?_cons_succ] at p0 p1 p2 p3 p4
    have HC0 := HC.out
    have HB0 := HB.out
    by_cases k0 : R.s = []
    rotate_left
    · rw [decide_eq_false k0] at q0
      go_wp2_with fail
      refine wp_goto ?_
      refine Or.inl ⟨rfl, N + 1, c0, c1, c2, c3, c4, ex_u10 _ _ (by kernel_rfl) _ ⟨hR, hbel, by omega, by have := HZ2.out; omega, ?_⟩⟩
      rw [HZ.out, HC0.1, HC0.2.1, HC0.2.2.1, HC0.2.2.2.1, HC0.2.2.2.2]
      unfold resolveL
      rw [if_pos k0]
    rw [decide_eq_true k0] at q0
    by_cases k1 : R.a = []
    rotate_left
    · rw [decide_eq_false k1] at q1
      go_wp2_with fail
      refine wp_goto ?_
      refine Or.inl ⟨rfl, N + 1, b0, c1, c2, c3, c4, ex_u10 _ _ (by kernel_rfl) _ ⟨hR.set 0 (.string b0), hbel.setCell (p := ⟨N + 1, 0, none⟩) (show w.heap.size ≤ N + 1 by omega) (.string b0), by omega, by have := HZ2.out; have := HZ1.out; omega, ?_⟩⟩
      rw [HZ.out, HB0.1, HC0.2.1, HC0.2.2.1, HC0.2.2.2.1, HC0.2.2.2.2]
      unfold resolveL
      rw [if_neg (fun e => e k0), if_pos k1]
    rw [decide_eq_true k1] at q1
    by_cases k2 : R.p = []
    · rw [decide_eq_true k2] at q2
      have hc3 := HC0.2.2.2.1
      have hb3 := HB0.2.2.2.1
      obtain ⟨q, hq⟩ : ∃ q : ByteArray, q = if c3.data.toList = [] then b3 else c3 := ⟨_, rfl⟩
      have hql : q.data.toList = if R.q = [] then P.q else R.q := by
        rw [hq, ← hc3, ← hb3]
        by_cases h : c3.data.toList = []
        · rw [if_pos h, if_pos h]
        · rw [if_neg h, if_neg h]
      have hqs : q.size ≤ 100000 := by
        rw [hq]
        have := HZ1.out
        have := HZ2.out
        by_cases h : c3.data.toList = []
        · rw [if_pos h]; omega
        · rw [if_neg h]; omega
      have HOR := Lib.hid (fun g w h0 h1 => or_any g c3 b3 w h0 h1)
      rw [← hq] at HOR
      clear hq
      go_wp2_with fail
      have hle1 : w.heap.size ≤ N + 1 := by omega
      have hR3 := ((hR.set 0 (.string b0)).set 1 (.string b1)).set 2 (.string b2)
      simp only [List.setIfInBounds_toArray, List.set_cons_zero, List.set_cons_succ] at hR3
      have hbel3 := ((hbel.setCell (p := ⟨N + 1, 0, none⟩) hle1 (.string b0)).setCell (p := ⟨N + 1, 1, none⟩) hle1 (.string b1)).setCell (p := ⟨N + 1, 2, none⟩) hle1 (.string b2)
      have hs3 : (((wr.setCell ⟨N + 1, 0, none⟩ (.string b0)).setCell ⟨N + 1, 1, none⟩ (.string b1)).setCell ⟨N + 1, 2, none⟩ (.string b2)).heap.size = wr.heap.size := by simp
      generalize World.setCell (World.setCell (World.setCell wr _ _) _ _) _ _ = w5 at hR3 hbel3 hs3 ⊢
      have hx := Blk.new w5 #[.string c3, .string b3] 9
      rw [hs3] at hx
      have x0 := hx.cell 0
      have x1 := hx.cell 1
      simp only [List.getElem?_toArray, List.getElem?_cons_zero, List.getElem?_cons_succ] at x0 x1
      replace hR3 := hR3.alloc (.cells #[.string c3, .string b3] 9)
      replace hbel3 := hbel3.alloc (hbel3.size) (.cells #[.string c3, .string b3] 9)
      refine (HOR.out _ _ x0 x1).mono ?_
      clear x0 x1 hx
      generalize w5.alloc _ = w6 at hR3 hbel3 ⊢
      rintro e w7 ⟨rfl, hw⟩
      obtain rfl := hw.symm
      clear hw
      clear z0 z1 z2 z3 z4 y0 y1 y2 y3 y4 v0 v1 v2 v3 v4 p0 p1 p2 p3 p4
      have z0 := hR3.cell 0
      have z1 := hR3.cell 1
      have z2 := hR3.cell 2
      have z3 := hR3.cell 3
      have z4 := hR3.cell 4
      have y0 := hR3.frozen 0
      have y1 := hR3.frozen 1
      have y2 := hR3.frozen 2
      have y3 := hR3.frozen 3
      have y4 := hR3.frozen 4
      simp only [List.getElem?_toArray, List.getElem?_cons_zero, List.getElem?_cons_succ] at z0 z1 z2 z3 z4
      go_wp2_with fail
      refine wp_goto ?_
      refine Or.inr ⟨rfl, N + 1, b0, b1, b2, q, c4, ex_u10 _ _ (by kernel_rfl) _ ⟨hR3.set 3 (.string q), hbel3.setCell (p := ⟨N + 1, 3, none⟩) hle1 (.string q), hle1, by have := HZ2.out; have := HZ1.out; omega, ?_⟩⟩
      rw [HZ.out, HB0.1, HB0.2.1, HB0.2.2.1, hql, HC0.2.2.2.2]
      unfold resolveL
      rw [if_neg (fun e => e k0), if_neg (fun e => e k1), if_pos k2]
    rw [decide_eq_false k2] at q2
    obtain ⟨c, hc⟩ : ∃ c, R.p.head? = some c := by
      cases h : R.p with
      | nil => exact absurd h k2
      | cons c r => exact ⟨c, rfl⟩
    have hcz : 0 < c2.size := by
      rw [Lib.size_eq, HC0.2.2.1]
      cases h : R.p with
      | nil => exact absurd h k2
      | cons c r => simp
    have hczi : (0 : Int) < c2.size := by omega
    have hgk : c2[0]'hcz = c := by
      have hl := HC0.2.2.1
      have e : c2[0]'hcz = c2.data.toList[0]'(by rw [← Lib.size_eq]; exact hcz) := rfl
      rw [e]
      have h2 : c2.data.toList[0]? = some c := by rw [hl, ← List.head?_eq_getElem?]; exact hc
      rw [List.getElem?_eq_getElem (by rw [← Lib.size_eq]; exact hcz)] at h2
      exact Option.some.inj h2
    have hcb : (((c.toNat : Nat) : Int) == 47) = (c == 47) := u8_beq c 47
    have hle1 : w.heap.size ≤ N + 1 := by omega
    by_cases hc47 : c = 47
    · rw [beq_iff_eq.2 hc47] at hcb
      have HC47 := Lib.hid hc47
      clear hc47
      go_wp2_with fail
      refine wp_label ?_
      replace hR := (hR.set 0 (.string b0)).set 1 (.string b1)
      simp only [List.setIfInBounds_toArray, List.set_cons_zero, List.set_cons_succ] at hR
      replace hbel := (hbel.setCell (p := ⟨N + 1, 0, none⟩) hle1 (.string b0)).setCell (p := ⟨N + 1, 1, none⟩) hle1 (.string b1)
      generalize World.setCell (World.setCell wr _ _) _ _ = w5 at hR hbel ⊢
      have hzz : z.data.toList = b0.data.toList ++ b1.data.toList ++ dotL c2.data.toList ++ c3.data.toList ++ c4.data.toList := by
        rw [HZ.out, HB0.1, HB0.2.1, HC0.2.2.1, HC0.2.2.2.1, HC0.2.2.2.2]
        unfold resolveL
        rw [if_neg (fun e => e k0), if_neg (fun e => e k1), if_neg k2, if_pos (by rw [hc, HC47.out])]
      have hsz : b0.size + b1.size + c2.size + c3.size + c4.size ≤ 500000 := by have := HZ2.out; have := HZ1.out; omega
      clear z0 z1 z2 z3 z4 y0 y1 y2 y3 y4 v0 v1 v2 v3 v4 p0 p1 p2 p3 p4
      clear hcz hczi hgk hcb
      obtain ⟨dd, hdd⟩ := exists_ba (dotL c2.data.toList)
      have hddl : dd.size ≤ c2.size := by
        rw [Lib.size_eq dd, hdd, Lib.size_eq c2]; exact dot_len _
      have HDT := Lib.hid (fun w => dotless_any c2 (by omega) w)
      rw [show (⟨(dotL c2.data.toList).toArray⟩ : ByteArray) = dd from ba_extK hdd.symm] at HDT
      rw [← hdd] at hzz
      have z0 := hR.cell 0
      have z1 := hR.cell 1
      have z2 := hR.cell 2
      have z3 := hR.cell 3
      have z4 := hR.cell 4
      have y0 := hR.frozen 0
      have y1 := hR.frozen 1
      have y2 := hR.frozen 2
      have y3 := hR.frozen 3
      have y4 := hR.frozen 4
      simp only [List.getElem?_toArray, List.getElem?_cons_zero, List.getElem?_cons_succ] at z0 z1 z2 z3 z4
      go_wp2_with fail
      refine (HDT.out _).mono ?_
      rintro e wy ⟨rfl, hby⟩
      clear z0 z1 z2 z3 z4 y0 y1 y2 y3 y4
      replace hR : Blk wy (N + 1) _ _ := (hby.block _ hR.lt).trans hR
      replace hbel := hbel.trans (hby.mono hbel.size)
      clear hby HDT
      have z0 := hR.cell 0
      have z1 := hR.cell 1
      have z2 := hR.cell 2
      have z3 := hR.cell 3
      have z4 := hR.cell 4
      have y0 := hR.frozen 0
      have y1 := hR.frozen 1
      have y2 := hR.frozen 2
      have y3 := hR.frozen 3
      have y4 := hR.frozen 4
      simp only [List.getElem?_toArray, List.getElem?_cons_zero, List.getElem?_cons_succ] at z0 z1 z2 z3 z4
      go_upto_region 12 with fail
      clear z0 z1 z2 z3 z4 y0 y1 y2 y3 y4
      replace hR := hR.set 2 (.string dd)
      simp only [List.setIfInBounds_toArray, List.set_cons_zero, List.set_cons_succ] at hR
      replace hbel := hbel.setCell (p := ⟨(N + 1), 2, none⟩) (by omega) (.string dd)
      generalize World.setCell wy _ _ = w9 at hR hbel ⊢
      clear hdd
      have HJ := Lib.hid (join5 hR (by omega) z hzz)
      clear hR hzz
      go_wp2_with fail
      refine wp_label ?_
      go_wp2_with fail
      refine HJ.out.mono ?_
      rintro e wz ⟨rfl, hbz⟩
      replace hbel := hbel.trans (hbz.mono hbel.size)
      clear hbz HJ
      go_wp2_with fail
      repeat rw [Exit.twoX_ret]
      go_ret
      exact ⟨rfl, hbel⟩
    rw [beq_eq_false_iff_ne.2 hc47] at hcb
    have HC47 := Lib.hid hc47
    clear hc47
    go_upto_region 10 with fail
    replace hR := (hR.set 0 (.string b0)).set 1 (.string b1)
    simp only [List.setIfInBounds_toArray, List.set_cons_zero, List.set_cons_succ] at hR
    replace hbel := (hbel.setCell (p := ⟨N + 1, 0, none⟩) hle1 (.string b0)).setCell (p := ⟨N + 1, 1, none⟩) hle1 (.string b1)
    replace hP := (hP.other ⟨N + 1, 0, none⟩ (.string b0) (show N ≠ N + 1 by omega)).other ⟨N + 1, 1, none⟩ (.string b1) (show N ≠ N + 1 by omega)
    clear z0 z1 z2 z3 z4 y0 y1 y2 y3 y4 v0 v1 v2 v3 v4 p0 p1 p2 p3 p4
    generalize World.setCell (World.setCell wr _ _) _ _ = w5 at hR hbel hP ⊢
    obtain ⟨fd, hfd⟩ := exists_ba (folderL P)
    have hfds : fd.size ≤ 100001 := by
      rw [Lib.size_eq, hfd]
      unfold folderL
      have := HZ1.out
      have h3 := (dir_len P.p).1
      rw [← HB0.2.2.1, ← Lib.size_eq] at h3
      split
      · simp
      · rw [← HB0.2.2.1]; omega
    have HFO := Lib.hid (fun w => ifolder_any b0 b1 b2 b3 b4 (by have := HZ1.out; omega) fd (by rw [hfd, HB0.2.1, HB0.2.2.1]; rfl) w)
    obtain ⟨e2, he2⟩ : ∃ e2 : ByteArray, fd ++ c2 = e2 := ⟨_, rfl⟩
    have he2l : e2.data.toList = folderL P ++ R.p := by rw [← he2, ← hfd, ← HC0.2.2.1]; simp
    have he2s : e2.size = fd.size + c2.size := by rw [← he2, ByteArray.size_append]
    have hadd : fd.size + c2.size ≤ 9223372036854775807 := by have := HZ2.out; omega
    have z0 := hR.cell 0
    have z1 := hR.cell 1
    have z2 := hR.cell 2
    have z3 := hR.cell 3
    have z4 := hR.cell 4
    have y0 := hR.frozen 0
    have y1 := hR.frozen 1
    have y2 := hR.frozen 2
    have y3 := hR.frozen 3
    have y4 := hR.frozen 4
    simp only [List.getElem?_toArray, List.getElem?_cons_zero, List.getElem?_cons_succ] at z0 z1 z2 z3 z4
    have p0 := hP.cell 0
    have p1 := hP.cell 1
    have p2 := hP.cell 2
    have p3 := hP.cell 3
    have p4 := hP.cell 4
    have v0 := hP.frozen 0
    have v1 := hP.frozen 1
    have v2 := hP.frozen 2
    have v3 := hP.frozen 3
    have v4 := hP.frozen 4
    simp only [List.getElem?_toArray, List.getElem?_cons_zero, List.getElem?_cons_succ] at p0 p1 p2 p3 p4
    have HRD := Lib.hid hR
    have HBD := Lib.hid hbel
    clear hR hbel hP
    clear hcz hczi hgk hcb
    have hzz : z.data.toList = b0.data.toList ++ b1.data.toList ++ dotL e2.data.toList ++ c3.data.toList ++ c4.data.toList := by
      rw [HZ.out, HB0.1, HB0.2.1, he2l, HC0.2.2.2.1, HC0.2.2.2.2]
      unfold resolveL
      rw [if_neg (fun e => e k0), if_neg (fun e => e k1), if_neg k2, if_neg (by rw [hc]; exact fun e => HC47.out (Option.some.inj e))]
    have hsz : b0.size + b1.size + e2.size + c3.size + c4.size ≤ 500000 := by have := HZ2.out; have := HZ1.out; omega
    obtain ⟨dd, hdd⟩ := exists_ba (dotL e2.data.toList)
    have hddl : dd.size ≤ e2.size := by
      rw [Lib.size_eq dd, hdd, Lib.size_eq e2]; exact dot_len _
    have HDT := Lib.hid (fun w => dotless_any e2 (by omega) w)
    rw [show (⟨(dotL e2.data.toList).toArray⟩ : ByteArray) = dd from ba_extK hdd.symm] at HDT
    rw [← hdd] at hzz
    go_region_with (go_at_call 99; refine (HFO.out _).mono ?_; rintro e w8 ⟨rfl, hb8⟩; obtain ⟨hR8, z0, z1, z2, z3, z4, y0, y1, y2, y3, y4⟩ := blk5_open (g := N + 1) (show Blk w8 (N + 1) #[.string b0, .string b1, .string c2, .string c3, .string c4] 109 from (hb8.block _ HRD.out.lt).trans HRD.out))
    all_goals have hR := hR8.set 2 (.string e2)
    all_goals simp only [List.setIfInBounds_toArray, List.set_cons_zero, List.set_cons_succ] at hR
    all_goals have hbel := ((below_drewK HBD.out).trans (hb8.mono HBD.out.size)).setCell (p := ⟨N + 1, 2, none⟩) hle1 (.string e2)
    all_goals generalize World.setCell w8 _ _ = w9 at hR hbel ⊢
    all_goals clear z0 z1 z2 z3 z4 y0 y1 y2 y3 y4 v0 v1 v2 v3 v4 p0 p1 p2 p3 p4 hR8 hb8 he2
    all_goals go_wp2_with fail
    all_goals refine wp_label ?_
    all_goals have z0 := hR.cell 0
    all_goals have z1 := hR.cell 1
    all_goals have z2 := hR.cell 2
    all_goals have z3 := hR.cell 3
    all_goals have z4 := hR.cell 4
    all_goals have y0 := hR.frozen 0
    all_goals have y1 := hR.frozen 1
    all_goals have y2 := hR.frozen 2
    all_goals have y3 := hR.frozen 3
    all_goals have y4 := hR.frozen 4
    all_goals simp only [List.getElem?_toArray, List.getElem?_cons_zero, List.getElem?_cons_succ] at z0 z1 z2 z3 z4
    all_goals go_wp2_with fail
    all_goals refine (HDT.out _).mono ?_
    all_goals rintro e wy ⟨rfl, hby⟩
    all_goals clear z0 z1 z2 z3 z4 y0 y1 y2 y3 y4
    all_goals replace hR : Blk wy (N + 1) _ _ := (hby.block _ hR.lt).trans hR
    all_goals replace hbel := hbel.trans (hby.mono hbel.size)
    all_goals clear hby HDT
    all_goals have z0 := hR.cell 0
    all_goals have z1 := hR.cell 1
    all_goals have z2 := hR.cell 2
    all_goals have z3 := hR.cell 3
    all_goals have z4 := hR.cell 4
    all_goals have y0 := hR.frozen 0
    all_goals have y1 := hR.frozen 1
    all_goals have y2 := hR.frozen 2
    all_goals have y3 := hR.frozen 3
    all_goals have y4 := hR.frozen 4
    all_goals simp only [List.getElem?_toArray, List.getElem?_cons_zero, List.getElem?_cons_succ] at z0 z1 z2 z3 z4
    all_goals go_upto_region 12 with fail
    all_goals clear z0 z1 z2 z3 z4 y0 y1 y2 y3 y4
    all_goals replace hR := hR.set 2 (.string dd)
    all_goals simp only [List.setIfInBounds_toArray, List.set_cons_zero, List.set_cons_succ] at hR
    all_goals replace hbel := hbel.setCell (p := ⟨N + 1, 2, none⟩) (by omega) (.string dd)
    all_goals generalize World.setCell wy _ _ = wq at hR hbel ⊢
    all_goals clear hdd
    all_goals have HJ := Lib.hid (join5 hR (by omega) z hzz)
    all_goals clear hR hzz
    all_goals go_wp2_with fail
    all_goals refine wp_label ?_
    all_goals go_wp2_with fail
    all_goals refine HJ.out.mono ?_
    all_goals rintro e wz ⟨rfl, hbz⟩
    all_goals replace hbel := hbel.trans (hbz.mono hbel.size)
    all_goals clear hbz HJ
    all_goals go_wp2_with fail
    all_goals repeat rw [Exit.twoX_ret]
    all_goals go_ret
    all_goals exact ⟨rfl, hbel⟩
end Go.Proofs.YtefkppeicmipbaaGreatDoor
