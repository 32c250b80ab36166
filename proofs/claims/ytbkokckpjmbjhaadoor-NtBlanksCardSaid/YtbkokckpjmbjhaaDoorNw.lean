/- triadref6.Set answers a row of the call's own whose members are members of its argument. -/
import Derived.Test.YtbkokckpjmbjhaaDoorNv
import Derived.Test.YtbkokckpjmbjhaaDoorNx
import Derived.Deep.CutBlock
import Derived.Deep.DeepCutAuto
import Derived.Deep.RegionLaw
namespace Go.Proofs.YtbkokckpjmbjhaaDoor
open Go.RowKit Go.Shelf
set_option maxRecDepth 100000
set_option linter.unusedVariables false
theorem draws9 (w : World) (n : Nat) : Below w.heap.size w (w.drewN n) := ⟨rfl, rfl, rfl, Nat.le_refl _, fun _ _ => rfl⟩
def SetTo (L : List Tri3) (w0 : World) (e : Ending) (w' : World) : Prop := ∃ (R : List Tri3) (so : Option Addr) (cap : Nat), e = .returned (.slice so R.length cap) ∧ R.length ≤ cap ∧ cap ≤ 9223372036854775807 ∧ OwR w' w0.heap.size (.slice so R.length cap) R ∧ (∀ x ∈ R, x ∈ L) ∧ R.length ≤ L.length ∧ Below w0.heap.size w0 w'
def nil3 : Tri3 := (⟨0, ⟨#[]⟩, ⟨#[]⟩, ⟨#[]⟩⟩, ⟨0, ⟨#[]⟩, ⟨#[]⟩, ⟨#[]⟩⟩, ⟨0, ⟨#[]⟩, ⟨#[]⟩, ⟨#[]⟩⟩)
theorem OwR.cells {w : World} {base : Nat} {v : Value} {l : List Tri3} (h : OwR w base v l) (k : Nat) (hk : k < l.length) : ∃ g cap, v = .slice (some ⟨g, 0, none⟩) l.length cap ∧ base ≤ g ∧ g < w.heap.size ∧ ∀ j, j < 12 → w.cell? ⟨g, k * 12 + j, none⟩ = (rcells1 l[k])[j]? := by
  have hlt := h.lt
  obtain ⟨ao, cap, rfl, h1, h2⟩ := h.form
  obtain ⟨g, rfl⟩ : ∃ g, ao = some ⟨g, 0, none⟩ := by
    rcases h.2 with ⟨h3, h4⟩ | ⟨g, cap', cur, h3, -⟩
    · omega
    · simp only [Value.slice.injEq] at h3
      exact ⟨g, h3.1⟩
  refine ⟨g, cap, rfl, (hlt g rfl).1, (hlt g rfl).2, fun j hj => ?_⟩
  rw [World.ownsRow.cellAt h (k * 12 + j) (by omega)]
  exact rcells_at l k hk j hj
theorem OwR.at12 {w : World} {base g m cap : Nat} {R : List Tri3} (h : OwR w base (.slice (some ⟨g, 0, none⟩) m cap) R) (hm : m = R.length) (p : Nat) (hp : p < R.length) (y : Tri3) (hy : y = R[p]) : w.cell? ⟨g, p * 12, none⟩ = some (.int .i64 y.1.k) ∧ w.cell? ⟨g, p * 12 + 1, none⟩ = some (.string y.1.s) ∧ w.cell? ⟨g, p * 12 + 2, none⟩ = some (.string y.1.l) ∧ w.cell? ⟨g, p * 12 + 3, none⟩ = some (.string y.1.t) ∧ w.cell? ⟨g, p * 12 + 4, none⟩ = some (.int .i64 y.2.1.k) ∧ w.cell? ⟨g, p * 12 + 5, none⟩ = some (.string y.2.1.s) ∧ w.cell? ⟨g, p * 12 + 6, none⟩ = some (.string y.2.1.l) ∧ w.cell? ⟨g, p * 12 + 7, none⟩ = some (.string y.2.1.t) ∧ w.cell? ⟨g, p * 12 + 8, none⟩ = some (.int .i64 y.2.2.k) ∧ w.cell? ⟨g, p * 12 + 9, none⟩ = some (.string y.2.2.s) ∧ w.cell? ⟨g, p * 12 + 10, none⟩ = some (.string y.2.2.l) ∧ w.cell? ⟨g, p * 12 + 11, none⟩ = some (.string y.2.2.t) := by
  subst hm
  have hc : ∀ j, j < 12 → w.cell? ⟨g, p * 12 + j, none⟩ = (rcells1 y)[j]? := fun j hj => by
    rw [World.ownsRow.cellAt h (p * 12 + j) (by omega), hy]
    exact rcells_at R p hp j hj
  exact ⟨hc 0 (by decide), hc 1 (by decide), hc 2 (by decide), hc 3 (by decide), hc 4 (by decide), hc 5 (by decide), hc 6 (by decide), hc 7 (by decide), hc 8 (by decide), hc 9 (by decide), hc 10 (by decide), hc 11 (by decide)⟩
theorem OwR.opened {w : World} {base n cap : Nat} {ao : Option Addr} {l : List Tri3} (h : OwR w base (.slice ao n cap) l) (hn : n = l.length) (h0 : 0 < n) : ∃ g cur, ao = some ⟨g, 0, none⟩ ∧ base ≤ g ∧ w.heap[g]? = some (.cells cur 33 (0, 0)) ∧ n ≤ cap ∧ cap ≤ 9223372036854775807 ∧ cur.size = cap * 12 ∧ cur.toList.take (n * 12) = rcells l := by
  subst hn
  obtain ⟨-, h1⟩ := h
  rcases h1 with ⟨h2, -⟩ | ⟨g', cap', cur', h2, hb, hh, h3, h4, h5, h6⟩
  · simp only [Value.slice.injEq] at h2; omega
  · simp only [Value.slice.injEq, true_and] at h2
    obtain ⟨rfl, rfl⟩ := h2
    exact ⟨g', cur', rfl, hb, hh, h3, h4, h5, h6⟩
/-- The row with a place made at q. -/
theorem OwR.placed {w : World} {base m cap g : Nat} {R : List Tri3} (h : OwR w base (.slice (some ⟨g, 0, none⟩) (m + 1) cap) (R ++ [nil3])) (hm : m = R.length) (q : Nat) (hq : q ≤ m) (cur : Array Value) (hg : w.heap[g]? = some (.cells cur 33 (0, 0))) (hc : m + 1 ≤ cap) (hs : cur.size = cap * 12) (ht : cur.toList.take ((m + 1) * 12) = rcells (R ++ [nil3])) (hb : base ≤ g) (w0 : World) (hbel : Below base w0 w) :
    ∃ y, OwR (w.setRow g (cur.toList.take ((q + 1) * 12) ++ rcells (R.drop q) ++ cur.toList.drop ((q + 1) * 12 + (rcells (R.drop q)).length)).toArray) base (.slice (some ⟨g, 0, none⟩) (m + 1) cap) (R.take q ++ y :: R.drop q) ∧ Below base w0 (w.setRow g (cur.toList.take ((q + 1) * 12) ++ rcells (R.drop q) ++ cur.toList.drop ((q + 1) * 12 + (rcells (R.drop q)).length)).toArray) := by
  subst hm
  have hq2 : q < (R ++ [nil3]).length := by rw [List.length_append, List.length_singleton]; omega
  refine ⟨(R ++ [nil3])[q], ?_, ?_⟩
  · have e1 : R.take q ++ (R ++ [nil3])[q] :: R.drop q = (R ++ [nil3]).take (q + 1) ++ R.drop q := by
      rw [List.take_succ_eq_append_getElem hq2, List.take_append_of_le_length hq, List.append_assoc]
      rfl
    rw [e1]
    have hl : (R ++ [nil3]).length = R.length + 1 := by rw [List.length_append, List.length_singleton]
    have h' : OwR w base (.slice (some ⟨g, 0, none⟩) (R ++ [nil3]).length cap) (R ++ [nil3]) := by rw [hl]; exact h
    have h7 := h'.reset (l' := (R ++ [nil3]).take (q + 1) ++ R.drop q) (by simp only [List.length_append, List.length_take, List.length_drop, List.length_singleton]; omega) cur (cur.toList.take ((q + 1) * 12) ++ rcells (R.drop q) ++ cur.toList.drop ((q + 1) * 12 + (rcells (R.drop q)).length)).toArray hg
    rw [hl] at h7
    refine h7 ?_ ?_
    · rw [List.size_toArray, List.length_append, List.length_append, List.length_take, List.length_drop, rcells_len, List.length_drop]
      have h8 : cur.toList.length = cap * 12 := by rw [Array.length_toList]; exact hs
      omega
    · have h9 : (R.length + 1) * 12 ≤ cur.toList.length := by rw [Array.length_toList (xs := cur), hs]; exact Nat.mul_le_mul_right 12 hc
      exact moved_cells R nil3 q hq cur.toList ht h9
  · exact below_setRow hbel hb _
theorem src_cells {w : World} {g m : Nat} {R : List Tri3} {cur : Array Value} (hm : m = R.length) (hg : w.heap[g]? = some (.cells cur 33 (0, 0))) (ht : cur.toList.take ((m + 1) * 12) = rcells (R ++ [nil3])) (q j : Nat) (v : Value) (hj : (rcells (R.drop q))[j]? = some v) : w.cell? ((⟨g, q * 12, none⟩ : Addr).add j) = some v := by
  rw [← rcells_drop, List.getElem?_drop] at hj
  have h1 : (rcells (R ++ [nil3]))[q * 12 + j]? = some v := by
    rw [rcells_append, List.getElem?_append_left (List.getElem?_eq_some_iff.1 hj).1]
    exact hj
  rw [← ht, List.getElem?_take] at h1
  rw [show (⟨g, q * 12, none⟩ : Addr).add j = ⟨g, q * 12 + j, none⟩ from by unfold Addr.add; split <;> simp_all, (show Blk w g cur 33 from hg).cell]
  split at h1
  · rw [← Array.getElem?_toList]; exact h1
  · cases h1
theorem laid_below {w0 w : World} {base g : Nat} (o : Nat) (h : Below base w0 w) (hb : base ≤ g) (v0 v1 v2 v3 v4 v5 v6 v7 v8 v9 v10 v11 : Value) : Below base w0 ((((((((((((w.setCell ⟨g, o, none⟩ v0).setCell ⟨g, o + 1, none⟩ v1).setCell ⟨g, o + 2, none⟩ v2).setCell ⟨g, o + 3, none⟩ v3).setCell ⟨g, o + 4, none⟩ v4).setCell ⟨g, o + 5, none⟩ v5).setCell ⟨g, o + 6, none⟩ v6).setCell ⟨g, o + 7, none⟩ v7).setCell ⟨g, o + 8, none⟩ v8).setCell ⟨g, o + 9, none⟩ v9).setCell ⟨g, o + 10, none⟩ v10).setCell ⟨g, o + 11, none⟩ v11) :=
  ((((((((((((h.setCell (p := ⟨g, o, none⟩) hb v0).setCell (p := ⟨g, o + 1, none⟩) hb v1).setCell (p := ⟨g, o + 2, none⟩) hb v2).setCell (p := ⟨g, o + 3, none⟩) hb v3).setCell (p := ⟨g, o + 4, none⟩) hb v4).setCell (p := ⟨g, o + 5, none⟩) hb v5).setCell (p := ⟨g, o + 6, none⟩) hb v6).setCell (p := ⟨g, o + 7, none⟩) hb v7).setCell (p := ⟨g, o + 8, none⟩) hb v8).setCell (p := ⟨g, o + 9, none⟩) hb v9).setCell (p := ⟨g, o + 10, none⟩) hb v10).setCell (p := ⟨g, o + 11, none⟩) hb v11)
theorem laid_mem {R L : List Tri3} {x : Tri3} (h : ∀ z ∈ R, z ∈ L) (hx : x ∈ L) (q : Nat) : ∀ z ∈ R.take q ++ x :: R.drop q, z ∈ L := by
  intro z hz
  rcases List.mem_append.1 hz with h1 | h1
  · exact h z (List.mem_of_mem_take h1)
  · rcases List.mem_cons.1 h1 with rfl | h1
    · exact hx
    · exact h z (List.mem_of_mem_drop h1)
set_option maxHeartbeats 16000000 in
theorem rset_any {w : World} {v : Value} {L : List Tri3} (h : Trs w v L) (hl : L.length ≤ 100) : Calls Tryd.prog 6 #[v] w (SetTo L w) := by
  obtain ⟨ao, cap0, rfl, -, -, hE⟩ := h
  obtain ⟨n, hn⟩ : ∃ n, n = L.length := ⟨_, rfl⟩
  rw [← hn] at hl ⊢
  have HN := Lib.hid hn
  have HE := Lib.hid hE
  have hni : (n : Int) ≤ 100 := by omega
  clear hn hE
  go_enter Tryd.func6, Tryd.ntmps6
  go_wp2_with fail
  go_loopw [3, 4, 5] (fun s3 s4 _ wr => ∃ (i m : Nat) (R : List Tri3) (so : Option Addr) (cap : Nat), i ≤ n ∧ s4 = .int .i64 i ∧ s3 = .slice so m cap ∧ m = R.length ∧ m ≤ i ∧ m ≤ cap ∧ cap ≤ 9223372036854775807 ∧ OwR wr w.heap.size (.slice so m cap) R ∧ (∀ x ∈ R, x ∈ L) ∧ Below w.heap.size w wr) (fun _ i _ _ => n - (intOf i).toNat)
  case atStart => exact ⟨0, 0, [], none, 0, Nat.zero_le _, rfl, rfl, rfl, Nat.le_refl _, Nat.le_refl _, by omega, OwR.nil _ _, fun x hx => (by cases hx), Below.refl _ _⟩
  case round =>
    obtain ⟨i, m, R, so, cap, hin, rfl, rfl, hm, hmi, hmc, hcap, ho, hmem, hbel⟩ := hrel
    have HM := Lib.hid hm
    have HMEM := Lib.hid hmem
    have HO := Lib.hid ho
    have HB := Lib.hid hbel
    clear hm hmem ho hbel
    by_cases hlt : (i : Int) < n
    rotate_left
    · go_wp2_with fail
      go_ret
      unfold SetTo
      have h1 := HM.out
      subst h1
      exact ⟨R, so, cap, rfl, hmc, hcap, HO.out, HMEM.out, by have := HN.out; omega, HB.out⟩
    have hil : i < L.length := by have := HN.out; omega
    obtain ⟨x, hx⟩ : ∃ x, x = L[i] := ⟨_, rfl⟩
    obtain ⟨b, off, rfl, hbw, hA⟩ := HE.out i hil
    rw [← hx] at hA
    have HX := Lib.hid hx
    have hmi2 : (m : Int) ≤ 100 := by omega
    clear hx
    go_upto_block 2 with fail
    have hA0 := Lib.hid hA
    clear hA
    go_cut [5] from 14 to 29 (fun s5 wx => ∃ q : Nat, q ≤ m ∧ s5 = .int .i64 q ∧ OwR wx w.heap.size (.slice so m cap) R ∧ Below w.heap.size w wx)
    case first =>
      go_wp2_with fail
      go_loopg [5] m (fun g s5 wx => g ≤ m ∧ s5 = .int .i64 g ∧ OwR wx w.heap.size (.slice so m cap) R ∧ Below w.heap.size w wx)
      case atStart => exact ⟨Nat.le_refl _, by go_num, HO.out, HB.out⟩
      case round =>
        obtain ⟨hqm, rfl, ho, hbel⟩ := hrel
        clear HO HB
        have HO := Lib.hid ho
        have HB := Lib.hid hbel
        clear ho hbel
        cases gk with
        | zero =>
          go_wp2_with fail
          go_quiet (fail)
          go_wp2_with fail
          go_meet
          exact ⟨0, Nat.zero_le _, rfl, HO.out.below (draws_t _ _), HB.out.trans ((draws_t _ _).mono HB.out.size)⟩
        | succ p =>
          have hpm : p < R.length := by have := HM.out; omega
          obtain ⟨g, cap', e, hbg, hgs, hcel⟩ := HO.out.cells p hpm
          rw [← HM.out] at e
          simp only [Value.slice.injEq, true_and] at e
          obtain ⟨rfl, rfl⟩ := e
          obtain ⟨y, hy⟩ : ∃ y, y = R[p] := ⟨_, rfl⟩
          have HY := Lib.hid hy
          have HLE := Lib.hid (fun w => rless_any x y w)
          unfold tri at HLE
          have hwp : IntKind.i64.wrap (p : Int) = (p : Int) := by simp only [IntKind.wrap_i64]; omega
          have hp0 : (0 : Int) ≤ (p : Int) := by omega
          have hpmi : (p : Int) < (m : Int) := by omega
          have hptn : ((p : Int)).toNat = p := Int.toNat_natCast p
          clear hy hcel hbg hgs
          go_wp2_with fail
          refine wp_region_any (by kernel_rfl) ?_
          change wpAny _ _ _ _ _ _ _ (World.drew _)
          refine wpAny_of_held (S := fun W => OwR W w.heap.size (.slice (some ⟨g, 0, none⟩) m cap) R ∧ Below w.heap.size w W) _ _ _ _ ?_
          have hS : (fun W => OwR W w.heap.size (.slice (some ⟨g, 0, none⟩) m cap) R ∧ Below w.heap.size w W) (World.drew wr) := ⟨HO.out.below (draws9 _ 1), below_drew HB.out⟩
          refine wpAnyH_take (i := 0) (oi := ⟨some 14, _, _, _, _, _⟩) (v := ?_) rfl (by kernel_rfl) (by kernel_rfl) (by kernel_rfl) (fun _ _ _ h => h) (Or.inl ⟨by first | rfl | (simp [Region.wanted, yielded]; done), ?_⟩) hS ?_
          rotate_left
          · intro wz hSw
            clear hSw
            go_simp
            first | done | with_reducible rfl
          try simp only [Act.put, List.setIfInBounds_toArray, List.set_cons_zero, List.set_cons_succ]
          refine wpAnyH_take (i := 1) (oi := ⟨some 15, _, _, _, _, _⟩) (v := ?_) rfl (by kernel_rfl) (by kernel_rfl) (by kernel_rfl) (fun _ _ _ h => h) (Or.inl ⟨by first | rfl | (simp [Region.wanted, yielded]; done), ?_⟩) hS ?_
          rotate_left
          · intro wz hSw
            clear hSw
            go_simp
            first | done | with_reducible rfl
          try simp only [Act.put, List.setIfInBounds_toArray, List.set_cons_zero, List.set_cons_succ]
          refine wpAnyH_take (i := 2) (oi := ⟨some 16, _, _, _, _, _⟩) (v := ?_) rfl (by kernel_rfl) (by kernel_rfl) (by kernel_rfl) (fun _ _ _ h => h) (Or.inl ⟨by first | rfl | (simp [Region.wanted, yielded]; done), ?_⟩) hS ?_
          rotate_left
          · intro wz hSw
            clear hSw
            go_simp
            first | done | with_reducible rfl
          try simp only [Act.put, List.setIfInBounds_toArray, List.set_cons_zero, List.set_cons_succ]
          refine wpAnyH_take (i := 3) (oi := ⟨some 17, _, _, _, _, _⟩) (v := ?_) rfl (by kernel_rfl) (by kernel_rfl) (by kernel_rfl) (fun _ _ _ h => h) (Or.inl ⟨by first | rfl | (simp [Region.wanted, yielded]; done), ?_⟩) hS ?_
          rotate_left
          · intro wz hSw
            clear hSw
            go_simp
            first | done | with_reducible rfl
          try simp only [Act.put, List.setIfInBounds_toArray, List.set_cons_zero, List.set_cons_succ]
          refine wpAnyH_take (i := 4) (oi := ⟨some 18, _, _, _, _, _⟩) (v := ?_) rfl (by kernel_rfl) (by kernel_rfl) (by kernel_rfl) (fun _ _ _ h => h) (Or.inl ⟨by first | rfl | (simp [Region.wanted, yielded]; done), ?_⟩) hS ?_
          rotate_left
          · intro wz hSw
            clear hSw
            go_simp
            first | done | with_reducible rfl
          try simp only [Act.put, List.setIfInBounds_toArray, List.set_cons_zero, List.set_cons_succ]
          refine wpAnyH_take (i := 5) (oi := ⟨some 19, _, _, _, _, _⟩) (v := ?_) rfl (by kernel_rfl) (by kernel_rfl) (by kernel_rfl) (fun _ _ _ h => h) (Or.inl ⟨by first | rfl | (simp [Region.wanted, yielded]; done), ?_⟩) hS ?_
          rotate_left
          · intro wz hSw
            clear hSw
            go_simp
            first | done | with_reducible rfl
          try simp only [Act.put, List.setIfInBounds_toArray, List.set_cons_zero, List.set_cons_succ]
          refine wpAnyH_take (i := 6) (oi := ⟨some 20, _, _, _, _, _⟩) (v := ?_) rfl (by kernel_rfl) (by kernel_rfl) (by kernel_rfl) (fun _ _ _ h => h) (Or.inl ⟨by first | rfl | (simp [Region.wanted, yielded]; done), ?_⟩) hS ?_
          rotate_left
          · intro wz hSw
            obtain ⟨⟨c0, c1, c2, c3, -⟩, ⟨c4, c5, c6, c7, -⟩, ⟨c8, c9, c10, c11, -⟩⟩ := hA0.out.below hbw (hSw.2)
            rw [Nat.add_assoc (off + i * 12)] at c5 c6 c7 c9 c10 c11
            simp only [Nat.reduceAdd] at c5 c6 c7 c9 c10 c11
            clear hSw
            go_simp
            first | done | with_reducible rfl
          try simp only [Act.put, List.setIfInBounds_toArray, List.set_cons_zero, List.set_cons_succ]
          refine wpAnyH_take (i := 7) (oi := ⟨some 21, _, _, _, _, _⟩) (v := ?_) rfl (by kernel_rfl) (by kernel_rfl) (by kernel_rfl) (fun _ _ _ h => h) (Or.inl ⟨by first | rfl | (simp [Region.wanted, yielded]; done), ?_⟩) hS ?_
          rotate_left
          · intro wz hSw
            clear hSw
            go_simp
            first | done | with_reducible rfl
          try simp only [Act.put, List.setIfInBounds_toArray, List.set_cons_zero, List.set_cons_succ]
          refine wpAnyH_take (i := 8) (oi := ⟨some 22, _, _, _, _, _⟩) (v := ?_) rfl (by kernel_rfl) (by kernel_rfl) (by kernel_rfl) (fun _ _ _ h => h) (Or.inl ⟨by first | rfl | (simp [Region.wanted, yielded]; done), ?_⟩) hS ?_
          rotate_left
          · intro wz hSw
            clear hSw
            go_simp
            first | done | with_reducible rfl
          try simp only [Act.put, List.setIfInBounds_toArray, List.set_cons_zero, List.set_cons_succ]
          refine wpAnyH_take (i := 9) (oi := ⟨some 23, _, _, _, _, _⟩) (v := ?_) rfl (by kernel_rfl) (by kernel_rfl) (by kernel_rfl) (fun _ _ _ h => h) (Or.inl ⟨by first | rfl | (simp [Region.wanted, yielded]; done), ?_⟩) hS ?_
          rotate_left
          · intro wz hSw
            clear hSw
            go_simp
            first | done | with_reducible rfl
          try simp only [Act.put, List.setIfInBounds_toArray, List.set_cons_zero, List.set_cons_succ]
          refine wpAnyH_take (i := 10) (oi := ⟨some 24, _, _, _, _, _⟩) (v := ?_) rfl (by kernel_rfl) (by kernel_rfl) (by kernel_rfl) (fun _ _ _ h => h) (Or.inl ⟨by first | rfl | (simp [Region.wanted, yielded]; done), ?_⟩) hS ?_
          rotate_left
          · intro wz hSw
            clear hSw
            go_simp
            first | done | with_reducible rfl
          try simp only [Act.put, List.setIfInBounds_toArray, List.set_cons_zero, List.set_cons_succ]
          refine wpAnyH_take (i := 11) (oi := ⟨some 25, _, _, _, _, _⟩) (v := ?_) rfl (by kernel_rfl) (by kernel_rfl) (by kernel_rfl) (fun _ _ _ h => h) (Or.inl ⟨by first | rfl | (simp [Region.wanted, yielded]; done), ?_⟩) hS ?_
          rotate_left
          · intro wz hSw
            obtain ⟨d0, d1, d2, d3, d4, d5, d6, d7, d8, d9, d10, d11⟩ := OwR.at12 hSw.1 HM.out p hpm y HY.out
            clear hSw
            go_simp
            first | done | with_reducible rfl
          try simp only [Act.put, List.setIfInBounds_toArray, List.set_cons_zero, List.set_cons_succ]
          refine wpAnyH_ready (rs := [12]) (by kernel_rfl) (by simp) ?_
          refine AllReadyH.cons (o := ⟨some 26, _, _, _, _, _⟩) rfl (fun K hK => ?_) AllReadyH.nil
          go_simp
          refine (HLE.out _).mono ?_
          rintro e wq ⟨t, rfl, hbq⟩
          go_wp2_with fail
          refine hK.out _ _ (⟨hS.1.below hbq, hS.2.trans (hbq.mono hS.2.size)⟩) (fun hS => ?_)
          clear hK K
          try simp only [Act.put, List.setIfInBounds_toArray, List.set_cons_zero, List.set_cons_succ]
          refine wpAnyH_take (i := 13) (oi := ⟨some 27, _, _, _, _, _⟩) (v := ?_) rfl (by kernel_rfl) (by kernel_rfl) (by kernel_rfl) (fun _ _ _ h => h) (Or.inl ⟨by first | rfl | (simp [Region.wanted, yielded]; done), ?_⟩) hS ?_
          rotate_left
          · intro wz hSw
            clear hSw
            go_simp
            first | done | with_reducible rfl
          try simp only [Act.put, List.setIfInBounds_toArray, List.set_cons_zero, List.set_cons_succ]
          refine wpAnyH_done (by kernel_rfl) ?_ _
          cases t with
          | false =>
            go_wp2_with fail
            go_meet
            exact ⟨p + 1, hqm, rfl, hS.1, hS.2⟩
          | true =>
            go_wp2_with fail
            go_roundg p
            case measure => omega
            case rel => exact ⟨by omega, by go_num, hS.1, hS.2⟩
    case rest =>
      clear HO HB
      obtain ⟨q, hqm, rfl, ho, hbel⟩ := hcut
      have HO := Lib.hid ho
      have HB := Lib.hid hbel
      clear ho hbel
      go_upto_region 8 with fail
      go_cut [43] from 30 to 43 (fun s43 wx => ∃ t : Bool, s43 = .bool t ∧ OwR wx w.heap.size (.slice so m cap) R ∧ Below w.heap.size w wx)
      case first =>
        by_cases hq0 : q = 0
        · subst hq0
          go_wp2_with fail
          go_quiet (fail)
          go_wp2_with fail
          go_meet
          exact ⟨false, rfl, HO.out.below (draws9 _ _), HB.out.trans ((draws9 _ _).mono HB.out.size)⟩
        · obtain ⟨p, rfl⟩ : ∃ p, q = p + 1 := ⟨q - 1, by omega⟩
          have hpm : p < R.length := by have := HM.out; omega
          obtain ⟨g, cap', e, -, -, -⟩ := HO.out.cells p hpm
          rw [← HM.out] at e
          simp only [Value.slice.injEq, true_and] at e
          obtain ⟨rfl, rfl⟩ := e
          obtain ⟨y, hy⟩ : ∃ y, y = R[p] := ⟨_, rfl⟩
          obtain ⟨d0, d1, d2, d3, d4, d5, d6, d7, d8, d9, d10, d11⟩ := OwR.at12 HO.out HM.out p hpm y hy
          have heq := fun w => equal_tri y x w
          generalize (eqB9 y.1 x.1 && (eqB9 y.2.1 x.2.1 && eqB9 y.2.2 x.2.2)) = E at heq
          unfold tri at heq
          have hqp : (0 : Int) < ((p + 1 : Nat) : Int) := by omega
          have hqpn : 0 < p + 1 := by omega
          have hq1 : ((p + 1 : Nat) : Int) - 1 = (p : Int) := by omega
          have hq2 : ((p : Int) + 1) - 1 = (p : Int) := by omega
          have hwp : IntKind.i64.wrap (p : Int) = (p : Int) := by simp only [IntKind.wrap_i64]; omega
          have hp0 : (0 : Int) ≤ (p : Int) := by omega
          have hpmi : (p : Int) < (m : Int) := by omega
          obtain ⟨⟨c0, c1, c2, c3, -⟩, ⟨c4, c5, c6, c7, -⟩, ⟨c8, c9, c10, c11, -⟩⟩ := hA0.out.below hbw (HB.out)
          rw [Nat.add_assoc (off + i * 12)] at c5 c6 c7 c9 c10 c11
          simp only [Nat.reduceAdd] at c5 c6 c7 c9 c10 c11
          clear hy hq0
          go_wp2_with fail
          go_quiet (fail)
          go_wp2_with fail
          go_meet
          exact ⟨E, rfl, HO.out.below (draws9 _ _), HB.out.trans ((draws9 _ _).mono HB.out.size)⟩
      case rest =>
        clear HO HB
        obtain ⟨t, rfl, ho, hbel⟩ := hcut
        have HO := Lib.hid ho
        have HB := Lib.hid hbel
        clear ho hbel
        cases t with
        | true =>
          go_wp2_with fail
          go_roundw
          case rel => exact ⟨i + 1, m, R, so, cap, by omega, by go_num, rfl, HM.out, by omega, hmc, hcap, HO.out, HMEM.out, HB.out⟩
          case measure => simp [intOf]; omega
        | false =>
          have HOA := Lib.hid (HO.out.below ((Below.refl _ _).alloc (Nat.le_refl _) (.cells #[.int .i64 0, .string ⟨#[]⟩, .string ⟨#[]⟩, .string ⟨#[]⟩, .int .i64 0, .string ⟨#[]⟩, .string ⟨#[]⟩, .string ⟨#[]⟩, .int .i64 0, .string ⟨#[]⟩, .string ⟨#[]⟩, .string ⟨#[]⟩] 33)))
          have HBX := Lib.hid (show Blk (wc.alloc (.cells #[.int .i64 0, .string ⟨#[]⟩, .string ⟨#[]⟩, .string ⟨#[]⟩, .int .i64 0, .string ⟨#[]⟩, .string ⟨#[]⟩, .string ⟨#[]⟩, .int .i64 0, .string ⟨#[]⟩, .string ⟨#[]⟩, .string ⟨#[]⟩] 33)) wc.heap.size (rcells1 nil3).toArray 33 from Blk.new wc _ _)
          have HSL := Lib.hid (show m + 1 = R.length + 1 by rw [HM.out])
          have HSM := Lib.hid (show m + 1 ≤ 1000000 by omega)
          have hb3 := HB.out.alloc HB.out.size (.cells #[.int .i64 0, .string ⟨#[]⟩, .string ⟨#[]⟩, .string ⟨#[]⟩, .int .i64 0, .string ⟨#[]⟩, .string ⟨#[]⟩, .string ⟨#[]⟩, .int .i64 0, .string ⟨#[]⟩, .string ⟨#[]⟩, .string ⟨#[]⟩] 33)
          have HBASE := Lib.hid hb3.size
          have HB3 := Lib.hid hb3
          clear hb3
          go_wp2_with (at_builtin; refine wpList_append_tr rfl _ _ rfl w.heap.size HBASE.out (.slice so m cap) R rfl HOA.out wc.heap.size rfl nil3 HBX.out (m + 1) HSL.out HSM.out ?_; intro ao5 cap5 w5 ho5 hx5 hy5 hg5 hq5)
          have HB5 := Lib.hid (show Below w.heap.size w w5 from HB3.out.grown hg5 HBASE.out (fun k hk => (HOA.out.lt k hk).1))
          have hlen : m + 1 = (R ++ [nil3]).length := by rw [List.length_append, List.length_singleton, HM.out]
          obtain ⟨g5, cur5, rfl, hbg5, hh5, hx5', -, hsz5, htk5⟩ := ho5.opened hlen (by omega)
          have HPL := Lib.hid (OwR.placed (w := w5.drew) (ho5.below ⟨rfl, rfl, rfl, Nat.le_refl _, fun _ _ => rfl⟩) HM.out q hqm cur5 hh5 hx5 hsz5 htk5 hbg5 w (HB5.out.trans ⟨rfl, rfl, rfl, Nat.le_refl _, fun _ _ => rfl⟩))
          have HH5 := Lib.hid hh5
          have HS5 := Lib.hid hsz5
          have HT5 := Lib.hid htk5
          clear hh5 hsz5 htk5 hg5 hq5 ho5 hlen HOA HBX HSL HSM HB3 HBASE HO HB hx5'
          have hw1 : IntKind.i64.wrap ((q : Int) + 1) = (q : Int) + 1 := by simp only [IntKind.wrap_i64]; omega
          have hq01 : (0 : Int) ≤ (q : Int) + 1 := by omega
          have hq02 : (q : Int) ≤ (m : Int) := by omega
          have hq03 : (q : Int) + 1 ≤ (m : Int) + 1 := by omega
          have hq04 : (q : Int) ≤ (m : Int) + 1 := by omega
          have hq05 : ((q : Int) + 1).toNat = q + 1 := by omega
          have hq06 : ¬ cap5 = q := by omega
          refine wp_region_any (by kernel_rfl) ?_
          change wpAny _ _ _ _ _ _ _ (World.drew _)
          refine wpAny_of_held (S := fun (_ : World) => True) _ _ _ _ ?_
          have hS : (fun (_ : World) => True) (World.drew w5) := trivial
          refine wpAnyH_take (i := 0) (oi := ⟨some 48, _, _, _, _, _⟩) (v := ?_) rfl (by kernel_rfl) (by kernel_rfl) (by kernel_rfl) (fun _ _ _ h => h) (Or.inl ⟨by simp only [Region.wanted], ?_⟩) hS ?_
          rotate_left
          · intro wz hSw
            clear hSw
            go_simp
            first | done | with_reducible rfl
          try simp only [Act.put, List.setIfInBounds_toArray, List.set_cons_zero, List.set_cons_succ]
          refine wpAnyH_take (i := 1) (oi := ⟨some 49, _, _, _, _, _⟩) (v := ?_) rfl (by kernel_rfl) (by kernel_rfl) (by kernel_rfl) (fun _ _ _ h => h) (Or.inl ⟨by simp only [Region.wanted], ?_⟩) hS ?_
          rotate_left
          · intro wz hSw
            clear hSw
            go_simp
            first | done | with_reducible rfl
          try simp only [Act.put, List.setIfInBounds_toArray, List.set_cons_zero, List.set_cons_succ]
          refine wpAnyH_take (i := 2) (oi := ⟨some 50, _, _, _, _, _⟩) (v := ?_) rfl (by kernel_rfl) (by kernel_rfl) (by kernel_rfl) (fun _ _ _ h => h) (Or.inl ⟨by simp only [Region.wanted], ?_⟩) hS ?_
          rotate_left
          · intro wz hSw
            clear hSw
            go_simp
            first | done | with_reducible rfl
          try simp only [Act.put, List.setIfInBounds_toArray, List.set_cons_zero, List.set_cons_succ]
          refine wpAnyH_take (i := 3) (oi := ⟨some 51, _, _, _, _, _⟩) (v := ?_) rfl (by kernel_rfl) (by kernel_rfl) (by kernel_rfl) (fun _ _ _ h => h) (Or.inl ⟨by simp only [Region.wanted], ?_⟩) hS ?_
          rotate_left
          · intro wz hSw
            clear hSw
            go_simp
            first | done | with_reducible rfl
          try simp only [Act.put, List.setIfInBounds_toArray, List.set_cons_zero, List.set_cons_succ]
          refine wpAnyH_take (i := 4) (oi := ⟨some 52, _, _, _, _, _⟩) (v := ?_) rfl (by kernel_rfl) (by kernel_rfl) (by kernel_rfl) (fun _ _ _ h => h) (Or.inl ⟨by simp only [Region.wanted], ?_⟩) hS ?_
          rotate_left
          · intro wz hSw
            clear hSw
            go_simp
            first | done | with_reducible rfl
          try simp only [Act.put, List.setIfInBounds_toArray, List.set_cons_zero, List.set_cons_succ]
          refine wpAnyH_take (i := 5) (oi := ⟨some 53, _, _, _, _, _⟩) (v := ?_) rfl (by kernel_rfl) (by kernel_rfl) (by kernel_rfl) (fun _ _ _ h => h) (Or.inl ⟨by simp only [Region.wanted], ?_⟩) hS ?_
          rotate_left
          · intro wz hSw
            clear hSw
            go_simp
            first | done | with_reducible rfl
          try simp only [Act.put, List.setIfInBounds_toArray, List.set_cons_zero, List.set_cons_succ]
          refine wpAnyH_take (i := 6) (oi := ⟨some 54, _, _, _, _, _⟩) (v := ?_) rfl (by kernel_rfl) (by kernel_rfl) (by kernel_rfl) (fun _ _ _ h => h) (Or.inl ⟨by simp only [Region.wanted], ?_⟩) hS ?_
          rotate_left
          · intro wz hSw
            clear hSw
            go_simp
            first | done | with_reducible rfl
          try simp only [Act.put, List.setIfInBounds_toArray, List.set_cons_zero, List.set_cons_succ]
          refine wpAnyH_ready (rs := [7]) (by kernel_rfl) (by simp) ?_
          refine AllReadyH.cons (o := ⟨some 55, _, _, _, _, _⟩) rfl (fun K hK => ?_) AllReadyH.nil
          refine step_copy_wide rfl _ _ _ _ rfl 33 12 (by kernel_rfl) (by kernel_rfl) _ _ _ _ _ _ (m - q) rfl rfl ?_ g5 ((q + 1) * 12) cur5 33 HH5.out (rcells (R.drop q)) ?_ ?_ ?_ (rcells_one _) ?_
          · show _ = min (m + 1 - q) (m - q)
            omega
          · rw [rcells_len, List.length_drop, ← HM.out]
          · intro h0
            refine ⟨if_neg (by omega), _, rfl, fun j v hj => src_cells HM.out HH5.out HT5.out q j v hj⟩
          · have h1 := HS5.out
            rw [rcells_len, List.length_drop, ← HM.out, h1]
            omega
          refine hK.out _ _ trivial (fun hS => ?_)
          clear hK K
          try simp only [Act.put, List.setIfInBounds_toArray, List.set_cons_zero, List.set_cons_succ]
          refine wpAnyH_done (by kernel_rfl) ?_ _
          obtain ⟨y, hoy, hby⟩ := HPL.out
          generalize w5.drew.setRow g5 _ = w6 at hoy hby ⊢
          clear HPL HH5 HS5 HT5 hS hw1 hq01 hq02 hq03 hq04 hq05 hq06 HB5
          have hq07 : (q : Int) < (m : Int) + 1 := by omega
          have hq08 : ((q : Int)).toNat = q := Int.toNat_natCast q
          have hlen6 : m + 1 = (R.take q ++ y :: R.drop q).length := by have := HM.out; rw [List.length_append, List.length_cons, List.length_take, List.length_drop]; omega
          have HLY := Lib.hid (OwR.laid (m + 1) (q * 12) hlen6 (by rw [List.length_take]; have := HM.out; rw [Nat.min_eq_left (by omega)]) hoy x)
          obtain ⟨⟨c0, c1, c2, c3, -⟩, ⟨c4, c5, c6, c7, -⟩, ⟨c8, c9, c10, c11, -⟩⟩ := hA0.out.below hbw (hby)
          rw [Nat.add_assoc (off + i * 12)] at c5 c6 c7 c9 c10 c11
          simp only [Nat.reduceAdd] at c5 c6 c7 c9 c10 c11
          obtain ⟨d0, d1, d2, d3, d4, d5, d6, d7, d8, d9, d10, d11⟩ := OwR.at12 hoy hlen6 q (by rw [← hlen6]; omega) y (by rw [List.getElem_append_right (by rw [List.length_take]; omega)]; simp only [List.length_take, Nat.min_eq_left (show q ≤ R.length by have := HM.out; omega), Nat.sub_self, List.getElem_cons_zero])
          obtain ⟨g6, cur6, hg6e, -, hh6, -, -, -, -⟩ := hoy.opened hlen6 (by omega)
          obtain rfl : g5 = g6 := by simpa using hg6e
          have HZB := Lib.hid (show Blk w6 g5 cur6 33 from hh6)
          have f0 := HZB.out.frozen (q * 12)
          have f1 := HZB.out.frozen (q * 12 + 1)
          have f2 := HZB.out.frozen (q * 12 + 2)
          have f3 := HZB.out.frozen (q * 12 + 3)
          have f4 := HZB.out.frozen (q * 12 + 4)
          have f5 := HZB.out.frozen (q * 12 + 5)
          have f6 := HZB.out.frozen (q * 12 + 6)
          have f7 := HZB.out.frozen (q * 12 + 7)
          have f8 := HZB.out.frozen (q * 12 + 8)
          have f9 := HZB.out.frozen (q * 12 + 9)
          have f10 := HZB.out.frozen (q * 12 + 10)
          have f11 := HZB.out.frozen (q * 12 + 11)
          clear hoy hlen6 hg6e hh6 HZB
          generalize (if cap5 = q + 1 then (some ⟨g5, 0, none⟩ : Option Addr) else some ⟨g5, (q + 1) * 12, none⟩) = dpx
          have HBL := Lib.hid (laid_below (q * 12) hby hbg5 (.int .i64 x.1.k) (.string x.1.s) (.string x.1.l) (.string x.1.t) (.int .i64 x.2.1.k) (.string x.2.1.s) (.string x.2.1.l) (.string x.2.1.t) (.int .i64 x.2.2.k) (.string x.2.2.s) (.string x.2.2.l) (.string x.2.2.t))
          go_wp2_with fail
          go_roundw
          case rel => exact ⟨i + 1, m + 1, R.take q ++ x :: R.drop q, some ⟨g5, 0, none⟩, cap5, by omega, by go_num, rfl, by have := HM.out; rw [List.length_append, List.length_cons, List.length_take, List.length_drop]; omega, by omega, hx5, hy5, HLY.out, laid_mem HMEM.out (by rw [HX.out]; exact List.getElem_mem _) q, HBL.out⟩
          case measure => simp [intOf]; omega
end Go.Proofs.YtbkokckpjmbjhaaDoor
