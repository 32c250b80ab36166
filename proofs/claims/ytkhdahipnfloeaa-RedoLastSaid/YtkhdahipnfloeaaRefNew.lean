/- triadref2's disk: New. -/
import Derived.Test.YtkhdahipnfloeaaRefWrite
import Derived.Deep.RegionLaw
namespace Go.Proofs.Ytkhdahipnfloeaa
open Go.RowKit
set_option maxRecDepth 100000

/-- d.S = append(d.S, make([]byte, 512)) -/
theorem step_append_sl {ops : Array Oper} {o : Oper} {a : Act} {w : World} {K : Act → World → Prop} {Q : Exit → Act → World → Prop} {E : Prop} (hgd : o.guard = none) (s x : Operand)
    (ho : o.op = .call { callee := .builtin .append, args := #[s, x], argTypes := #[40, 40] })
    (v : Value) (n : Nat) (xs : List Value) (hs : a.eval s = v) (hown : w.ownsRow 0 41 1 v n xs)
    (g0 : Nat) (hx : a.eval x = .slice (some ⟨g0, 0, none⟩) 1 1) (u : Value) (hg : Blk w g0 #[u] 41) (hu : u.oneCell' = true) (hl : n ≤ 1073741824)
    (h : ∀ g cap w', w'.ownsRow 0 41 1 (.slice (some ⟨g, 0, none⟩) (n + 1) cap) (n + 1) (xs ++ [u]) → w.grownBy w' v.ownBlock → (v.ownBlock = some g ∨ g = w.heap.size) → K (a.put o.dst (.slice (some ⟨g, 0, none⟩) (n + 1) cap)) w') :
    if Region.wanted o (yielded ops a.tmps) = true then Oper.wp Try.prog o a w K Q else E := by
  obtain ⟨i0, hi, hz0, hz1, hz2⟩ := info_parts Try.infoSl
  refine step_append_lies w hgd s x _ ho 0 41 i0 _ 1 24 Try.underlying40 hi hz0 hz1 hz2 rfl (by decide) v n xs hs hown ⟨g0, 0, none⟩ 1 1 [u] hx rfl ?_ ?_ (by decide) (by simp [maxLen]; omega) (by omega) (Nat.zero_le _) _ rfl ?_
  · intro j z hj
    rw [show (⟨g0, 0, none⟩ : Addr).add j = ⟨g0, j, none⟩ from by unfold Addr.add; split <;> simp_all, hg.cell]
    simpa using hj
  · intro z hz
    simp at hz
    subst hz; exact hu
  · intro g cap w' h1 h2 h3 _
    exact h g cap w' h1 h2 h3

theorem pad_empty : pad ByteArray.empty = zeros 512 := rfl

theorem RkAt.grewS {w1 w2 : World} {Q : Nat → Prop} {x : Nat} {sS : Value} {vS : List Value} {k : Nat} (h : RkAt w1 Q x sS (.slice none 0 0) vS [] (Dsk.new k)) (v : Value)
    (hv : Con w1 (fun g => Q g ∧ ¬ Ctl x sS (.slice none 0 0) g) v (zeros 512)) (g cap H : Nat)
    (h1 : w2.ownsRow 0 41 1 (.slice (some ⟨g, 0, none⟩) (k + 1) cap) (k + 1) (vS ++ [v])) (h2 : Moved (fun j => sS.ownBlock = some j) w1 w2) (h3 : sS.ownBlock = some g ∨ g = H) (hH : w1.heap.size ≤ H) (hQH : Q H) (hm3 : k + 1 ≤ 3000) :
    RkAt (w2.setCell ⟨x, 0, none⟩ (.slice (some ⟨g, 0, none⟩) (k + 1) cap)) Q x (.slice (some ⟨g, 0, none⟩) (k + 1) cap) (.slice none 0 0) (vS ++ [v]) [] (Dsk.new (k + 1)) ∧
    Moved Q w1 (w2.setCell ⟨x, 0, none⟩ (.slice (some ⟨g, 0, none⟩) (k + 1) cap)) := by
  have hlt := h.lts
  have hkl : (Dsk.new k).kept.length = k := by simp [Dsk.new]
  have hkl1 : (Dsk.new (k + 1)).kept.length = k + 1 := by simp [Dsk.new]
  have hm : Moved (· = x) w2 (w2.setCell ⟨x, 0, none⟩ (.slice (some ⟨g, 0, none⟩) (k + 1) cap)) := (Moved.refl (· = x) w2).setCell ⟨x, 0, none⟩ _ (.inl rfl)
  have hgx : g ≠ x := by
    rcases h3 with h3 | h3
    · intro e; exact h.n1 (by rw [h3, e])
    · have := hlt x (.inl rfl); omega
  have hc : ∀ j, Ctl x (.slice (some ⟨g, 0, none⟩) (k + 1) cap) (.slice none 0 0) j → Ctl x sS (.slice none 0 0) j ∨ j = H := by
    rintro j (e | e | e)
    · exact .inl (.inl e)
    · simp [Value.ownBlock] at e
      subst e
      rcases h3 with h3 | h3
      · exact .inl (.inr (.inl h3))
      · exact .inr h3
    · simp [Value.ownBlock] at e
  have hcon : ∀ (u : Value) (l : List UInt8), Con w1 (fun g => Q g ∧ ¬ Ctl x sS (.slice none 0 0) g) u l → Con (w2.setCell ⟨x, 0, none⟩ (.slice (some ⟨g, 0, none⟩) (k + 1) cap)) (fun g' => Q g' ∧ ¬ Ctl x (.slice (some ⟨g, 0, none⟩) (k + 1) cap) (.slice none 0 0) g') u l := by
    intro u l hu
    have hu' : Con w1 (fun g' => (Q g' ∧ ¬ Ctl x sS (.slice none 0 0) g') ∧ g' < w1.heap.size) u l := hu.mono (fun _ hg hr => ⟨hr, hg⟩)
    refine ((hu'.moved h2 (fun g' hg' e => hg'.1.2 (.inr (.inl e)))).moved hm (fun g' hg' e => hg'.1.2 (.inl e))).mono (fun g' _ hg' => ⟨hg'.1.1, fun hk => ?_⟩)
    rcases hc g' hk with hk | hk
    · exact hg'.1.2 hk
    · have := hg'.2; omega
  refine ⟨⟨?_, by simpa [Value.ownBlock] using hgx, by simp [Value.ownBlock], fun j _ => by simp [Value.ownBlock], ?_, ?_, rfl, ?_, World.ownsRow_nil _ _ _ _, ?_, fun i hi => by simp [Dsk.new] at hi, by rw [hkl1]; exact hm3, by simp [Dsk.new], ?_⟩, ?_⟩
  · intro j hj
    rcases hc j hj with hj | rfl
    · exact h.q j hj
    · exact hQH
  · exact (h.top.moved h2 h.n1).set 0 _
  · have := h.lenS
    rw [hkl] at this
    simp [hkl1, this]
  · have := owns_moved h1 hm (fun j hj e => by simp [Value.ownBlock] at hj; omega)
    rw [hkl1]
    exact this
  · intro i hi
    have hl := h.lenS
    rw [hkl] at hl
    have hi' : i < k + 1 := by rw [hkl1] at hi; exact hi
    have e0 : (Dsk.new (k + 1)).kept[i] = ByteArray.empty := by simp [Dsk.new]
    rw [e0, pad_empty]
    by_cases e : i < k
    · have hi2 : i < (Dsk.new k).kept.length := by rw [hkl]; exact e
      have := hcon _ _ (h.conS i hi2)
      have e1 : (Dsk.new k).kept[i] = ByteArray.empty := by simp [Dsk.new]
      rw [e1, pad_empty] at this
      have hv' : i < vS.length := by rw [hl]; exact e
      simp only [List.getElem_append_left hv']
      exact this
    · obtain rfl : i = k := by omega
      have := hcon _ _ hv
      have e1 : (vS ++ [v])[i]'(by simp [hl]) = v := by
        rw [List.getElem_append_right (by rw [hl]; exact Nat.le_refl _)]; simp [hl]
      simp only [e1]
      exact this
  · refine ⟨fun y hy => ?_, by simp [Dsk.new]⟩
    rw [(List.mem_replicate.1 hy).2]; decide
  · exact (h2.mono (P' := Q) (fun j hj => h.q j (.inr (.inl hj)))).trans hm (by rintro j rfl; exact .inl (h.q _ (.inl rfl)))

theorem new_start (w : World) : RkAt (w.alloc (.cells #[.slice none 0 0, .slice none 0 0, .int .i64 0, .bool false, .int .i64 0] 70)) (fun j => w.heap.size ≤ j) w.heap.size (.slice none 0 0) (.slice none 0 0) [] [] (Dsk.new 0) := by
  refine ⟨?_, by simp [Value.ownBlock], by simp [Value.ownBlock], fun j _ => by simp [Value.ownBlock], Blk.new w _ _, rfl, rfl, World.ownsRow_nil _ _ _ _, World.ownsRow_nil _ _ _ _, fun i hi => by simp [Dsk.new] at hi, fun i hi => by simp [Dsk.new] at hi, by simp [Dsk.new], by simp [Dsk.new], by simp [Dsk.new]⟩
  rintro k (e | e | e)
  · show _ ≤ _; omega
  · simp [Value.ownBlock] at e
  · simp [Value.ownBlock] at e

set_option maxRecDepth 100000 in
set_option maxHeartbeats 4000000 in
theorem rnew_any (x : Int) (w : World) :
    Calls Try.prog 13 #[.int .i64 x] w fun e w' => ∃ r Q, e = .returned (.pointer (some ⟨r, 0, none⟩)) ∧ Rk w' Q r (Dsk.new (sizeOf' x)) ∧ Below w.heap.size w w' ∧ ∀ k, Q k → w.heap.size ≤ k := by
  obtain ⟨n, hn⟩ : ∃ n, n = sizeOf' x := ⟨_, rfl⟩
  have hn1 : (n : Int) = min (max x 1) 3000 := by rw [hn]; unfold sizeOf'; omega
  rw [← hn]
  clear hn
  have hle : n ≤ 3000 := by omega
  have hmk := run_make_bytes 512 512 rfl (by omega)
  have hst := new_start w
  have hb0 : Below w.heap.size w (w.alloc (.cells #[.slice none 0 0, .slice none 0 0, .int .i64 0, .bool false, .int .i64 0] 70)) := (Below.refl _ w).alloc (Nat.le_refl _) _
  obtain h | h | h : x ≤ 1 ∨ 3000 < x ∨ (1 < x ∧ x ≤ 3000) := by omega
  · have ha : (n : Int) ≤ 1 := by omega
    have hb : (1 : Int) ≤ n := by omega
    clear hn1
    go_enter Try.func13, Try.ntmps13
    go_wp2_with fail
    generalize (w.alloc _) = w0 at hst hb0 ⊢
    have HW : Hid (w.heap.size = w.heap.size) := rfl
    generalize hr : w.heap.size = r at hst hb0 HW ⊢
    go_loopw [4] (fun i wr => ∃ (k : Nat) (sS : Value) (vS : List Value), k ≤ n ∧ i = .int .i64 k ∧ RkAt wr (fun j => r ≤ j) r sS (.slice none 0 0) vS [] (Dsk.new k) ∧ Below r w wr) (fun i _ => n - (intOf i).toNat)
    case atStart => exact ⟨0, _, _, Nat.zero_le _, rfl, hst, hb0⟩
    case round =>
      obtain ⟨k, sS, vS, hk, rfl, hA, hB⟩ := hrel
      by_cases hlt : k < n
      · obtain ⟨c0, -, -, -, -, cf⟩ := hA.cells
        have hrl : r < wr.heap.size := hA.top.lt
        have hkl : (Dsk.new k).kept.length = k := by simp [Dsk.new]
        have hown := hA.rowS
        rw [hkl] at hown
        have HR : ∀ o1 o2, ((wr.alloc o1).alloc o2).drew.ownsRow 0 41 1 sS k vS := fun o1 o2 => (hown.alloc o1).alloc o2
        have HT : ∀ o1 o2, Blk ((wr.alloc o1).alloc o2).drew r _ 70 := fun o1 o2 => ((hA.top.alloc o1).alloc o2).drew
        have HB : ∀ o1 cs, Blk ((wr.alloc o1).alloc (.cells cs 41)).drew (wr.heap.size + 1) cs 41 := fun o1 cs => by
          have := (Blk.new (wr.alloc o1) cs 41).drew
          simpa using this
        have c0' : ∀ o, (wr.alloc o).cell? ⟨r, 0, none⟩ = some sS := fun o => (hA.top.alloc o).cell 0
        have c0'' : ∀ o1 o2, ((wr.alloc o1).alloc o2).cell? ⟨r, 0, none⟩ = some sS := fun o1 o2 => ((hA.top.alloc o1).alloc o2).cell 0
        have N1 := hA.n1
        have hk3 : k ≤ 1073741824 := by omega
        have HA := Lib.hid hA
        have HBB := Lib.hid hB
        clear hA hB cf hkl hown hst hb0 HW
        go_wp2
        go_region_law (refine step_append_sl rfl (.tmp 18) (.tmp 20) rfl sS k vS rfl (HR _ _) _ rfl _ (HB _ _) rfl hk3 ?_; intro g cg w2 ho2 hg2 hat2; have ht2 := grown_keep hg2 (HT _ _) N1; have d1 := ht2.cell 0; have d2 := ht2.frozen 0; replace d1 : w2.cell? ⟨r, 0, none⟩ = some sS := d1; clear ht2)
        all_goals (
          have hcon : Con (wr.alloc (.cells (vbs (zeros 512)).toArray 5)) (fun g => r ≤ g ∧ ¬ Ctl r sS (.slice none 0 0) g) (.slice (some ⟨wr.heap.size, 0, none⟩) 512 512) (zeros 512) := by
            refine ⟨Bs.made wr 512 (by decide), zeros_length 512, wr.heap.size, rfl, Nat.le_of_lt hrl, fun hc => by have := HA.out.lts _ hc; omega⟩
          have hA1 := HA.out.grow ((Below.refl _ wr).alloc (Nat.le_refl _) (.cells (vbs (zeros 512)).toArray 5))
          have HZ := hA1.grewS _ hcon g cg _ ho2 ((((Moved.refl _ _).alloc _).drew).grown hg2 (fun q hq => .inl hq)) hat2 (by simp) (by simp; omega) (by omega)
          have hbz : Below r w (w2.setCell ⟨r, 0, none⟩ (.slice (some ⟨g, 0, none⟩) (k + 1) cg)) := by
            refine (HBB.out.alloc (Nat.le_of_lt hrl) (.cells (vbs (zeros 512)).toArray 5)).trans (HZ.2.below (fun j hj => hj) (by simp; omega))
          have HZ1 := Lib.hid HZ.1
          have HZ2 := Lib.hid hbz
          clear HZ hbz hA1 hcon ho2 hg2 hat2 d1 d2 HR HT HB c0' c0'' c0 HA HBB
          go_wp2
          go_roundw
          case rel => exact ⟨k + 1, _, _, by omega, by go_num, HZ1.out, HZ2.out⟩
          case measure => simp [intOf]; omega)
      · obtain rfl : k = n := by omega
        have HA := Lib.hid hA
        have HBB := Lib.hid hB
        clear hst hb0 hA hB HW
        go_wp2
        go_ret
        subst hr
        exact ⟨_, _, rfl, ⟨_, _, _, _, HA.out⟩, HBB.out, fun _ h => h⟩
  · have ha : (n : Int) ≤ 3000 := by omega
    have hb : (3000 : Int) ≤ n := by omega
    clear hn1
    go_enter Try.func13, Try.ntmps13
    go_wp2_with fail
    generalize (w.alloc _) = w0 at hst hb0 ⊢
    have HW : Hid (w.heap.size = w.heap.size) := rfl
    generalize hr : w.heap.size = r at hst hb0 HW ⊢
    go_loopw [4] (fun i wr => ∃ (k : Nat) (sS : Value) (vS : List Value), k ≤ n ∧ i = .int .i64 k ∧ RkAt wr (fun j => r ≤ j) r sS (.slice none 0 0) vS [] (Dsk.new k) ∧ Below r w wr) (fun i _ => n - (intOf i).toNat)
    case atStart => exact ⟨0, _, _, Nat.zero_le _, rfl, hst, hb0⟩
    case round =>
      obtain ⟨k, sS, vS, hk, rfl, hA, hB⟩ := hrel
      by_cases hlt : k < n
      · obtain ⟨c0, -, -, -, -, cf⟩ := hA.cells
        have hrl : r < wr.heap.size := hA.top.lt
        have hkl : (Dsk.new k).kept.length = k := by simp [Dsk.new]
        have hown := hA.rowS
        rw [hkl] at hown
        have HR : ∀ o1 o2, ((wr.alloc o1).alloc o2).drew.ownsRow 0 41 1 sS k vS := fun o1 o2 => (hown.alloc o1).alloc o2
        have HT : ∀ o1 o2, Blk ((wr.alloc o1).alloc o2).drew r _ 70 := fun o1 o2 => ((hA.top.alloc o1).alloc o2).drew
        have HB : ∀ o1 cs, Blk ((wr.alloc o1).alloc (.cells cs 41)).drew (wr.heap.size + 1) cs 41 := fun o1 cs => by
          have := (Blk.new (wr.alloc o1) cs 41).drew
          simpa using this
        have c0' : ∀ o, (wr.alloc o).cell? ⟨r, 0, none⟩ = some sS := fun o => (hA.top.alloc o).cell 0
        have c0'' : ∀ o1 o2, ((wr.alloc o1).alloc o2).cell? ⟨r, 0, none⟩ = some sS := fun o1 o2 => ((hA.top.alloc o1).alloc o2).cell 0
        have N1 := hA.n1
        have hk3 : k ≤ 1073741824 := by omega
        have HA := Lib.hid hA
        have HBB := Lib.hid hB
        clear hA hB cf hkl hown hst hb0 HW
        go_wp2
        go_region_law (refine step_append_sl rfl (.tmp 18) (.tmp 20) rfl sS k vS rfl (HR _ _) _ rfl _ (HB _ _) rfl hk3 ?_; intro g cg w2 ho2 hg2 hat2; have ht2 := grown_keep hg2 (HT _ _) N1; have d1 := ht2.cell 0; have d2 := ht2.frozen 0; replace d1 : w2.cell? ⟨r, 0, none⟩ = some sS := d1; clear ht2)
        all_goals (
          have hcon : Con (wr.alloc (.cells (vbs (zeros 512)).toArray 5)) (fun g => r ≤ g ∧ ¬ Ctl r sS (.slice none 0 0) g) (.slice (some ⟨wr.heap.size, 0, none⟩) 512 512) (zeros 512) := by
            refine ⟨Bs.made wr 512 (by decide), zeros_length 512, wr.heap.size, rfl, Nat.le_of_lt hrl, fun hc => by have := HA.out.lts _ hc; omega⟩
          have hA1 := HA.out.grow ((Below.refl _ wr).alloc (Nat.le_refl _) (.cells (vbs (zeros 512)).toArray 5))
          have HZ := hA1.grewS _ hcon g cg _ ho2 ((((Moved.refl _ _).alloc _).drew).grown hg2 (fun q hq => .inl hq)) hat2 (by simp) (by simp; omega) (by omega)
          have hbz : Below r w (w2.setCell ⟨r, 0, none⟩ (.slice (some ⟨g, 0, none⟩) (k + 1) cg)) := by
            refine (HBB.out.alloc (Nat.le_of_lt hrl) (.cells (vbs (zeros 512)).toArray 5)).trans (HZ.2.below (fun j hj => hj) (by simp; omega))
          have HZ1 := Lib.hid HZ.1
          have HZ2 := Lib.hid hbz
          clear HZ hbz hA1 hcon ho2 hg2 hat2 d1 d2 HR HT HB c0' c0'' c0 HA HBB
          go_wp2
          go_roundw
          case rel => exact ⟨k + 1, _, _, by omega, by go_num, HZ1.out, HZ2.out⟩
          case measure => simp [intOf]; omega)
      · obtain rfl : k = n := by omega
        have HA := Lib.hid hA
        have HBB := Lib.hid hB
        clear hst hb0 hA hB HW
        go_wp2
        go_ret
        subst hr
        exact ⟨_, _, rfl, ⟨_, _, _, _, HA.out⟩, HBB.out, fun _ h => h⟩
  · have ha : (n : Int) ≤ x := by omega
    have hb : x ≤ (n : Int) := by omega
    obtain ⟨h1, h2⟩ := h
    clear hn1
    go_enter Try.func13, Try.ntmps13
    go_wp2_with fail
    generalize (w.alloc _) = w0 at hst hb0 ⊢
    have HW : Hid (w.heap.size = w.heap.size) := rfl
    generalize hr : w.heap.size = r at hst hb0 HW ⊢
    go_loopw [4] (fun i wr => ∃ (k : Nat) (sS : Value) (vS : List Value), k ≤ n ∧ i = .int .i64 k ∧ RkAt wr (fun j => r ≤ j) r sS (.slice none 0 0) vS [] (Dsk.new k) ∧ Below r w wr) (fun i _ => n - (intOf i).toNat)
    case atStart => exact ⟨0, _, _, Nat.zero_le _, rfl, hst, hb0⟩
    case round =>
      obtain ⟨k, sS, vS, hk, rfl, hA, hB⟩ := hrel
      by_cases hlt : k < n
      · obtain ⟨c0, -, -, -, -, cf⟩ := hA.cells
        have hrl : r < wr.heap.size := hA.top.lt
        have hkl : (Dsk.new k).kept.length = k := by simp [Dsk.new]
        have hown := hA.rowS
        rw [hkl] at hown
        have HR : ∀ o1 o2, ((wr.alloc o1).alloc o2).drew.ownsRow 0 41 1 sS k vS := fun o1 o2 => (hown.alloc o1).alloc o2
        have HT : ∀ o1 o2, Blk ((wr.alloc o1).alloc o2).drew r _ 70 := fun o1 o2 => ((hA.top.alloc o1).alloc o2).drew
        have HB : ∀ o1 cs, Blk ((wr.alloc o1).alloc (.cells cs 41)).drew (wr.heap.size + 1) cs 41 := fun o1 cs => by
          have := (Blk.new (wr.alloc o1) cs 41).drew
          simpa using this
        have c0' : ∀ o, (wr.alloc o).cell? ⟨r, 0, none⟩ = some sS := fun o => (hA.top.alloc o).cell 0
        have c0'' : ∀ o1 o2, ((wr.alloc o1).alloc o2).cell? ⟨r, 0, none⟩ = some sS := fun o1 o2 => ((hA.top.alloc o1).alloc o2).cell 0
        have N1 := hA.n1
        have hk3 : k ≤ 1073741824 := by omega
        have HA := Lib.hid hA
        have HBB := Lib.hid hB
        clear hA hB cf hkl hown hst hb0 HW
        go_wp2
        go_region_law (refine step_append_sl rfl (.tmp 18) (.tmp 20) rfl sS k vS rfl (HR _ _) _ rfl _ (HB _ _) rfl hk3 ?_; intro g cg w2 ho2 hg2 hat2; have ht2 := grown_keep hg2 (HT _ _) N1; have d1 := ht2.cell 0; have d2 := ht2.frozen 0; replace d1 : w2.cell? ⟨r, 0, none⟩ = some sS := d1; clear ht2)
        all_goals (
          have hcon : Con (wr.alloc (.cells (vbs (zeros 512)).toArray 5)) (fun g => r ≤ g ∧ ¬ Ctl r sS (.slice none 0 0) g) (.slice (some ⟨wr.heap.size, 0, none⟩) 512 512) (zeros 512) := by
            refine ⟨Bs.made wr 512 (by decide), zeros_length 512, wr.heap.size, rfl, Nat.le_of_lt hrl, fun hc => by have := HA.out.lts _ hc; omega⟩
          have hA1 := HA.out.grow ((Below.refl _ wr).alloc (Nat.le_refl _) (.cells (vbs (zeros 512)).toArray 5))
          have HZ := hA1.grewS _ hcon g cg _ ho2 ((((Moved.refl _ _).alloc _).drew).grown hg2 (fun q hq => .inl hq)) hat2 (by simp) (by simp; omega) (by omega)
          have hbz : Below r w (w2.setCell ⟨r, 0, none⟩ (.slice (some ⟨g, 0, none⟩) (k + 1) cg)) := by
            refine (HBB.out.alloc (Nat.le_of_lt hrl) (.cells (vbs (zeros 512)).toArray 5)).trans (HZ.2.below (fun j hj => hj) (by simp; omega))
          have HZ1 := Lib.hid HZ.1
          have HZ2 := Lib.hid hbz
          clear HZ hbz hA1 hcon ho2 hg2 hat2 d1 d2 HR HT HB c0' c0'' c0 HA HBB
          go_wp2
          go_roundw
          case rel => exact ⟨k + 1, _, _, by omega, by go_num, HZ1.out, HZ2.out⟩
          case measure => simp [intOf]; omega)
      · obtain rfl : k = n := by omega
        have HA := Lib.hid hA
        have HBB := Lib.hid hB
        clear hst hb0 hA hB HW
        go_wp2
        go_ret
        subst hr
        exact ⟨_, _, rfl, ⟨_, _, _, _, HA.out⟩, HBB.out, fun _ h => h⟩
end Go.Proofs.Ytkhdahipnfloeaa
