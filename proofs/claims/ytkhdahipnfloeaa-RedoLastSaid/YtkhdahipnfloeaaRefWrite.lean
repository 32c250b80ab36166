/- triadref2's disk: Write. -/
import Derived.Test.YtkhdahipnfloeaaRefRead
import Derived.Laws.CopyOwn
import Derived.Deep.AppendLies
namespace Go.Proofs.Ytkhdahipnfloeaa
open Go.RowKit
set_option maxRecDepth 100000

theorem Moved.narrow {P P' : Nat → Prop} {a b : World} (h : Moved P' a b) (hP : ∀ j, P' j → P j ∨ a.heap.size ≤ j) : Moved P a b :=
  ⟨h.os, h.tape, h.output, h.size, fun j hj hn => h.block j hj (fun hp => (hP j hp).elim hn (fun hs => by omega))⟩

theorem RkAt.mono {w : World} {Q Q' : Nat → Prop} {x : Nat} {sS sL : Value} {vS vL : List Value} {s : Dsk} (h : RkAt w Q x sS sL vS vL s) (hQ : ∀ k, Q k → Q' k) : RkAt w Q' x sS sL vS vL s :=
  ⟨fun k hk => hQ k (h.q k hk), h.n1, h.n2, h.n3, h.top, h.lenS, h.lenL, h.rowS, h.rowL, fun i hi => (h.conS i hi).mono (fun _ _ hg => ⟨hQ _ hg.1, hg.2⟩), fun i hi => (h.conL i hi).mono (fun _ _ hg => ⟨hQ _ hg.1, hg.2⟩), h.most, h.ats, h.short⟩
theorem RkAt.grow {w w' : World} {Q : Nat → Prop} {x : Nat} {sS sL : Value} {vS vL : List Value} {s : Dsk} (h : RkAt w Q x sS sL vS vL s) (hb : Below w.heap.size w w') : RkAt w' Q x sS sL vS vL s := by
  have hm : Moved (fun _ => False) w w' := Moved.of_below hb _
  exact ⟨h.q, h.n1, h.n2, h.n3, h.top.moved hm (fun h => h), h.lenS, h.lenL, owns_moved h.rowS hm (fun _ _ h => h), owns_moved h.rowL hm (fun _ _ h => h), fun i hi => (h.conS i hi).moved hm (fun _ _ h => h), fun i hi => (h.conL i hi).moved hm (fun _ _ h => h), h.most, h.ats, h.short⟩

theorem rcells_length : ∀ (l : List (Nat × ByteArray)) (vs : List Value) (_ : vs.length = l.length), (rcells l vs).length = l.length * 2
  | [], [], _ => rfl
  | p :: t, v :: vt, h => by
    have e : rcells (p :: t) (v :: vt) = .int .i64 (p.1 : Int) :: v :: rcells t vt := rfl
    rw [e, List.length_cons, List.length_cons, rcells_length t vt (by simpa using h), List.length_cons]
    omega
theorem rcells_snoc (l : List (Nat × ByteArray)) (vs : List Value) (h : vs.length = l.length) (p : Nat × ByteArray) (v : Value) : rcells (l ++ [p]) (vs ++ [v]) = rcells l vs ++ [.int .i64 (p.1 : Int), v] := by
  unfold rcells
  rw [List.zip_append h.symm]
  simp

theorem RkAt.appended {w1 w2 : World} {Q : Nat → Prop} {x : Nat} {sS sL : Value} {vS vL : List Value} {s : Dsk} (h : RkAt w1 Q x sS sL vS vL s) (k : Nat) (b : ByteArray) (hb : b.size ≤ 512) (hk : k < s.kept.length) (v : Value)
    (hv : Con w1 (fun g => Q g ∧ ¬ Ctl x sS sL g) v (pad b)) (g cap H : Nat)
    (h1 : w2.ownsRow 0 82 2 (.slice (some ⟨g, 0, none⟩) (s.since.length + 1) cap) (s.since.length + 1) (rcells s.since vL ++ [.int .i64 (k : Int), v])) (h2 : Moved (fun j => sL.ownBlock = some j) w1 w2) (h3 : sL.ownBlock = some g ∨ g = H) (hH : w1.heap.size ≤ H) (hQH : Q H) :
    RkAt (w2.setCell ⟨x, 1, none⟩ (.slice (some ⟨g, 0, none⟩) (s.since.length + 1) cap)) Q x sS (.slice (some ⟨g, 0, none⟩) (s.since.length + 1) cap) vS (vL ++ [v]) { s with since := s.since ++ [(k, b)] } ∧
    Moved Q w1 (w2.setCell ⟨x, 1, none⟩ (.slice (some ⟨g, 0, none⟩) (s.since.length + 1) cap)) := by
  have hlt := h.lts
  have hm : Moved (· = x) w2 (w2.setCell ⟨x, 1, none⟩ (.slice (some ⟨g, 0, none⟩) (s.since.length + 1) cap)) := (Moved.refl (· = x) w2).setCell ⟨x, 1, none⟩ _ (.inl rfl)
  have hgx : g ≠ x := by
    rcases h3 with h3 | h3
    · intro e; exact h.n2 (by rw [h3, e])
    · have := hlt x (.inl rfl); omega
  have hgS : ∀ j, sS.ownBlock = some j → g ≠ j := by
    intro j hj e
    rcases h3 with h3 | h3
    · exact h.n3 j hj (by rw [h3, e])
    · have := hlt j (.inr (.inl hj)); omega
  have hc : ∀ j, Ctl x sS (.slice (some ⟨g, 0, none⟩) (s.since.length + 1) cap) j → Ctl x sS sL j ∨ j = H := by
    rintro j (e | e | e)
    · exact .inl (.inl e)
    · exact .inl (.inr (.inl e))
    · simp [Value.ownBlock] at e
      subst e
      rcases h3 with h3 | h3
      · exact .inl (.inr (.inr h3))
      · exact .inr h3
  have hcon : ∀ (u : Value) (l : List UInt8), Con w1 (fun g => Q g ∧ ¬ Ctl x sS sL g) u l → Con (w2.setCell ⟨x, 1, none⟩ (.slice (some ⟨g, 0, none⟩) (s.since.length + 1) cap)) (fun g' => Q g' ∧ ¬ Ctl x sS (.slice (some ⟨g, 0, none⟩) (s.since.length + 1) cap) g') u l := by
    intro u l hu
    have hu' : Con w1 (fun g' => (Q g' ∧ ¬ Ctl x sS sL g') ∧ g' < w1.heap.size) u l := hu.mono (fun _ hg hr => ⟨hr, hg⟩)
    refine ((hu'.moved h2 (fun g' hg' e => hg'.1.2 (.inr (.inr e)))).moved hm (fun g' hg' e => hg'.1.2 (.inl e))).mono (fun g' _ hg' => ⟨hg'.1.1, fun hk => ?_⟩)
    rcases hc g' hk with hk | hk
    · exact hg'.1.2 hk
    · have := hg'.2; omega
  refine ⟨⟨?_, h.n1, by simpa [Value.ownBlock] using hgx, fun j hj e => by simp [Value.ownBlock] at e; exact hgS j hj e, ?_, h.lenS, ?_, ?_, ?_, fun i hi => hcon _ _ (h.conS i hi), ?_, h.most, ?_, ?_⟩, ?_⟩
  · intro j hj
    rcases hc j hj with hj | rfl
    · exact h.q j hj
    · exact hQH
  · exact (h.top.moved h2 h.n2).set 1 _
  · simp [h.lenL]
  · exact owns_moved (owns_moved h.rowS h2 (fun j hj => h.n3 j hj)) hm (fun j hj e => h.n1 (by rw [hj, e]))
  · have := owns_moved h1 hm (fun j hj e => by simp [Value.ownBlock] at hj; omega)
    rw [rcells_snoc _ _ h.lenL]
    simpa using this
  · intro i hi
    have hi' : i < s.since.length + 1 := by simpa using hi
    by_cases e : i < s.since.length
    · have := hcon _ _ (h.conL i e)
      have hv' : i < vL.length := by rw [h.lenL]; exact e
      simp only [List.getElem_append_left hv', List.getElem_append_left e]
      exact this
    · obtain rfl : i = s.since.length := by omega
      have := hcon _ _ hv
      have e1 : (vL ++ [v])[s.since.length]'(by simp [h.lenL]) = v := by
        rw [List.getElem_append_right (by rw [h.lenL]; exact Nat.le_refl _)]; simp
      have e2 : (s.since ++ [(k, b)])[s.since.length]'hi = (k, b) := by
        rw [List.getElem_append_right (Nat.le_refl _)]; simp
      simp only [e1, e2]
      exact this
  · intro p hp
    rcases List.mem_append.1 hp with hp | hp
    · exact h.ats p hp
    · simp at hp; subst hp; exact hk
  · refine ⟨h.short.1, fun p hp => ?_⟩
    rcases List.mem_append.1 hp with hp | hp
    · exact h.short.2 p hp
    · simp at hp; subst hp; exact hb
  · exact (h2.mono (P' := Q) (fun j hj => h.q j (.inr (.inr hj)))).trans hm (by rintro j rfl; exact .inl (h.q _ (.inl rfl)))

theorem splice_zeros (l : List UInt8) : splice (vbs (zeros 512)) 0 (vbs l) = vbs (l ++ zeros (512 - l.length)) := by
  unfold splice
  rw [List.take_zero, List.nil_append, Nat.zero_add, vbs_length, vbs_append]
  congr 1
  unfold vbs
  rw [← List.map_drop, zeros_drop]

/-- copy(x, b), x a new row of a sector's bytes, b a slice of bytes. -/
theorem wpList_copy_sl {w : World} {ops : Array Oper} {rest : List Oper} {o : Oper} {a : Act} {Q : Exit → Act → World → Prop} (hgd : o.guard = none) (d x : Operand)
    (ho : o.op = .call { callee := .builtin .copy, args := #[d, x], argTypes := #[41, 41] }) (g : Nat) (v : Value) (l : List UInt8)
    (hd : a.eval d = .slice (some ⟨g, 0, none⟩) 512 512) (hx : a.eval x = v) (hb : Bs w v l) (hl : l.length ≤ 512) (hg : Blk w g (vbs (zeros 512)).toArray 5)
    (h : ∀ w', Blk w' g (vbs (l ++ zeros (512 - l.length))).toArray 5 → w.grownBy w' (some g) → wpList Try.prog ops Q rest (a.put o.dst (goInt l.length)) w') : wpList Try.prog ops Q (o :: rest) a w := by
  have hsz : (Try.prog.info? 5).map (·.size) = some 1 := by kernel_rfl
  obtain ⟨ao, cap, rfl, h1, h2, h3, h4⟩ := hb
  by_cases h0 : l.length = 0
  · obtain rfl : l = [] := List.eq_nil_of_length_eq_zero h0
    refine wpList_copy_nothing hgd d x _ _ ho 5 Try.underlying41 hsz _ _ _ _ _ _ hd hx (by simp) ?_
    exact h w (by simpa using hg) (World.grownBy.refl _ _)
  · cases ao with
    | none => have := h3 rfl; omega
    | some ad =>
      refine wpList_copy_own hgd d x _ _ ho 5 Try.underlying41 hsz g 0 512 512 ad l.length cap hd hx _ 5 hg (vbs l) (by rw [vbs_length]; exact (Nat.min_eq_left hl).symm) (fun j u hu => h4 ad rfl j u hu) (by rw [vbs_length, List.size_toArray, vbs_length, zeros_length]; omega) (vbs_oneCell l) ?_
      have e := splice_zeros l
      unfold splice at e
      rw [e, vbs_length]
      exact h _ (setRow_heap w g _ _ _ _ hg) ⟨rfl, rfl, rfl, by simp [World.setRow], fun k _ hk => setRow_other w g k _ (fun e => hk (by simp [e]))⟩

/-- d.L = append(d.L, Change{at, x}) -/
theorem wpList_append_ch {w : World} {ops : Array Oper} {rest : List Oper} {o : Oper} {a : Act} {Q : Exit → Act → World → Prop} (hgd : o.guard = none) (s x : Operand)
    (ho : o.op = .call { callee := .builtin .append, args := #[s, x], argTypes := #[68, 68] })
    (v : Value) (n : Nat) (xs : List Value) (hs : a.eval s = v) (hown : w.ownsRow 0 82 2 v n xs)
    (g0 : Nat) (hx : a.eval x = .slice (some ⟨g0, 0, none⟩) 1 1) (u1 u2 : Value) (hg : Blk w g0 #[u1, u2] 82) (hu1 : u1.oneCell' = true) (hu2 : u2.oneCell' = true) (hl : n ≤ 1073741824)
    (h : ∀ g cap w', w'.ownsRow 0 82 2 (.slice (some ⟨g, 0, none⟩) (n + 1) cap) (n + 1) (xs ++ [u1, u2]) → w.grownBy w' v.ownBlock → (v.ownBlock = some g ∨ g = w.heap.size) → wpList Try.prog ops Q rest (a.put o.dst (.slice (some ⟨g, 0, none⟩) (n + 1) cap)) w') :
    wpList Try.prog ops Q (o :: rest) a w := by
  obtain ⟨i0, hi, hz0, hz1, hz2⟩ := info_parts Try.infoCh
  refine wpList_append_lies w hgd s x _ ho 0 82 i0 _ 2 32 Try.underlying68 hi hz0 hz1 hz2 rfl (by decide) v n xs hs hown ⟨g0, 0, none⟩ 1 1 [u1, u2] hx rfl ?_ ?_ (by decide) (by simp [maxLen]; omega) (by omega) (Nat.zero_le _) _ rfl ?_
  · intro j u hj
    rw [show (⟨g0, 0, none⟩ : Addr).add j = ⟨g0, j, none⟩ from by unfold Addr.add; split <;> simp_all, hg.cell]
    simpa using hj
  · intro u hu
    simp at hu
    rcases hu with rfl | rfl
    · exact hu1
    · exact hu2
  · intro g cap w' h1 h2 h3 _
    exact h g cap w' h1 h2 h3

set_option maxHeartbeats 1000000 in
theorem rwrite_any (Q : Nat → Prop) (x : Nat) (s : Dsk) (i : Int) (v : Value) (l : List UInt8) (w : World) (h : Rk w Q x s) (hok : Okay s) (hb : Bs w v l) (ho : s.ops ≤ 4611686018427387904) (hst : s.stop ≤ 9223372036854775807) (hsl : s.since.length ≤ 1073741824) :
    Calls Try.prog 24 #[.pointer (some ⟨x, 0, none⟩), .int .i64 i, v] w fun e w' =>
      e = .returned (.int .i64 (writeErr s i l)) ∧ ∃ Q', Rk w' Q' x (s.write i l) ∧ Moved Q w w' ∧ ∀ k, Q' k → Q k ∨ w.heap.size ≤ k := by
  have h' := h
  obtain ⟨sS, sL, vS, vL, h⟩ := h
  obtain ⟨c0, c1, -, c3, -, -⟩ := h.cells
  obtain ⟨ao, cap, rfl, hc1, hc2, -⟩ := id hb
  have hc2' : cap ≤ 9223372036854775807 := hc2
  clear hc2
  by_cases hf : faultOf s i = 0
  · have hd : s.dead = false := by
      cases hd : s.dead
      · rfl
      · rw [faultOf, hd] at hf; simp at hf
    have hi : 0 ≤ i ∧ i < s.kept.length := by
      rw [faultOf, hd, hok.len] at hf
      simp at hf
      exact hf
    obtain ⟨so, cp, rfl, hcp1, hcp2⟩ := owns_form h.rowS
    have hcp2' : cp ≤ 9223372036854775807 := hcp2
    obtain ⟨k, rfl⟩ : ∃ k : Nat, i = k := ⟨i.toNat, by omega⟩
    have hkn : k < s.kept.length := by omega
    rw [hd] at c3
    by_cases hl : (512 : Int) < l.length
    · obtain ⟨e1, e2⟩ := write_long hf (show 512 < l.length by omega)
      rw [e1, e2]
      obtain ⟨m, hm⟩ : ∃ m, m = s.kept.length := ⟨_, rfl⟩
      rw [← hm] at c0 hkn
      have hkm : (k : Int) < m := by omega
      clear h hf hd hi hb e1 e2 hm hcp2 hcp1 c1 hok
      go_enter Try.func24, Try.ntmps24
      go_wp2
      go_ret
      exact ⟨rfl, Q, h', Moved.refl _ _, fun _ h => .inl h⟩
    · obtain ⟨e1, e2⟩ := write_ok hf (show l.length ≤ 512 by omega)
      rw [Int.toNat_natCast] at e1 e2
      rw [e1, e2]
      have hmk := run_make_bytes 512 512 rfl (by omega)
      obtain ⟨m, hm⟩ : ∃ m, m = s.kept.length := ⟨_, rfl⟩
      rw [← hm] at c0
      have hkm : (k : Int) < m := by omega
      have hl' : l.length ≤ 512 := by omega
      have hnb := Blk.new w (vbs (zeros 512)).toArray 5
      have hal : Below w.heap.size w (w.alloc (.cells (vbs (zeros 512)).toArray 5)) := (Below.refl _ w).alloc (Nat.le_refl _) _
      have hb' := hb.below hal
      have HAL := Lib.hid hal
      have H := Lib.hid h
      have HDD := Lib.hid hd
      clear hf hi e1 e2 hm hcp2 hcp1 c1 hok h' h hal hd
      go_enter Try.func24, Try.ntmps24
      have keyW := fun (w1 : World) (hg1 : (w.alloc (.cells (vbs (zeros 512)).toArray 5)).grownBy w1 (some w.heap.size)) => (H.out.mono (Q' := fun j => Q j ∨ w.heap.size ≤ j) (fun _ hq => .inl hq)).grow (HAL.out.grown hg1 (by simp) (fun q hq => by simp at hq; omega))
      have KW := Lib.hid keyW
      clear keyW
      go_wp2_with (first
        | (with_reducible refine wpList_copy_sl rfl _ _ rfl _ (.slice ao l.length cap) l rfl rfl hb' hl' hnb ?_; intro w1 hb1 hg1; have h1 := Lib.hid (KW.out w1 hg1); have c1 := h1.out.cells.2.1; have hrow := Lib.hid (h1.out.rowL.alloc (.cells #[.int .i64 (k : Int), .slice (some ⟨w.heap.size, 0, none⟩) 512 512] 82)); have hblk := Lib.hid (Blk.new w1 #[.int .i64 (k : Int), .slice (some ⟨w.heap.size, 0, none⟩) 512 512] 82); have htop := Lib.hid (h1.out.top.alloc (.cells #[.int .i64 (k : Int), .slice (some ⟨w.heap.size, 0, none⟩) 512 512] 82)); have hN2 := Lib.hid h1.out.n2)
        | (at_builtin; refine wpList_append_ch rfl _ _ rfl sL s.since.length (rcells s.since vL) rfl hrow.out _ rfl _ _ hblk.out rfl rfl hsl ?_; intro g cg w2 ho2 hg2 hat2; have ht2 := grown_keep hg2 htop.out hN2.out; have d1 := ht2.cell 1; have d2 := ht2.frozen 1; replace d1 : w2.cell? ⟨x, 1, none⟩ = some sL := d1; clear ht2))
      have hpl : pad ⟨l.toArray⟩ = l ++ zeros (512 - l.length) := by
        rw [pad, show (⟨l.toArray⟩ : ByteArray).size = l.length from by show l.toArray.size = _; simp]
      have h512 : (l ++ zeros (512 - l.length)).length = 512 := by rw [List.length_append, zeros_length]; omega
      have hbe := HAL.out.grown hg1 (by simp) (fun q hq => by simp at hq; omega)
      have hs1 := hbe.size
      have hcon : Con w1 (fun g => (Q g ∨ w.heap.size ≤ g) ∧ ¬ Ctl x (.slice so s.kept.length cp) sL g) (.slice (some ⟨w.heap.size, 0, none⟩) 512 512) (pad ⟨l.toArray⟩) := by
        rw [hpl]
        refine ⟨?_, h512, w.heap.size, rfl, .inr (Nat.le_refl _), fun hc => by have := H.out.lts _ hc; omega⟩
        have := (hb1.own (base := 0) (Nat.zero_le _) (by rw [h512]; simp [maxLen])).bs
        rwa [h512] at this
      have HZ := h1.out.appended k ⟨l.toArray⟩ (show l.toArray.size ≤ 512 by simpa using hl') (show k < s.kept.length from hkn) _ hcon g cg _ ho2 (((Moved.refl _ w1).alloc _).grown hg2 (fun q hq => .inl hq)) hat2 (by simp) (.inr (by simp; omega))
      have hM1 : Moved (fun j => Q j ∨ w.heap.size ≤ j) w w1 := Moved.of_below hbe _
      have HM := Lib.hid (hM1.trans HZ.2 (fun j hj => .inl hj))
      have HZ1 := HZ.1
      clear HZ hM1 hcon hpl h512 hbe hb1 hg1 h1 c1 hrow hblk htop hN2 ho2 hg2 hat2 d1 d2 KW H HAL hnb hb' hb
      generalize (World.setCell _ _ _) = w3 at HZ1 HM ⊢
      have e3 : ({ s with since := s.since ++ [(k, ⟨l.toArray⟩)] } : Dsk).step.dead = (s.put k ⟨l.toArray⟩).step.dead := rfl
      cases hdd : (s.put k ⟨l.toArray⟩).step.dead
      · have e4 : deadErr (s.put k ⟨l.toArray⟩).step = 0 := by rw [deadErr, hdd]; rfl
        have E4 := Lib.hid e4
        refine (op_any _ x _ _ ⟨_, _, _, _, HZ1⟩ HDD.out ho hst).mono ?_
        rw [e3, hdd]
        rintro e w4 ⟨rfl, h4, hm4⟩
        have h4' := h4.same (s' := (s.put k ⟨l.toArray⟩).step) rfl rfl rfl rfl rfl
        have HM4 := Lib.hid ((HM.out.trans hm4 (fun j hj => .inl hj)).narrow (P := Q) (fun j hj => hj))
        clear e4 hdd e3 h4 hm4 HZ1
        go_wp2_with fail
        go_ret
        exact ⟨by rw [E4.out]; rfl, _, h4', HM4.out, fun _ h => h⟩
      · have e4 : deadErr (s.put k ⟨l.toArray⟩).step = 13 := by rw [deadErr, hdd]; rfl
        have E4 := Lib.hid e4
        refine (op_any _ x _ _ ⟨_, _, _, _, HZ1⟩ HDD.out ho hst).mono ?_
        rw [e3, hdd]
        rintro e w4 ⟨rfl, h4, hm4⟩
        have h4' := h4.same (s' := (s.put k ⟨l.toArray⟩).step) rfl rfl rfl rfl rfl
        have HM4 := Lib.hid ((HM.out.trans hm4 (fun j hj => .inl hj)).narrow (P := Q) (fun j hj => hj))
        clear e4 hdd e3 h4 hm4 HZ1
        go_wp2_with fail
        go_ret
        exact ⟨by rw [E4.out]; rfl, _, h4', HM4.out, fun _ h => h⟩
  · obtain ⟨e1, e2⟩ := write_bad l hf
    rw [e1, e2]
    cases hd : s.dead
    · rw [hd] at c3
      have hf1 : faultOf s i = 1 ∧ ¬ (0 ≤ i ∧ i < s.kept.length) := by
        rw [faultOf, hd, hok.len] at hf ⊢
        by_cases hc : 0 ≤ i ∧ i < (s.kept.length : Int)
        · simp [hc] at hf
        · simp [hc]
      rw [hf1.1]
      obtain ⟨so, cp, rfl, hcp1, hcp2⟩ := owns_form h.rowS
      have hcp2' : cp ≤ 9223372036854775807 := hcp2
      by_cases hi0 : i < 0
      · clear h hf hf1 hb e1 e2 hd hcp2 c1 hok
        go_enter Try.func24, Try.ntmps24
        go_wp2
        go_ret
        exact ⟨rfl, Q, h', Moved.refl _ _, fun _ h => .inl h⟩
      · have hi1 : (s.kept.length : Int) ≤ i := by have := hf1.2; omega
        clear h hf hf1 hb e1 e2 hd hcp2 c1 hok
        go_enter Try.func24, Try.ntmps24
        go_wp2
        go_ret
        exact ⟨rfl, Q, h', Moved.refl _ _, fun _ h => .inl h⟩
    · rw [hd] at c3
      have hf1 : faultOf s i = 13 := by rw [faultOf, hd]; rfl
      rw [hf1]
      clear h hf hf1 hb e1 e2 hd c0 c1 hok
      go_enter Try.func24, Try.ntmps24
      go_wp2
      go_ret
      exact ⟨rfl, Q, h', Moved.refl _ _, fun _ h => .inl h⟩
end Go.Proofs.Ytkhdahipnfloeaa
