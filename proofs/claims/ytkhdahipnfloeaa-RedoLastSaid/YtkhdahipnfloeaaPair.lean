/- The disk and the reference's disk, side by side. -/
import Derived.Test.YtkhdahipnfloeaaRefNew
namespace Go.Proofs.Ytkhdahipnfloeaa
open Go.RowKit
set_option maxRecDepth 100000

/-- Two disks of the call's own, apart from one another and from the blocks of X. -/
def Pr (w0 w : World) (X : Nat → Prop) (r x : Nat) (s s' : Dsk) : Prop :=
  Below w0.heap.size w0 w ∧ ∃ P Q, Dk w P r s ∧ Rk w Q x s' ∧ (∀ k, P k → w0.heap.size ≤ k ∧ k < w.heap.size ∧ ¬ X k) ∧ (∀ k, Q k → w0.heap.size ≤ k ∧ k < w.heap.size ∧ ¬ X k) ∧ ∀ k, P k → ¬ Q k

theorem Pr.of {w0 w : World} {X P Q : Nat → Prop} {r x : Nat} {s s' : Dsk} (h1 : Below w0.heap.size w0 w) (h2 : Dk w P r s) (h3 : Rk w Q x s') (hP : ∀ k, P k → w0.heap.size ≤ k ∧ ¬ X k) (hQ : ∀ k, Q k → w0.heap.size ≤ k ∧ ¬ X k) (hPQ : ∀ k, P k → ¬ Q k) : Pr w0 w X r x s s' :=
  ⟨h1, _, _, h2.shrink, h3.shrink, fun k hk => ⟨(hP k hk.1).1, hk.2, (hP k hk.1).2⟩, fun k hk => ⟨(hQ k hk.1).1, hk.2, (hQ k hk.1).2⟩, fun k hk hq => hPQ k hk.1 hq.1⟩
theorem Pr.below {w0 w : World} {X : Nat → Prop} {r x : Nat} {s s' : Dsk} (h : Pr w0 w X r x s s') : Below w0.heap.size w0 w := h.1
theorem Pr.forget {w0 w : World} {X X' : Nat → Prop} {r x : Nat} {s s' : Dsk} (h : Pr w0 w X r x s s') (hX : ∀ k, X' k → X k) : Pr w0 w X' r x s s' := by
  obtain ⟨h1, P, Q, h2, h3, hP, hQ, hPQ⟩ := h
  exact ⟨h1, P, Q, h2, h3, fun k hk => ⟨(hP k hk).1, (hP k hk).2.1, fun hx => (hP k hk).2.2 (hX k hx)⟩, fun k hk => ⟨(hQ k hk).1, (hQ k hk).2.1, fun hx => (hQ k hk).2.2 (hX k hx)⟩, hPQ⟩
/-- New blocks alone: they are none of the disks'. -/
theorem Pr.grow {w0 w w' : World} {X : Nat → Prop} {r x : Nat} {s s' : Dsk} (h : Pr w0 w X r x s s') (hb : Below w.heap.size w w') : Pr w0 w' (fun k => X k ∨ (w.heap.size ≤ k ∧ k < w'.heap.size)) r x s s' := by
  obtain ⟨h1, P, Q, h2, h3, hP, hQ, hPQ⟩ := h
  have hm : Moved (fun _ => False) w w' := Moved.of_below hb _
  refine Pr.of (h1.trans (hb.mono h1.size)) (h2.moved hm (fun _ _ h => h)) (h3.moved hm (fun _ _ h => h)) (fun k hk => ⟨(hP k hk).1, ?_⟩) (fun k hk => ⟨(hQ k hk).1, ?_⟩) hPQ
  · rintro (hx | hx)
    · exact (hP k hk).2.2 hx
    · have := (hP k hk).2.1; omega
  · rintro (hx | hx)
    · exact (hQ k hk).2.2 hx
    · have := (hQ k hk).2.1; omega
theorem Pr.grown {w0 w w' : World} {X : Nat → Prop} {r x : Nat} {s s' : Dsk} (h : Pr w0 w X r x s s') (hb : Below w.heap.size w w') : Pr w0 w' X r x s s' := (h.grow hb).forget (fun _ hx => .inl hx)

theorem Pr.drew {w0 w : World} {X : Nat → Prop} {r x : Nat} {s s' : Dsk} (h : Pr w0 w X r x s s') : Pr w0 w.drew X r x s s' := h.grown (Below.refl _ _).drew

section
variable {w0 w : World} {X : Nat → Prop} {r x : Nat} {s s' : Dsk}

theorem pd_write (i : Int) (v : Value) (l : List UInt8) (h : Pr w0 w X r x s s') (hb : Bs w v l) (ho : s.ops ≤ 4611686018427387904) (hst : s.stop ≤ 9223372036854775807) (hsl : s.since.length ≤ 1073741824) (hX : ∀ k, X k → k < w.heap.size) :
    Calls Try.prog 23 #[.pointer (some ⟨r, 0, none⟩), .int .i64 i, v] w fun e w' => e = .returned (.int .i64 (writeErr s i l)) ∧ Pr w0 w' X r x (s.write i l) s' ∧ Moved (fun k => ¬ X k) w w' := by
  obtain ⟨h1, P, Q, h2, h3, hP, hQ, hPQ⟩ := h
  refine (write_any P r s i v l w h2 hb ho hst hsl).mono ?_
  rintro e w' ⟨rfl, P', hd, hm, hP'⟩
  refine ⟨rfl, Pr.of (h1.trans (hm.below (fun k hk => (hP k hk).1) h1.size)) hd (h3.moved hm (fun k hq hp => hPQ k hp hq)) (fun k hk => ?_) (fun k hk => ⟨(hQ k hk).1, (hQ k hk).2.2⟩) (fun k hk hq => ?_), hm.mono (fun k hk => (hP k hk).2.2)⟩
  · rcases hP' k hk with hp | hp
    · exact ⟨(hP k hp).1, (hP k hp).2.2⟩
    · exact ⟨Nat.le_trans h1.size hp, fun hx => by have := hX k hx; omega⟩
  · rcases hP' k hk with hp | hp
    · exact hPQ k hp hq
    · have := (hQ k hq).2.1; omega

theorem px_write (i : Int) (v : Value) (l : List UInt8) (h : Pr w0 w X r x s s') (hok : Okay s') (hb : Bs w v l) (ho : s'.ops ≤ 4611686018427387904) (hst : s'.stop ≤ 9223372036854775807) (hsl : s'.since.length ≤ 1073741824) (hX : ∀ k, X k → k < w.heap.size) :
    Calls Try.prog 24 #[.pointer (some ⟨x, 0, none⟩), .int .i64 i, v] w fun e w' => e = .returned (.int .i64 (writeErr s' i l)) ∧ Pr w0 w' X r x s (s'.write i l) ∧ Moved (fun k => ¬ X k) w w' := by
  obtain ⟨h1, P, Q, h2, h3, hP, hQ, hPQ⟩ := h
  refine (rwrite_any Q x s' i v l w h3 hok hb ho hst hsl).mono ?_
  rintro e w' ⟨rfl, Q', hd, hm, hQ'⟩
  refine ⟨rfl, Pr.of (h1.trans (hm.below (fun k hk => (hQ k hk).1) h1.size)) (h2.moved hm (fun k hp hq => hPQ k hp hq)) hd (fun k hk => ⟨(hP k hk).1, (hP k hk).2.2⟩) (fun k hk => ?_) (fun k hk hq => ?_), hm.mono (fun k hk => (hQ k hk).2.2)⟩
  · rcases hQ' k hk with hp | hp
    · exact ⟨(hQ k hp).1, (hQ k hp).2.2⟩
    · exact ⟨Nat.le_trans h1.size hp, fun hx => by have := hX k hx; omega⟩
  · rcases hQ' k hq with hp | hp
    · exact hPQ k hk hp
    · have := (hP k hk).2.1; omega

theorem pd_sync (h : Pr w0 w X r x s s') (ho : s.ops ≤ 4611686018427387904) (hst : s.stop ≤ 9223372036854775807) :
    Calls Try.prog 25 #[.pointer (some ⟨r, 0, none⟩)] w fun e w' => e = .returned (.int .i64 (syncErr s)) ∧ Pr w0 w' X r x s.sync s' ∧ Moved (fun k => ¬ X k) w w' := by
  obtain ⟨h1, P, Q, h2, h3, hP, hQ, hPQ⟩ := h
  refine (sync_any P r s w h2 ho hst).mono ?_
  rintro e w' ⟨rfl, hd, hm⟩
  exact ⟨rfl, Pr.of (h1.trans (hm.below (fun k hk => (hP k hk).1) h1.size)) hd (h3.moved hm (fun k hq hp => hPQ k hp hq)) (fun k hk => ⟨(hP k hk).1, (hP k hk).2.2⟩) (fun k hk => ⟨(hQ k hk).1, (hQ k hk).2.2⟩) hPQ, hm.mono (fun k hk => (hP k hk).2.2)⟩

theorem px_sync (h : Pr w0 w X r x s s') (hok : Okay s') (ho : s'.ops ≤ 4611686018427387904) (hst : s'.stop ≤ 9223372036854775807) (hsl : s'.since.length ≤ 1073741824) :
    Calls Try.prog 26 #[.pointer (some ⟨x, 0, none⟩)] w fun e w' => e = .returned (.int .i64 (syncErr s')) ∧ Pr w0 w' X r x s s'.sync ∧ Moved (fun k => ¬ X k) w w' := by
  obtain ⟨h1, P, Q, h2, h3, hP, hQ, hPQ⟩ := h
  refine (rsync_any Q x s' w h3 hok ho hst hsl).mono ?_
  rintro e w' ⟨rfl, hd, hm⟩
  exact ⟨rfl, Pr.of (h1.trans (hm.below (fun k hk => (hQ k hk).1) h1.size)) (h2.moved hm (fun k hp hq => hPQ k hp hq)) hd (fun k hk => ⟨(hP k hk).1, (hP k hk).2.2⟩) (fun k hk => ⟨(hQ k hk).1, (hQ k hk).2.2⟩) hPQ, hm.mono (fun k hk => (hQ k hk).2.2)⟩

theorem pd_stop (n : Int) (h : Pr w0 w X r x s s') :
    Calls Try.prog 15 #[.pointer (some ⟨r, 0, none⟩), .int .i64 n] w fun e w' => e = .returned (.tuple #[]) ∧ Pr w0 w' X r x { s with stop := n.toNat } s' ∧ Moved (fun k => ¬ X k) w w' := by
  obtain ⟨h1, P, Q, h2, h3, hP, hQ, hPQ⟩ := h
  refine (stop_any P r s n w h2).mono ?_
  rintro e w' ⟨rfl, hd, hm⟩
  exact ⟨rfl, Pr.of (h1.trans (hm.below (fun k hk => (hP k hk).1) h1.size)) hd (h3.moved hm (fun k hq hp => hPQ k hp hq)) (fun k hk => ⟨(hP k hk).1, (hP k hk).2.2⟩) (fun k hk => ⟨(hQ k hk).1, (hQ k hk).2.2⟩) hPQ, hm.mono (fun k hk => (hP k hk).2.2)⟩

theorem px_stop (n : Int) (h : Pr w0 w X r x s s') :
    Calls Try.prog 17 #[.pointer (some ⟨x, 0, none⟩), .int .i64 n] w fun e w' => e = .returned (.tuple #[]) ∧ Pr w0 w' X r x s { s' with stop := n.toNat } ∧ Moved (fun k => ¬ X k) w w' := by
  obtain ⟨h1, P, Q, h2, h3, hP, hQ, hPQ⟩ := h
  refine (rstop_any Q x s' n w h3).mono ?_
  rintro e w' ⟨rfl, hd, hm⟩
  exact ⟨rfl, Pr.of (h1.trans (hm.below (fun k hk => (hQ k hk).1) h1.size)) (h2.moved hm (fun k hp hq => hPQ k hp hq)) hd (fun k hk => ⟨(hP k hk).1, (hP k hk).2.2⟩) (fun k hk => ⟨(hQ k hk).1, (hQ k hk).2.2⟩) hPQ, hm.mono (fun k hk => (hQ k hk).2.2)⟩

theorem pd_crash (v : Value) (keep : List Bool) (h : Pr w0 w X r x s s') (hv : Bl w v keep) (hV : 0 < keep.length → ∀ k, v.ownBlock = some k → X k ∨ k < w0.heap.size) (hsl : s.since.length ≤ 1073741824) :
    Calls Try.prog 21 #[.pointer (some ⟨r, 0, none⟩), v] w fun e w' => e = .returned (.tuple #[]) ∧ Pr w0 w' X r x (s.crash keep) s' ∧ Moved (fun k => ¬ X k) w w' := by
  obtain ⟨h1, P, Q, h2, h3, hP, hQ, hPQ⟩ := h
  refine (crash_any P r s v keep w h2 hv (fun h0 k hk hp => (hV h0 k hk).elim (hP k hp).2.2 (fun hlt => by have := (hP k hp).1; omega)) hsl).mono ?_
  rintro e w' ⟨rfl, hd, hm⟩
  exact ⟨rfl, Pr.of (h1.trans (hm.below (fun k hk => (hP k hk).1) h1.size)) hd (h3.moved hm (fun k hq hp => hPQ k hp hq)) (fun k hk => ⟨(hP k hk).1, (hP k hk).2.2⟩) (fun k hk => ⟨(hQ k hk).1, (hQ k hk).2.2⟩) hPQ, hm.mono (fun k hk => (hP k hk).2.2)⟩

theorem px_crash (v : Value) (keep : List Bool) (h : Pr w0 w X r x s s') (hv : Bl w v keep) (hV : 0 < keep.length → ∀ k, v.ownBlock = some k → X k ∨ k < w0.heap.size) (hsl : s'.since.length ≤ 1073741824) :
    Calls Try.prog 22 #[.pointer (some ⟨x, 0, none⟩), v] w fun e w' => e = .returned (.tuple #[]) ∧ Pr w0 w' X r x s (s'.crash keep) ∧ Moved (fun k => ¬ X k) w w' := by
  obtain ⟨h1, P, Q, h2, h3, hP, hQ, hPQ⟩ := h
  refine (rcrash_any Q x s' v keep w h3 hv (fun h0 k hk hp => (hV h0 k hk).elim (hQ k hp).2.2 (fun hlt => by have := (hQ k hp).1; omega)) hsl).mono ?_
  rintro e w' ⟨rfl, hd, hm⟩
  exact ⟨rfl, Pr.of (h1.trans (hm.below (fun k hk => (hQ k hk).1) h1.size)) (h2.moved hm (fun k hp hq => hPQ k hp hq)) hd (fun k hk => ⟨(hP k hk).1, (hP k hk).2.2⟩) (fun k hk => ⟨(hQ k hk).1, (hQ k hk).2.2⟩) hPQ, hm.mono (fun k hk => (hQ k hk).2.2)⟩

theorem pd_read (i : Int) (h : Pr w0 w X r x s s') :
    Calls Try.prog 32 #[.pointer (some ⟨r, 0, none⟩), .int .i64 i] w fun e w' =>
      ∃ v, e = .returned (.tuple #[v, .int .i64 (faultOf s i)]) ∧ Own w' w.heap.size v (readOf s i) ∧ Below w.heap.size w w' ∧ Pr w0 w' X r x s s' := by
  obtain ⟨P, Q, h2, -⟩ := h.2
  refine (read_any P r s i w h2).mono ?_
  rintro e w' ⟨v, rfl, hv, hb⟩
  exact ⟨v, rfl, hv, hb, h.grown hb⟩
theorem px_read (i : Int) (h : Pr w0 w X r x s s') (hok : Okay s') (hsl : s'.since.length ≤ 1073741824) :
    Calls Try.prog 47 #[.pointer (some ⟨x, 0, none⟩), .int .i64 i] w fun e w' =>
      ∃ v, e = .returned (.tuple #[v, .int .i64 (faultOf s' i)]) ∧ Own w' w.heap.size v (readOf s' i) ∧ Below w.heap.size w w' ∧ Pr w0 w' X r x s s' := by
  obtain ⟨P, Q, -, h3, -⟩ := h.2
  refine (rread_any Q x s' i w h3 hok hsl).mono ?_
  rintro e w' ⟨v, rfl, hv, hb⟩
  exact ⟨v, rfl, hv, hb, h.grown hb⟩
theorem pd_dead (h : Pr w0 w X r x s s') : Calls Try.prog 46 #[.pointer (some ⟨r, 0, none⟩)] w fun e w' => e = .returned (.bool s.dead) ∧ w' = w := by
  obtain ⟨P, Q, h2, -⟩ := h.2
  exact dead_any P r s w h2
theorem pd_ops (h : Pr w0 w X r x s s') : Calls Try.prog 31 #[.pointer (some ⟨r, 0, none⟩)] w fun e w' => e = .returned (.int .i64 (s.ops : Int)) ∧ w' = w := by
  obtain ⟨P, Q, h2, -⟩ := h.2
  exact ops_any P r s w h2
theorem pd_size (h : Pr w0 w X r x s s') : Calls Try.prog 44 #[.pointer (some ⟨r, 0, none⟩)] w fun e w' => e = .returned (.int .i64 (s.now.length : Int)) ∧ w' = w := by
  obtain ⟨P, Q, h2, -⟩ := h.2
  exact size_any P r s w h2
theorem px_size (h : Pr w0 w X r x s s') : Calls Try.prog 45 #[.pointer (some ⟨x, 0, none⟩)] w fun e w' => e = .returned (.int .i64 (s'.kept.length : Int)) ∧ w' = w := by
  obtain ⟨P, Q, -, h3, -⟩ := h.2
  exact rsize_any Q x s' w h3
theorem px_cells (h : Pr w0 w X r x s s') : w.cell? ⟨x, 3, none⟩ = some (.bool s'.dead) ∧ w.cell? ⟨x, 4, none⟩ = some (.int .i64 (s'.ops : Int)) := by
  obtain ⟨P, Q, -, h3, -⟩ := h.2
  obtain ⟨sS, sL, vS, vL, h3⟩ := h3
  exact ⟨h3.cells.2.2.2.1, h3.cells.2.2.2.2.1⟩
end

/-- What the acts keep. -/
structure Fit (s : Dsk) (n k : Nat) : Prop where
  ok : Okay s
  len : s.kept.length = n
  ops : s.ops ≤ k
  since : s.since.length ≤ k
  stop : s.stop ≤ 7

theorem Fit.nlen {s : Dsk} {n k : Nat} (h : Fit s n k) : s.now.length = n := by rw [h.ok.len, h.len]
theorem Fit.next {s : Dsk} {n k : Nat} (h : Fit s n k) : Fit s n (k + 1) := ⟨h.ok, h.len, Nat.le_succ_of_le h.ops, Nat.le_succ_of_le h.since, h.stop⟩
theorem Fit.stopped {s : Dsk} {n k : Nat} (h : Fit s n k) (m : Nat) (hm : m ≤ 7) : Fit { s with stop := m } n (k + 1) := ⟨h.ok, h.len, Nat.le_succ_of_le h.ops, Nat.le_succ_of_le h.since, hm⟩
theorem Fit.step {s : Dsk} {n k : Nat} (h : Fit s n k) : Fit s.step n (k + 1) := ⟨h.ok, h.len, Nat.succ_le_succ h.ops, Nat.le_succ_of_le h.since, Nat.le_trans (Nat.sub_le _ _) h.stop⟩
theorem Fit.put {s : Dsk} {n k : Nat} (h : Fit s n k) (a : Nat) (b : ByteArray) : Fit (s.put a b).step n (k + 1) := by
  refine ⟨?_, h.len, Nat.succ_le_succ h.ops, ?_, Nat.le_trans (Nat.sub_le _ _) h.stop⟩
  · show s.now.set a b = laidF s.kept (s.since ++ [(a, b)]) (fun _ => true) (s.since ++ [(a, b)]).length
    rw [List.length_append, List.length_singleton, laidF_step _ _ _ _ (by simp), if_pos rfl, laidF_snoc _ _ _ _ _ (Nat.le_refl _), ← h.ok]
    simp
  · show (s.since ++ [(a, b)]).length ≤ k + 1
    rw [List.length_append]; exact Nat.succ_le_succ h.since
theorem Fit.write {s : Dsk} {n k : Nat} (h : Fit s n k) (i : Int) (l : List UInt8) : Fit (s.write i l) n (k + 1) := by
  unfold Dsk.write
  split
  · exact h.put _ _
  · exact h.next
theorem Fit.sync {s : Dsk} {n k : Nat} (h : Fit s n k) : Fit s.sync n (k + 1) := by
  unfold Dsk.sync
  split
  · exact h.next
  · split
    · exact h.step
    · exact ⟨rfl, h.nlen, Nat.succ_le_succ h.ops, Nat.zero_le _, Nat.le_trans (Nat.sub_le _ _) h.stop⟩
theorem Fit.crash {s : Dsk} {n k : Nat} (h : Fit s n k) (keep : List Bool) : Fit (s.crash keep) n (k + 1) :=
  ⟨rfl, by show (laid _ _ _ _).length = n; rw [laid_length]; exact h.len, Nat.le_succ_of_le h.ops, Nat.zero_le _, Nat.zero_le _⟩
theorem Fit.new (n : Nat) : Fit (Dsk.new n) n 0 := ⟨rfl, by simp [Dsk.new], Nat.le_refl _, Nat.le_refl _, Nat.zero_le _⟩
end Go.Proofs.Ytkhdahipnfloeaa
