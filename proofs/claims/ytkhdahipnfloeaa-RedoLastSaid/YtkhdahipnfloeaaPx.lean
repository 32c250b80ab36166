/- Two disks of the law's own, the program's and the reference's, as they are seen. -/
import Derived.Test.YtkhdahipnfloeaaTwice
namespace Go.Proofs.Ytkhdahipnfloeaa
open Go.RowKit
set_option maxRecDepth 100000

def Px (w0 w : World) (X : Nat → Prop) (r x : Nat) (A B : Ab) : Prop :=
  Below w0.heap.size w0 w ∧ (∀ k, X k → k < w.heap.size) ∧ ∃ P Q, DkA w P r A ∧ RkA w Q x B ∧ (∀ k, P k → w0.heap.size ≤ k ∧ k < w.heap.size ∧ ¬ X k) ∧ (∀ k, Q k → w0.heap.size ≤ k ∧ k < w.heap.size ∧ ¬ X k) ∧ ∀ k, P k → ¬ Q k

theorem RkA.moved {w w' : World} {P Q : Nat → Prop} {x : Nat} {A : Ab} (h : RkA w Q x A) (hm : Moved P w w') (hPQ : ∀ k, Q k → ¬ P k) : RkA w' Q x A := by
  obtain ⟨s, h1, h2, h3⟩ := h
  exact ⟨s, h1.moved hm hPQ, h2, h3⟩
theorem Px.below {w0 w : World} {X : Nat → Prop} {r x : Nat} {A B : Ab} (h : Px w0 w X r x A B) : Below w0.heap.size w0 w := h.1
theorem Px.size {w0 w : World} {X : Nat → Prop} {r x : Nat} {A B : Ab} (h : Px w0 w X r x A B) : w0.heap.size ≤ w.heap.size := h.1.size
theorem Px.grow {w0 w w' : World} {X : Nat → Prop} {r x : Nat} {A B : Ab} (h : Px w0 w X r x A B) (hb : Below w.heap.size w w') : Px w0 w' X r x A B := by
  obtain ⟨h1, h2, P, Q, h3, h4, h5, h6, h7⟩ := h
  exact ⟨h1.trans (hb.mono h1.size), fun k hk => Nat.lt_of_lt_of_le (h2 k hk) hb.size, P, Q, h3.below hb, h4.below hb, fun k hk => ⟨(h5 k hk).1, Nat.lt_of_lt_of_le (h5 k hk).2.1 hb.size, (h5 k hk).2.2⟩, fun k hk => ⟨(h6 k hk).1, Nat.lt_of_lt_of_le (h6 k hk).2.1 hb.size, (h6 k hk).2.2⟩, h7⟩
theorem Px.take {w0 w w' : World} {X : Nat → Prop} {r x : Nat} {A B : Ab} (h : Px w0 w X r x A B) (hb : Below w.heap.size w w') : Px w0 w' (fun k => X k ∨ (w.heap.size ≤ k ∧ k < w'.heap.size)) r x A B := by
  obtain ⟨h1, h2, P, Q, h3, h4, h5, h6, h7⟩ := h
  refine ⟨h1.trans (hb.mono h1.size), ?_, P, Q, h3.below hb, h4.below hb, fun k hk => ⟨(h5 k hk).1, Nat.lt_of_lt_of_le (h5 k hk).2.1 hb.size, ?_⟩, fun k hk => ⟨(h6 k hk).1, Nat.lt_of_lt_of_le (h6 k hk).2.1 hb.size, ?_⟩, h7⟩
  · rintro k (hk | hk)
    · exact Nat.lt_of_lt_of_le (h2 k hk) hb.size
    · exact hk.2
  · rintro (hk' | hk')
    · exact (h5 k hk).2.2 hk'
    · have := (h5 k hk).2.1; omega
  · rintro (hk' | hk')
    · exact (h6 k hk).2.2 hk'
    · have := (h6 k hk).2.1; omega
theorem Px.toD {w0 w w' : World} {X P Q : Nat → Prop} {r x : Nat} {A' B : Ab} (h1 : Below w0.heap.size w0 w) (h2 : ∀ k, X k → k < w.heap.size) (h4 : RkA w Q x B) (h5 : ∀ k, P k → w0.heap.size ≤ k ∧ k < w.heap.size ∧ ¬ X k) (h6 : ∀ k, Q k → w0.heap.size ≤ k ∧ k < w.heap.size ∧ ¬ X k) (h7 : ∀ k, P k → ¬ Q k) (h : DkTo w P w' r A') : Px w0 w' X r x A' B ∧ Mx w0 X w w' := by
  obtain ⟨⟨k1, k2, P', k3, k4⟩, km⟩ := Sx.to h1 h2 h5 h
  obtain ⟨P1, g1, g2, g3⟩ := h
  refine ⟨⟨k1, k2, _, Q, g1.shrink, h4.moved g2 (fun k hk hp => h7 k hp hk), fun k hk => ⟨?_, hk.2, fun hx => ?_⟩, fun k hk => ⟨(h6 k hk).1, Nat.lt_of_lt_of_le (h6 k hk).2.1 g2.size, (h6 k hk).2.2⟩, fun k hk hq => ?_⟩, km⟩
  · rcases g3 k hk.1 with e | e
    · exact (h5 k e).1
    · exact Nat.le_trans h1.size e
  · rcases g3 k hk.1 with e | e
    · exact (h5 k e).2.2 hx
    · have := h2 k hx; omega
  · rcases g3 k hk.1 with e | e
    · exact h7 k e hq
    · have := (h6 k hq).2.1; omega
theorem RkA.shrink' {w : World} {Q : Nat → Prop} {x : Nat} {A : Ab} (h : RkA w Q x A) : RkA w (fun k => Q k ∧ k < w.heap.size) x A := h.shrink
theorem Px.toR {w0 w w' : World} {X P Q : Nat → Prop} {r x : Nat} {A B' : Ab} (h1 : Below w0.heap.size w0 w) (h2 : ∀ k, X k → k < w.heap.size) (h3 : DkA w P r A) (h5 : ∀ k, P k → w0.heap.size ≤ k ∧ k < w.heap.size ∧ ¬ X k) (h6 : ∀ k, Q k → w0.heap.size ≤ k ∧ k < w.heap.size ∧ ¬ X k) (h7 : ∀ k, P k → ¬ Q k) (h : RkTo w Q w' x B') : Px w0 w' X r x A B' ∧ Mx w0 X w w' := by
  obtain ⟨Q1, g1, g2, g3⟩ := h
  refine ⟨⟨h1.trans (g2.below (fun j hj => (h6 j hj).1) h1.size), fun k hk => Nat.lt_of_lt_of_le (h2 k hk) g2.size, P, _, h3.moved g2 (fun k hp hq => h7 k hp hq), g1.shrink, fun k hk => ⟨(h5 k hk).1, Nat.lt_of_lt_of_le (h5 k hk).2.1 g2.size, (h5 k hk).2.2⟩, fun k hk => ⟨?_, hk.2, fun hx => ?_⟩, fun k hp hk => ?_⟩, g2.mono (fun j hj => ⟨(h6 j hj).1, (h6 j hj).2.2⟩)⟩
  · rcases g3 k hk.1 with e | e
    · exact (h6 k e).1
    · exact Nat.le_trans h1.size e
  · rcases g3 k hk.1 with e | e
    · exact (h6 k e).2.2 hx
    · have := h2 k hx; omega
  · rcases g3 k hk.1 with e | e
    · exact h7 k hp e
    · have := (h5 k hp).2.1; omega

section
variable {w0 w : World} {X : Nat → Prop} {r x : Nat} {A B : Ab}

theorem px_new (n : Int) (h : Sx w0 w X r A) :
    Calls Try.prog 13 #[.int .i64 n] w fun e w' => ∃ x, e = .returned (.pointer (some ⟨x, 0, none⟩)) ∧ Px w0 w' X r x A (Ab.new (sizeOf' n)) ∧ Below w.heap.size w w' := by
  obtain ⟨h1, h2, P, h3, h4⟩ := h
  refine (rnew_any n w).mono ?_
  rintro e w' ⟨x, Q, rfl, hd, hb, hQ⟩
  refine ⟨x, rfl, ⟨h1.trans (hb.mono h1.size), fun k hk => Nat.lt_of_lt_of_le (h2 k hk) hb.size, P, _, h3.below hb, RkA.shrink ⟨_, hd, Okay.new _, abs_new _⟩, fun k hk => ⟨(h4 k hk).1, Nat.lt_of_lt_of_le (h4 k hk).2.1 hb.size, (h4 k hk).2.2⟩, fun k hk => ⟨Nat.le_trans h1.size (hQ k hk.1), hk.2, fun hx => ?_⟩, fun k hp hk => ?_⟩, hb⟩
  · have := h2 k hx
    have := hQ k hk.1
    omega
  · have := (h4 k hp).2.1
    have := hQ k hk.1
    omega
theorem px_commitD (v : Value) (l : Pages) (S : Nat → Prop) (h : Px w0 w X r x A B) (hp : Pus w S v l) (hS : ∀ g, S g → g < w0.heap.size ∨ X g) (hs : Small A 100000) :
    Calls Try.prog 18 #[.pointer (some ⟨r, 0, none⟩), v] w fun e w' => e = .returned (.int .i64 (A.commit l).1) ∧ Px w0 w' X r x (A.commit l).2 B ∧ Mx w0 X w w' := by
  obtain ⟨h1, h2, P, Q, h3, h4, h5, h6, h7⟩ := h
  refine (commit_any v l S w P r A h3 hp (fun g hg hP => ?_) (fun g hg => ?_) hs).mono ?_
  · rcases hS g hg with e | e
    · have := (h5 g hP).1; omega
    · exact (h5 g hP).2.2 e
  · rcases hS g hg with e | e
    · exact Nat.lt_of_lt_of_le e h1.size
    · exact h2 g e
  · rintro e w' ⟨rfl, ht⟩
    exact ⟨rfl, Px.toD h1 h2 h4 h5 h6 h7 ht⟩
theorem px_commitR (v : Value) (l : Pages) (S : Nat → Prop) (h : Px w0 w X r x A B) (hp : Pus w S v l) (hS : ∀ g, S g → g < w0.heap.size ∨ X g) (hs : Small B 100000) :
    Calls Try.prog 19 #[.pointer (some ⟨x, 0, none⟩), v] w fun e w' => e = .returned (.int .i64 (B.commit l).1) ∧ Px w0 w' X r x A (B.commit l).2 ∧ Mx w0 X w w' := by
  obtain ⟨h1, h2, P, Q, h3, h4, h5, h6, h7⟩ := h
  refine (rcommit_any v l S w Q x B h4 hp (fun g hg hP => ?_) (fun g hg => ?_) hs).mono ?_
  · rcases hS g hg with e | e
    · have := (h6 g hP).1; omega
    · exact (h6 g hP).2.2 e
  · rcases hS g hg with e | e
    · exact Nat.lt_of_lt_of_le e h1.size
    · exact h2 g e
  · rintro e w' ⟨rfl, ht⟩
    exact ⟨rfl, Px.toR h1 h2 h3 h5 h6 h7 ht⟩
theorem px_recoverD (h : Px w0 w X r x A B) (hs : Small A 100000) :
    Calls Try.prog 27 #[.pointer (some ⟨r, 0, none⟩)] w fun e w' => e = .returned (.tuple #[.int .i64 A.recover.1, .int .i64 A.recover.2.1]) ∧ Px w0 w' X r x A.recover.2.2 B ∧ Mx w0 X w w' := by
  obtain ⟨h1, h2, P, Q, h3, h4, h5, h6, h7⟩ := h
  refine (drecover_any w P r A h3 hs).mono ?_
  rintro e w' ⟨rfl, ht⟩
  exact ⟨rfl, Px.toD h1 h2 h4 h5 h6 h7 ht⟩
theorem px_recoverR (h : Px w0 w X r x A B) (hs : Small B 100000) :
    Calls Try.prog 28 #[.pointer (some ⟨x, 0, none⟩)] w fun e w' => e = .returned (.tuple #[.int .i64 B.recover.1, .int .i64 B.recover.2.1]) ∧ Px w0 w' X r x A B.recover.2.2 ∧ Mx w0 X w w' := by
  obtain ⟨h1, h2, P, Q, h3, h4, h5, h6, h7⟩ := h
  refine (rrecover_any w Q x B h4 hs).mono ?_
  rintro e w' ⟨rfl, ht⟩
  exact ⟨rfl, Px.toR h1 h2 h3 h5 h6 h7 ht⟩
theorem px_writeD (i : Int) (v : Value) (l : List UInt8) (h : Px w0 w X r x A B) (hb : Bs w v l) (hs : Small A 1073741824) :
    Calls Try.prog 23 #[.pointer (some ⟨r, 0, none⟩), .int .i64 i, v] w fun e w' => e = .returned (.int .i64 (A.writeErr i l)) ∧ Px w0 w' X r x (A.write i l) B ∧ Mx w0 X w w' := by
  obtain ⟨h1, h2, P, Q, h3, h4, h5, h6, h7⟩ := h
  refine (to_write i v l (DkTo.refl h3) hb hs).mono ?_
  rintro e w' ⟨rfl, ht⟩
  exact ⟨rfl, Px.toD h1 h2 h4 h5 h6 h7 ht⟩
theorem px_writeR (i : Int) (v : Value) (l : List UInt8) (h : Px w0 w X r x A B) (hb : Bs w v l) (hs : Small B 1073741824) :
    Calls Try.prog 24 #[.pointer (some ⟨x, 0, none⟩), .int .i64 i, v] w fun e w' => e = .returned (.int .i64 (B.writeErr i l)) ∧ Px w0 w' X r x A (B.write i l) ∧ Mx w0 X w w' := by
  obtain ⟨h1, h2, P, Q, h3, h4, h5, h6, h7⟩ := h
  refine (ro_write i v l (RkTo.refl h4) hb hs).mono ?_
  rintro e w' ⟨rfl, ht⟩
  exact ⟨rfl, Px.toR h1 h2 h3 h5 h6 h7 ht⟩
theorem px_syncD (h : Px w0 w X r x A B) (hs : Small A 1073741824) :
    Calls Try.prog 25 #[.pointer (some ⟨r, 0, none⟩)] w fun e w' => e = .returned (.int .i64 A.syncErr) ∧ Px w0 w' X r x A.sync B ∧ Mx w0 X w w' := by
  obtain ⟨h1, h2, P, Q, h3, h4, h5, h6, h7⟩ := h
  refine (to_sync (DkTo.refl h3) hs).mono ?_
  rintro e w' ⟨rfl, ht⟩
  exact ⟨rfl, Px.toD h1 h2 h4 h5 h6 h7 ht⟩
theorem px_syncR (h : Px w0 w X r x A B) (hs : Small B 1073741824) :
    Calls Try.prog 26 #[.pointer (some ⟨x, 0, none⟩)] w fun e w' => e = .returned (.int .i64 B.syncErr) ∧ Px w0 w' X r x A B.sync ∧ Mx w0 X w w' := by
  obtain ⟨h1, h2, P, Q, h3, h4, h5, h6, h7⟩ := h
  refine (ro_sync (RkTo.refl h4) hs).mono ?_
  rintro e w' ⟨rfl, ht⟩
  exact ⟨rfl, Px.toR h1 h2 h3 h5 h6 h7 ht⟩
theorem px_stopD (n : Int) (h : Px w0 w X r x A B) :
    Calls Try.prog 15 #[.pointer (some ⟨r, 0, none⟩), .int .i64 n] w fun e w' => e = .returned (.tuple #[]) ∧ Px w0 w' X r x (A.stopAt n) B ∧ Mx w0 X w w' := by
  obtain ⟨h1, h2, P, Q, ⟨s, g1, g2, rfl⟩, h4, h5, h6, h7⟩ := h
  refine (stop_any P r s n w g1).mono ?_
  rintro e w' ⟨rfl, hd, hm⟩
  exact ⟨rfl, Px.toD h1 h2 h4 h5 h6 h7 ⟨P, ⟨_, hd, g2, abs_stop s n⟩, hm, fun _ h => .inl h⟩⟩
theorem px_stopR (n : Int) (h : Px w0 w X r x A B) :
    Calls Try.prog 17 #[.pointer (some ⟨x, 0, none⟩), .int .i64 n] w fun e w' => e = .returned (.tuple #[]) ∧ Px w0 w' X r x A (B.stopAt n) ∧ Mx w0 X w w' := by
  obtain ⟨h1, h2, P, Q, h3, ⟨s, g1, g2, rfl⟩, h5, h6, h7⟩ := h
  refine (rstop_any Q x s n w g1).mono ?_
  rintro e w' ⟨rfl, hd, hm⟩
  exact ⟨rfl, Px.toR h1 h2 h3 h5 h6 h7 ⟨Q, ⟨_, hd, g2, abs_stop s n⟩, hm, fun _ h => .inl h⟩⟩
/-- keep is nil. -/
theorem px_crashD (h : Px w0 w X r x A B) (hs : Small A 1073741824) :
    Calls Try.prog 21 #[.pointer (some ⟨r, 0, none⟩), .slice none 0 0] w fun e w' => e = .returned (.tuple #[]) ∧ Px w0 w' X r x (A.crash []) B ∧ Mx w0 X w w' := by
  obtain ⟨h1, h2, P, Q, ⟨s, g1, g2, rfl⟩, h4, h5, h6, h7⟩ := h
  refine (crash_any P r s _ [] w g1 (Bl.nil w) (fun h0 => by simp at h0) (by simpa [abs] using hs.2.1)).mono ?_
  rintro e w' ⟨rfl, hd, hm⟩
  exact ⟨rfl, Px.toD h1 h2 h4 h5 h6 h7 ⟨P, ⟨_, hd, rfl, abs_crash s []⟩, hm, fun _ h => .inl h⟩⟩
theorem px_crashR (h : Px w0 w X r x A B) (hs : Small B 1073741824) :
    Calls Try.prog 22 #[.pointer (some ⟨x, 0, none⟩), .slice none 0 0] w fun e w' => e = .returned (.tuple #[]) ∧ Px w0 w' X r x A (B.crash []) ∧ Mx w0 X w w' := by
  obtain ⟨h1, h2, P, Q, h3, ⟨s, g1, g2, rfl⟩, h5, h6, h7⟩ := h
  refine (rcrash_any Q x s _ [] w g1 (Bl.nil w) (fun h0 => by simp at h0) (by simpa [abs] using hs.2.1)).mono ?_
  rintro e w' ⟨rfl, hd, hm⟩
  exact ⟨rfl, Px.toR h1 h2 h3 h5 h6 h7 ⟨Q, ⟨_, hd, rfl, abs_crash s []⟩, hm, fun _ h => .inl h⟩⟩
theorem pxs_sizeD (h : Px w0 w X r x A B) : Calls Try.prog 44 #[.pointer (some ⟨r, 0, none⟩)] w fun e w' => e = .returned (.int .i64 (A.now.length : Int)) ∧ w' = w := by
  obtain ⟨h1, h2, P, Q, h3, -⟩ := h
  exact to_size (DkTo.refl h3)
theorem pxs_sizeR (h : Px w0 w X r x A B) : Calls Try.prog 45 #[.pointer (some ⟨x, 0, none⟩)] w fun e w' => e = .returned (.int .i64 (B.now.length : Int)) ∧ w' = w := by
  obtain ⟨h1, h2, P, Q, h3, h4, -⟩ := h
  exact ro_size (RkTo.refl h4)
theorem pxs_dead (h : Px w0 w X r x A B) : Calls Try.prog 46 #[.pointer (some ⟨r, 0, none⟩)] w fun e w' => e = .returned (.bool A.dead) ∧ w' = w := by
  obtain ⟨h1, h2, P, Q, ⟨s, g1, g2, rfl⟩, -⟩ := h
  exact dead_any P r s w g1
theorem pxs_ops (h : Px w0 w X r x A B) : Calls Try.prog 31 #[.pointer (some ⟨r, 0, none⟩)] w fun e w' => e = .returned (.int .i64 (A.ops : Int)) ∧ w' = w := by
  obtain ⟨h1, h2, P, Q, ⟨s, g1, g2, rfl⟩, -⟩ := h
  exact ops_any P r s w g1
theorem pxs_cells (h : Px w0 w X r x A B) : w.cell? ⟨x, 3, none⟩ = some (.bool B.dead) ∧ w.cell? ⟨x, 4, none⟩ = some (.int .i64 (B.ops : Int)) := by
  obtain ⟨h1, h2, P, Q, h3, ⟨s, ⟨sS, sL, vS, vL, g⟩, g2, rfl⟩, -⟩ := h
  exact ⟨g.cells.2.2.2.1, g.cells.2.2.2.2.1⟩
theorem pxs_readD (i : Int) (h : Px w0 w X r x A B) :
    Calls Try.prog 32 #[.pointer (some ⟨r, 0, none⟩), .int .i64 i] w fun e w' => ∃ v, e = .returned (.tuple #[v, .int .i64 (A.fault i)]) ∧ Own w' w.heap.size v (A.read i) ∧ Below w.heap.size w w' := by
  obtain ⟨h1, h2, P, Q, h3, -⟩ := h
  refine (to_read i (DkTo.refl h3)).mono ?_
  rintro e w' ⟨v, rfl, hv, hb, -⟩
  exact ⟨v, rfl, hv, hb⟩
theorem pxs_readR (i : Int) (h : Px w0 w X r x A B) (hs : Small B 1073741824) :
    Calls Try.prog 47 #[.pointer (some ⟨x, 0, none⟩), .int .i64 i] w fun e w' => ∃ v, e = .returned (.tuple #[v, .int .i64 (B.fault i)]) ∧ Own w' w.heap.size v (B.read i) ∧ Below w.heap.size w w' := by
  obtain ⟨h1, h2, P, Q, h3, h4, -⟩ := h
  refine (ro_read i (RkTo.refl h4) hs).mono ?_
  rintro e w' ⟨v, rfl, hv, hb, -⟩
  exact ⟨v, rfl, hv, hb⟩
end

theorem drewBelow (w : World) : Below w.heap.size w w.drew := (Below.refl _ _).drew

set_option maxHeartbeats 4000000 in
theorem psame_any (w0 w : World) (X : Nat → Prop) (r x : Nat) (A : Ab) (h : Px w0 w X r x A A) (hs : Small A 1073741824) (hlen : A.now.length ≤ 3000) :
    Calls Try.prog 20 #[.pointer (some ⟨r, 0, none⟩), .pointer (some ⟨x, 0, none⟩)] w fun e w' => e = .returned (.bool true) ∧ Below w.heap.size w w' := by
  have H := Lib.hid (h.grow (drewBelow w))
  have H0 := Lib.hid h
  have HS := Lib.hid hs
  obtain ⟨c3, c4⟩ := pxs_cells h
  obtain ⟨dd, hdd⟩ : ∃ dd, dd = A.dead := ⟨_, rfl⟩
  obtain ⟨oo, hoo⟩ : ∃ oo, oo = (A.ops : Int) := ⟨_, rfl⟩
  obtain ⟨n, hn⟩ : ∃ n, n = A.now.length := ⟨_, rfl⟩
  rw [← hdd] at c3
  rw [← hoo] at c4
  rw [← hn] at hlen
  have HD := Lib.hid hdd
  have HO := Lib.hid hoo
  have HN := Lib.hid hn
  have hnn : ((n : Int) != n) = false := by simp
  have hddd : (dd != dd) = false := by simp
  have hooo : (oo != oo) = false := by simp
  clear h hdd hoo hn hs
  go_enter Try.func20, Try.ntmps20
  go_wp2_with fail
  go_region_held3 (fun w' => w' = w.drew) (first | rfl | assumption)
    (first
      | (go_at_call 44; refine (pxs_sizeD H.out).mono ?_; rw [← HN.out]; rintro e wz ⟨rfl, hwz⟩; replace hwz := hwz.symm; subst hwz)
      | (go_at_call 45; refine (pxs_sizeR H.out).mono ?_; rw [← HN.out]; rintro e wz ⟨rfl, hwz⟩; replace hwz := hwz.symm; subst hwz)
      | (go_at_call 46; refine (pxs_dead H.out).mono ?_; rw [← HD.out]; rintro e wz ⟨rfl, hwz⟩; replace hwz := hwz.symm; subst hwz)
      | (go_at_call 31; refine (pxs_ops H.out).mono ?_; rw [← HO.out]; rintro e wz ⟨rfl, hwz⟩; replace hwz := hwz.symm; subst hwz))
  have hdr := drewBelow w
  clear c3 c4 HD HO hnn hddd hooo H
  generalize w.drew = w1 at hdr ⊢
  go_wp2_with fail
  go_loopw [5] (fun i wr => ∃ k : Nat, k ≤ n ∧ i = .int .i64 k ∧ Below w.heap.size w wr) (fun i _ => n - (intOf i).toNat)
  case atStart => exact ⟨0, Nat.zero_le _, rfl, hdr⟩
  case round =>
    obtain ⟨k, hk, rfl, hb⟩ := hrel
    have hP := H0.out.grow hb
    have hff : (A.fault k != A.fault k) = false := by simp
    obtain ⟨ff, hf⟩ : ∃ ff, ff = A.fault k := ⟨_, rfl⟩
    rw [← hf] at hff
    have HFF := Lib.hid hf
    have HB := Lib.hid hb
    clear hf hdr hb
    by_cases hlt : k < n
    · go_wp2_with fail
      refine (pxs_sizeR hP).mono ?_
      rw [← HN.out]
      rintro e wz ⟨rfl, hwz⟩
      replace hwz := hwz.symm
      subst hwz
      go_wp2_with fail
      refine (pxs_readD k hP).mono ?_
      rw [← HFF.out]
      rintro e w10 ⟨v10, rfl, o10, b10⟩
      have hP2 := hP.grow b10
      go_wp2_with fail
      refine (pxs_readR k hP2 HS.out).mono ?_
      rw [← HFF.out]
      rintro e w11 ⟨v11, rfl, o11, b11⟩
      have k10 := run_conv_bytes (o10.below b11).bs
      have k11 := run_conv_bytes o11.bs
      obtain ⟨Y, hY⟩ : ∃ Y : ByteArray, Y = ⟨(A.read k).toArray⟩ := ⟨_, rfl⟩
      rw [← hY] at k10 k11
      have HB12 := Lib.hid ((HB.out.trans (b10.mono HB.out.size)).trans (b11.mono (Nat.le_trans HB.out.size b10.size)))
      clear hY o10 o11 b10 b11 hP2 hP HFF HB
      go_wp2_with fail
      go_roundw
      case rel => exact ⟨k + 1, by omega, by go_num, HB12.out⟩
      case measure => simp [intOf]; omega
    · obtain rfl : k = n := by omega
      go_wp2_with fail
      refine (pxs_sizeR hP).mono ?_
      rw [← HN.out]
      rintro e wz ⟨rfl, hwz⟩
      replace hwz := hwz.symm
      subst hwz
      go_wp2_with fail
      go_ret
      exact ⟨rfl, HB.out⟩
end Go.Proofs.Ytkhdahipnfloeaa
