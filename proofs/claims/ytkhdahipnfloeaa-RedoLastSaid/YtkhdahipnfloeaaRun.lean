/- Rows of Writes and Syncs on a disk, wherever the power goes: the plain part. -/
import Derived.Test.YtkhdahipnfloeaaAb
namespace Go.Proofs.Ytkhdahipnfloeaa
open Go.RowKit
set_option maxRecDepth 100000

/-- Sectors with others laid over them. -/
def over (K : List (List UInt8)) (l : List (Nat × List UInt8)) : List (List UInt8) := l.foldl (fun k p => k.set p.1 p.2) K
theorem over_nil (K : List (List UInt8)) : over K [] = K := rfl
theorem over_cons (K : List (List UInt8)) (p : Nat × List UInt8) (l : List (Nat × List UInt8)) : over K (p :: l) = over (K.set p.1 p.2) l := rfl
theorem over_append (K : List (List UInt8)) (l m : List (Nat × List UInt8)) : over K (l ++ m) = over (over K l) m := by unfold over; rw [List.foldl_append]
theorem over_length (K : List (List UInt8)) (l : List (Nat × List UInt8)) : (over K l).length = K.length := by
  induction l generalizing K with
  | nil => rfl
  | cons p t ih => rw [over_cons, ih, List.length_set]
theorem over_other (K : List (List UInt8)) (l : List (Nat × List UInt8)) (j : Nat) (h : ∀ p ∈ l, p.1 ≠ j) : (over K l)[j]? = K[j]? := by
  induction l generalizing K with
  | nil => rfl
  | cons p t ih => rw [over_cons, ih _ (fun q hq => h q (List.mem_cons_of_mem _ hq)), List.getElem?_set_ne (h p (List.mem_cons_self ..))]
theorem over_mem (K : List (List UInt8)) (l : List (Nat × List UInt8)) (hn : (l.map (·.1)).Nodup) (j : Nat) (v : List UInt8) (h : (j, v) ∈ l) (hj : j < K.length) : (over K l)[j]? = some v := by
  induction l generalizing K with
  | nil => simp at h
  | cons p t ih =>
    rw [List.map_cons, List.nodup_cons] at hn
    rw [over_cons]
    rcases List.mem_cons.1 h with h | h
    · subst h
      rw [over_other _ _ _ (fun q hq e => hn.1 (List.mem_map.2 ⟨q, hq, e⟩)), List.getElem?_set_self hj]
    · exact ih _ hn.2 h (by rw [List.length_set]; exact hj)

theorem lay_sub (K : List (List UInt8)) (l : List (Nat × List UInt8)) (keep : List Bool) (i : Nat) (hi : i ≤ l.length) : ∃ l', l'.Sublist (l.take i) ∧ lay K l keep i = over K l' := by
  induction i with
  | zero => exact ⟨[], by simp, rfl⟩
  | succ i ih =>
    obtain ⟨l', h1, h2⟩ := ih (by omega)
    have hil : i < l.length := by omega
    unfold lay
    rw [List.take_succ_eq_append_getElem hil, List.getD_eq_getElem?_getD (l := l), List.getElem?_eq_getElem hil, h2]
    split
    · exact ⟨l' ++ [l[i]], h1.append (List.Sublist.refl _), by rw [over_append]; rfl⟩
    · exact ⟨l', h1.trans (List.sublist_append_left _ _), rfl⟩

inductive Dop where
  | W (i : Nat) (b : List UInt8)
  | S

/-- One behind the other, till one answers an error. -/
def Ab.run : Ab → List Dop → Int × Ab
  | A, [] => (0, A)
  | A, .W i b :: t => if A.writeErr i b = 0 then (A.write i b).run t else (A.writeErr i b, A.write i b)
  | A, .S :: t => if A.syncErr = 0 then A.sync.run t else (A.syncErr, A.sync)

theorem run_append (A : Ab) (xs ys : List Dop) : A.run (xs ++ ys) = if (A.run xs).1 = 0 then (A.run xs).2.run ys else A.run xs := by
  induction xs generalizing A with
  | nil => simp [Ab.run]
  | cons o t ih =>
    cases o with
    | W i b =>
      simp only [List.cons_append, Ab.run]
      split
      · exact ih _
      · rfl
    | S =>
      simp only [List.cons_append, Ab.run]
      split
      · exact ih _
      · rfl

/-- All that was written is synced. -/
structure Synced (A : Ab) (K : List (List UInt8)) : Prop where
  now : A.now = K
  kept : A.kept = K
  since : A.since = []
  live : A.dead = false
/-- Of what was synced, K, the Writes ws have come since. -/
structure Open (A : Ab) (K : List (List UInt8)) (ws : List (Nat × List UInt8)) : Prop where
  now : A.now = over K ws
  kept : A.kept = K
  since : A.since = ws
  live : A.dead = false
/-- The power has gone. -/
structure Gone (A : Ab) (K : List (List UInt8)) (ws : List (Nat × List UInt8)) : Prop where
  kept : A.kept = K
  since : A.since = ws
  dead : A.dead = true

theorem Synced.open' {A : Ab} {K : List (List UInt8)} (h : Synced A K) : Open A K [] := ⟨h.now, h.kept, h.since, h.live⟩

theorem step_power (A : Ab) : A.step.power = if A.stop = 1 then 13 else 0 := by
  show (if (A.stop == 1) = true then (13 : Int) else 0) = _
  by_cases h : A.stop = 1
  · rw [h]; rfl
  · rw [if_neg (by simpa using h), if_neg h]

/-- Two by two: the secs of a row of Writes. -/
def secs (ws : List (Nat × List UInt8)) : List (Nat × List UInt8) := ws.map fun p => (p.1, sec p.2)
def okWrites (n : Nat) (ws : List (Nat × List UInt8)) : Prop := ∀ p ∈ ws, p.1 < n ∧ p.2.length ≤ 512

theorem open_write {A : Ab} {K : List (List UInt8)} {vs : List (Nat × List UInt8)} (h : Open A K vs) (i : Nat) (b : List UInt8) (hi : i < K.length) (hb : b.length ≤ 512) :
    (A.stop ≠ 1 ∧ A.writeErr i b = 0 ∧ Open (A.write i b) K (vs ++ [(i, sec b)]) ∧ (A.write i b).ops = A.ops + 1 ∧ (A.write i b).stop = A.stop - 1) ∨
    (A.stop = 1 ∧ A.writeErr i b = 13 ∧ Gone (A.write i b) K (vs ++ [(i, sec b)])) := by
  have hf : A.fault i = 0 := by
    unfold Ab.fault
    rw [h.live, h.now, over_length, if_neg (by decide), if_pos (by omega)]
  have e1 : A.writeErr i b = if A.stop = 1 then 13 else 0 := by
    unfold Ab.writeErr
    rw [if_neg (fun h' => h' hf), if_neg (by omega), step_power]
    rfl
  have e2 : A.write i b = (A.put i (sec b)).step := by
    unfold Ab.write
    rw [if_pos ⟨hf, hb⟩, Int.toNat_natCast]
  have e3 : (A.put i (sec b)).now = over K (vs ++ [(i, sec b)]) := by
    show A.now.set i (sec b) = _
    rw [h.now, over_append]; rfl
  have e4 : (A.put i (sec b)).since = vs ++ [(i, sec b)] := by
    show A.since ++ _ = _
    rw [h.since]
  by_cases hs : A.stop = 1
  · right
    rw [e1, if_pos hs, e2]
    exact ⟨hs, rfl, h.kept, e4, by show (A.stop == 1) = true; rw [hs]; rfl⟩
  · left
    rw [e1, if_neg hs, e2]
    exact ⟨hs, rfl, ⟨e3, h.kept, e4, by show (A.stop == 1) = false; simpa using hs⟩, rfl, rfl⟩

/-- A row of Writes: all are done, or the power goes at one of them. -/
theorem run_writes (ws : List (Nat × List UInt8)) : ∀ {A : Ab} {K : List (List UInt8)} {vs : List (Nat × List UInt8)} (_ : Open A K vs) (_ : okWrites K.length ws),
    ((A.run (ws.map fun p => Dop.W p.1 p.2)).1 = 0 ∧ Open (A.run (ws.map fun p => Dop.W p.1 p.2)).2 K (vs ++ secs ws) ∧ (A.run (ws.map fun p => Dop.W p.1 p.2)).2.ops = A.ops + ws.length ∧ (A.run (ws.map fun p => Dop.W p.1 p.2)).2.stop = A.stop - ws.length ∧ (A.stop = 0 ∨ ws.length < A.stop)) ∨
    ((A.run (ws.map fun p => Dop.W p.1 p.2)).1 = 13 ∧ (∃ m, Gone (A.run (ws.map fun p => Dop.W p.1 p.2)).2 K (vs ++ (secs ws).take m)) ∧ 1 ≤ A.stop ∧ A.stop ≤ ws.length) := by
  induction ws with
  | nil =>
    intro A K vs h _
    left
    refine ⟨rfl, by simpa [secs, Ab.run] using h, rfl, rfl, ?_⟩
    rw [List.length_nil]; omega
  | cons p t ih =>
    intro A K vs h hw
    have hp := hw p (List.mem_cons_self ..)
    have ht : okWrites K.length t := fun q hq => hw q (List.mem_cons_of_mem _ hq)
    simp only [List.map_cons, Ab.run]
    rcases open_write h p.1 p.2 hp.1 hp.2 with ⟨hs, e1, e2, e3, e4⟩ | ⟨hs, e1, e2⟩
    · rw [if_pos e1]
      rcases ih e2 ht with ⟨g1, g2, g3, g4, g5⟩ | ⟨g1, ⟨m, g2⟩, g3, g4⟩
      · left
        refine ⟨g1, ?_, ?_, ?_, ?_⟩
        · rw [List.append_assoc] at g2; exact g2
        · rw [g3, e3, List.length_cons]; omega
        · rw [g4, e4, List.length_cons]; omega
        · rw [e4] at g5; rw [List.length_cons]; omega
      · right
        refine ⟨g1, ⟨m + 1, ?_⟩, by omega, ?_⟩
        · rw [List.append_assoc] at g2
          simpa [secs] using g2
        · rw [e4] at g4; rw [List.length_cons]; omega
    · right
      rw [if_neg (by rw [e1]; decide)]
      exact ⟨e1, ⟨1, by simpa [secs] using e2⟩, by omega, by rw [List.length_cons]; omega⟩

theorem open_sync {A : Ab} {K : List (List UInt8)} {vs : List (Nat × List UInt8)} (h : Open A K vs) :
    (A.stop ≠ 1 ∧ A.syncErr = 0 ∧ Synced A.sync (over K vs) ∧ A.sync.ops = A.ops + 1 ∧ A.sync.stop = A.stop - 1) ∨
    (A.stop = 1 ∧ A.syncErr = 13 ∧ Gone A.sync K vs) := by
  have e1 : A.syncErr = if A.stop = 1 then 13 else 0 := by
    unfold Ab.syncErr
    rw [h.live, if_neg (by decide), step_power]
  by_cases hs : A.stop = 1
  · right
    have hd : A.step.dead = true := by show (A.stop == 1) = true; rw [hs]; rfl
    have e2 : A.sync = A.step := by unfold Ab.sync; rw [h.live, hd]; rfl
    rw [e1, if_pos hs, e2]
    exact ⟨hs, rfl, h.kept, h.since, hd⟩
  · left
    have hd : A.step.dead = false := by show (A.stop == 1) = false; simpa using hs
    have e2 : A.sync = { A.step with kept := A.now, since := [] } := by unfold Ab.sync; rw [h.live, hd]; rfl
    rw [e1, if_neg hs, e2]
    exact ⟨hs, rfl, ⟨h.now, h.now, rfl, hd⟩, rfl, rfl⟩

/-- A row of Writes and a Sync: all is synced; or the power has gone, and some of the Writes have come. -/
theorem run_phase (ws : List (Nat × List UInt8)) {A : Ab} {K : List (List UInt8)} (h : Synced A K) (hw : okWrites K.length ws) :
    ((A.run ((ws.map fun p => Dop.W p.1 p.2) ++ [Dop.S])).1 = 0 ∧ Synced (A.run ((ws.map fun p => Dop.W p.1 p.2) ++ [Dop.S])).2 (over K (secs ws)) ∧ (A.run ((ws.map fun p => Dop.W p.1 p.2) ++ [Dop.S])).2.ops = A.ops + (ws.length + 1) ∧
      (A.run ((ws.map fun p => Dop.W p.1 p.2) ++ [Dop.S])).2.stop = A.stop - (ws.length + 1) ∧ (A.stop = 0 ∨ ws.length + 1 < A.stop)) ∨
    ((A.run ((ws.map fun p => Dop.W p.1 p.2) ++ [Dop.S])).1 = 13 ∧ (∃ m, Gone (A.run ((ws.map fun p => Dop.W p.1 p.2) ++ [Dop.S])).2 K ((secs ws).take m)) ∧ 1 ≤ A.stop ∧ A.stop ≤ ws.length + 1) := by
  rw [run_append]
  rcases run_writes ws h.open' hw with ⟨g1, g2, g3, g4, g5⟩ | ⟨g1, ⟨m, g2⟩, g3, g4⟩
  · rw [if_pos g1]
    rw [List.nil_append] at g2
    simp only [Ab.run]
    rcases open_sync g2 with ⟨hs, e1, e2, e3, e4⟩ | ⟨hs, e1, e2⟩
    · left
      rw [if_pos e1]
      refine ⟨rfl, e2, by rw [e3, g3]; omega, by rw [e4, g4]; omega, ?_⟩
      rw [g4] at hs; omega
    · right
      rw [if_neg (by rw [e1]; decide)]
      refine ⟨e1, ⟨(secs ws).length, ?_⟩, ?_⟩
      · rw [List.take_length]; exact e2
      · rw [g4] at hs; omega
  · right
    rw [if_neg (by rw [g1]; decide)]
    rw [List.nil_append] at g2
    exact ⟨g1, ⟨m, g2⟩, by omega, by omega⟩

/-- Behind a crash all is synced: what was synced, with some of the Writes over it, in order. -/
theorem Gone.crash {A : Ab} {K : List (List UInt8)} {ws : List (Nat × List UInt8)} (h : Gone A K ws) (keep : List Bool) : ∃ l', l'.Sublist ws ∧ Synced (A.crash keep) (over K l') ∧ (A.crash keep).stop = 0 := by
  obtain ⟨l', h1, h2⟩ := lay_sub K ws keep ws.length (Nat.le_refl _)
  rw [List.take_length] at h1
  refine ⟨l', h1, ⟨?_, ?_, rfl, rfl⟩, rfl⟩
  · show lay A.kept A.since keep A.since.length = _
    rw [h.kept, h.since, h2]
  · show lay A.kept A.since keep A.since.length = _
    rw [h.kept, h.since, h2]
theorem Synced.crash {A : Ab} {K : List (List UInt8)} (h : Synced A K) (keep : List Bool) : Synced (A.crash keep) K ∧ (A.crash keep).stop = 0 := by
  refine ⟨⟨?_, ?_, rfl, rfl⟩, rfl⟩
  · show lay A.kept A.since keep A.since.length = _
    rw [h.kept, h.since]; rfl
  · show lay A.kept A.since keep A.since.length = _
    rw [h.kept, h.since]; rfl
end Go.Proofs.Ytkhdahipnfloeaa
