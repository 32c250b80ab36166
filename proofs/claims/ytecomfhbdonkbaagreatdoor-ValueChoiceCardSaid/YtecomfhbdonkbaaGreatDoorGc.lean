/- Plain4 -/
import Derived.Test.YtecomfhbdonkbaaGreatDoorGb
import Derived.Laws.CopyOwn
namespace Go.Proofs.YtecomfhbdonkbaaGreatDoor
open Go.RowKit
set_option maxRecDepth 100000
section
/-- A slice that owns so many elements. -/
theorem owns_form {w : World} {base : Nat} {e : TypeId} {size : Nat} {v : Value} {n : Nat} {xs : List Value} (h : w.ownsRow base e size v n xs) : ∃ so cap, v = .slice so n cap ∧ n ≤ cap ∧ cap ≤ maxLen := by
  rcases h.2 with ⟨rfl, rfl⟩ | ⟨g, cap, cur, rfl, -, -, h1, h2, -⟩
  · exact ⟨none, 0, rfl, Nat.le_refl _, by simp [maxLen]⟩
  · exact ⟨_, cap, rfl, h1, h2⟩
end
section
/-- What the kept sectors are, behind the first i Writes, those of F done. -/
def laidF (kept : List ByteArray) (l : List (Nat × ByteArray)) (F : Nat → Bool) : Nat → List ByteArray
  | 0 => kept
  | i + 1 => if F i then (laidF kept l F i).set (l.getD i (0, ByteArray.empty)).1 (l.getD i (0, ByteArray.empty)).2 else laidF kept l F i
theorem laidF_length (kept : List ByteArray) (l : List (Nat × ByteArray)) (F : Nat → Bool) (i : Nat) : (laidF kept l F i).length = kept.length := by
  induction i with
  | zero => rfl
  | succ i ih => unfold laidF; split <;> simp [ih]
theorem laidF_snoc (kept : List ByteArray) (l : List (Nat × ByteArray)) (F : Nat → Bool) (q : Nat × ByteArray) (i : Nat) (hi : i ≤ l.length) : laidF kept (l ++ [q]) F i = laidF kept l F i := by
  induction i with
  | zero => rfl
  | succ i ih =>
    have hil : i < l.length := by omega
    unfold laidF
    rw [ih (by omega)]
    simp only [List.getD_eq_getElem?_getD, List.getElem?_append_left hil]
theorem laidF_step (kept : List ByteArray) (l : List (Nat × ByteArray)) (F : Nat → Bool) (i : Nat) (hi : i < l.length) : laidF kept l F (i + 1) = if F i then (laidF kept l F i).set l[i].1 l[i].2 else laidF kept l F i := by
  rw [laidF, List.getD_eq_getElem?_getD, List.getElem?_eq_getElem hi]
  rfl
end
section
/-- The sectors as they are now are the kept ones with all Writes over them. -/
def Okay (s : Dsk) : Prop := s.now = laidF s.kept s.since (fun _ => true) s.since.length
end
section
theorem Okay.len {s : Dsk} (h : Okay s) : s.now.length = s.kept.length := by rw [h, laidF_length]
end
section
end
section
end
section
section
variable {w0 w : World} {X : Nat → Prop} {r x : Nat} {s s' : Dsk}
end
end
section
structure Ab where
  now : List (List UInt8)
  kept : List (List UInt8)
  since : List (Nat × List UInt8)
  ops : Nat
  stop : Nat
  dead : Bool
def abs (s : Dsk) : Ab := ⟨s.now.map pad, s.kept.map pad, s.since.map (fun p => (p.1, pad p.2)), s.ops, s.stop, s.dead⟩
/-- A sector that b is written to. -/
def sec (l : List UInt8) : List UInt8 := l ++ zeros (512 - l.length)
theorem pad_mk (l : List UInt8) : pad ⟨l.toArray⟩ = sec l := by
  rw [pad, sec, show (⟨l.toArray⟩ : ByteArray).size = l.length from by show l.toArray.size = _; simp]
def Ab.fault (A : Ab) (i : Int) : Int := if A.dead then 13 else if 0 ≤ i ∧ i < A.now.length then 0 else 1
def Ab.step (A : Ab) : Ab := { A with ops := A.ops + 1, dead := A.stop == 1, stop := A.stop - 1 }
def Ab.power (A : Ab) : Int := if A.dead then 13 else 0
def Ab.put (A : Ab) (k : Nat) (v : List UInt8) : Ab := { A with now := A.now.set k v, since := A.since ++ [(k, v)] }
def Ab.writeErr (A : Ab) (i : Int) (l : List UInt8) : Int := if A.fault i ≠ 0 then A.fault i else if 512 < l.length then 1 else (A.put i.toNat (sec l)).step.power
def Ab.write (A : Ab) (i : Int) (l : List UInt8) : Ab := if A.fault i = 0 ∧ l.length ≤ 512 then (A.put i.toNat (sec l)).step else A
def Ab.syncErr (A : Ab) : Int := if A.dead then 13 else A.step.power
def Ab.sync (A : Ab) : Ab := if A.dead then A else if A.step.dead then A.step else { A.step with kept := A.now, since := [] }
def Ab.read (A : Ab) (i : Int) : List UInt8 := if A.fault i = 0 then A.now.getD i.toNat [] else []
def Ab.new (n : Nat) : Ab := ⟨List.replicate n (zeros 512), List.replicate n (zeros 512), [], 0, 0, false⟩
theorem abs_len (s : Dsk) : (abs s).now.length = s.now.length := by simp [abs]
theorem abs_fault (s : Dsk) (i : Int) : (abs s).fault i = faultOf s i := by unfold Ab.fault faultOf; rw [abs_len]; rfl
theorem abs_step (s : Dsk) : abs s.step = (abs s).step := rfl
theorem abs_put (s : Dsk) (k : Nat) (l : List UInt8) : abs (s.put k ⟨l.toArray⟩) = (abs s).put k (sec l) := by
  simp [abs, Dsk.put, Ab.put, List.map_set, pad_mk]
theorem abs_writeErr (s : Dsk) (i : Int) (l : List UInt8) : (abs s).writeErr i l = writeErr s i l := by
  unfold Ab.writeErr writeErr
  rw [abs_fault, ← abs_put, ← abs_step]; rfl
theorem abs_write (s : Dsk) (i : Int) (l : List UInt8) : abs (s.write i l) = (abs s).write i l := by
  unfold Ab.write Dsk.write
  rw [abs_fault, ← abs_put, ← abs_step]
  split <;> rfl
theorem abs_syncErr (s : Dsk) : (abs s).syncErr = syncErr s := rfl
theorem abs_sync (s : Dsk) : abs s.sync = (abs s).sync := by
  unfold Ab.sync Dsk.sync
  rw [show (abs s).dead = s.dead from rfl, show (abs s).step.dead = s.step.dead from rfl]
  split
  · rfl
  · split <;> rfl
theorem abs_new (n : Nat) : abs (Dsk.new n) = Ab.new n := by
  simp only [abs, Dsk.new, Ab.new, List.map_replicate, List.map_nil]
  rfl
theorem abs_read (s : Dsk) (i : Int) : (abs s).read i = readOf s i := by
  unfold Ab.read readOf
  rw [abs_fault]
  by_cases h : faultOf s i = 0
  · rw [if_pos h, if_pos h]
    have hi : i.toNat < s.now.length := by
      unfold faultOf at h
      split at h
      · simp at h
      · split at h
        · omega
        · simp at h
    simp [abs, sect, hi]
  · rw [if_neg h, if_neg h]
theorem Okay.step {s : Dsk} (h : Okay s) : Okay s.step := h
theorem Okay.put {s : Dsk} (h : Okay s) (a : Nat) (b : ByteArray) : Okay (s.put a b) := by
  show s.now.set a b = laidF s.kept (s.since ++ [(a, b)]) (fun _ => true) (s.since ++ [(a, b)]).length
  rw [List.length_append, List.length_singleton, laidF_step _ _ _ _ (by simp), if_pos rfl, laidF_snoc _ _ _ _ _ (Nat.le_refl _), ← h]
  simp
theorem Okay.write {s : Dsk} (h : Okay s) (i : Int) (l : List UInt8) : Okay (s.write i l) := by
  unfold Dsk.write
  split
  · exact (h.put _ _).step
  · exact h
theorem Okay.sync {s : Dsk} (h : Okay s) : Okay s.sync := by
  unfold Dsk.sync
  split
  · exact h
  · split
    · exact h.step
    · rfl
theorem Okay.new (n : Nat) : Okay (Dsk.new n) := rfl
/-- What the calls need of its numbers. -/
def Small (A : Ab) (k : Nat) : Prop := A.ops ≤ k ∧ A.since.length ≤ k ∧ A.stop ≤ 1073741824
section
variable {w w1 : World} {P : Nat → Prop} {r : Nat} {A : Ab}
end
section
variable {w w1 : World} {Q : Nat → Prop} {x : Nat} {A : Ab}
end
end
section
/-- Sectors with others laid over them. -/
def over (K : List (List UInt8)) (l : List (Nat × List UInt8)) : List (List UInt8) := l.foldl (fun k p => k.set p.1 p.2) K
theorem over_nil (K : List (List UInt8)) : over K [] = K := rfl
theorem over_cons (K : List (List UInt8)) (p : Nat × List UInt8) (l : List (Nat × List UInt8)) : over K (p :: l) = over (K.set p.1 p.2) l := rfl
theorem over_append (K : List (List UInt8)) (l m : List (Nat × List UInt8)) : over K (l ++ m) = over (over K l) m := by unfold over; rw [List.foldl_append]
theorem over_length (K : List (List UInt8)) (l : List (Nat × List UInt8)) : (over K l).length = K.length := by
  induction l generalizing K with
  | nil => rfl
  | cons p t ih => rw [over_cons, ih, List.length_set]
theorem over_other (K : List (List UInt8)) (l : List (Nat × List UInt8)) (j : Nat) (h : ∀ p ∈ l, p.1 ≠ j) : (over K l)[j]? = K[j]? := by
  induction l generalizing K with
  | nil => rfl
  | cons p t ih => rw [over_cons, ih _ (fun q hq => h q (List.mem_cons_of_mem _ hq)), List.getElem?_set_ne (h p (List.mem_cons_self ..))]
theorem over_mem (K : List (List UInt8)) (l : List (Nat × List UInt8)) (hn : (l.map (·.1)).Nodup) (j : Nat) (v : List UInt8) (h : (j, v) ∈ l) (hj : j < K.length) : (over K l)[j]? = some v := by
  induction l generalizing K with
  | nil => simp at h
  | cons p t ih =>
    rw [List.map_cons, List.nodup_cons] at hn
    rw [over_cons]
    rcases List.mem_cons.1 h with h | h
    · subst h
      rw [over_other _ _ _ (fun q hq e => hn.1 (List.mem_map.2 ⟨q, hq, e⟩)), List.getElem?_set_self hj]
    · exact ih _ hn.2 h (by rw [List.length_set]; exact hj)
inductive Dop where
  | W (i : Nat) (b : List UInt8)
  | S
/-- One behind the other, till one answers an error. -/
def Ab.run : Ab → List Dop → Int × Ab
  | A, [] => (0, A)
  | A, .W i b :: t => if A.writeErr i b = 0 then (A.write i b).run t else (A.writeErr i b, A.write i b)
  | A, .S :: t => if A.syncErr = 0 then A.sync.run t else (A.syncErr, A.sync)
theorem run_append (A : Ab) (xs ys : List Dop) : A.run (xs ++ ys) = if (A.run xs).1 = 0 then (A.run xs).2.run ys else A.run xs := by
  induction xs generalizing A with
  | nil => simp [Ab.run]
  | cons o t ih =>
    cases o with
    | W i b =>
      simp only [List.cons_append, Ab.run]
      split
      · exact ih _
      · rfl
    | S =>
      simp only [List.cons_append, Ab.run]
      split
      · exact ih _
      · rfl
/-- All that was written is synced. -/
structure Synced (A : Ab) (K : List (List UInt8)) : Prop where
  now : A.now = K
  kept : A.kept = K
  since : A.since = []
  live : A.dead = false
/-- Of what was synced, K, the Writes ws have come since. -/
structure Open (A : Ab) (K : List (List UInt8)) (ws : List (Nat × List UInt8)) : Prop where
  now : A.now = over K ws
  kept : A.kept = K
  since : A.since = ws
  live : A.dead = false
/-- The power has gone. -/
structure Gone (A : Ab) (K : List (List UInt8)) (ws : List (Nat × List UInt8)) : Prop where
  kept : A.kept = K
  since : A.since = ws
  dead : A.dead = true
theorem Synced.open' {A : Ab} {K : List (List UInt8)} (h : Synced A K) : Open A K [] := ⟨h.now, h.kept, h.since, h.live⟩
theorem step_power (A : Ab) : A.step.power = if A.stop = 1 then 13 else 0 := by
  show (if (A.stop == 1) = true then (13 : Int) else 0) = _
  by_cases h : A.stop = 1
  · rw [h]; rfl
  · rw [if_neg (by simpa using h), if_neg h]
/-- Two by two: the secs of a row of Writes. -/
def secs (ws : List (Nat × List UInt8)) : List (Nat × List UInt8) := ws.map fun p => (p.1, sec p.2)
def okWrites (n : Nat) (ws : List (Nat × List UInt8)) : Prop := ∀ p ∈ ws, p.1 < n ∧ p.2.length ≤ 512
theorem open_write {A : Ab} {K : List (List UInt8)} {vs : List (Nat × List UInt8)} (h : Open A K vs) (i : Nat) (b : List UInt8) (hi : i < K.length) (hb : b.length ≤ 512) :
    (A.stop ≠ 1 ∧ A.writeErr i b = 0 ∧ Open (A.write i b) K (vs ++ [(i, sec b)]) ∧ (A.write i b).ops = A.ops + 1 ∧ (A.write i b).stop = A.stop - 1) ∨
    (A.stop = 1 ∧ A.writeErr i b = 13 ∧ Gone (A.write i b) K (vs ++ [(i, sec b)])) := by
  have hf : A.fault i = 0 := by
    unfold Ab.fault
    rw [h.live, h.now, over_length, if_neg (by decide), if_pos (by omega)]
  have e1 : A.writeErr i b = if A.stop = 1 then 13 else 0 := by
    unfold Ab.writeErr
    rw [if_neg (fun h' => h' hf), if_neg (by omega), step_power]
    rfl
  have e2 : A.write i b = (A.put i (sec b)).step := by
    unfold Ab.write
    rw [if_pos ⟨hf, hb⟩, Int.toNat_natCast]
  have e3 : (A.put i (sec b)).now = over K (vs ++ [(i, sec b)]) := by
    show A.now.set i (sec b) = _
    rw [h.now, over_append]; rfl
  have e4 : (A.put i (sec b)).since = vs ++ [(i, sec b)] := by
    show A.since ++ _ = _
    rw [h.since]
  by_cases hs : A.stop = 1
  · right
    rw [e1, if_pos hs, e2]
    exact ⟨hs, rfl, h.kept, e4, by show (A.stop == 1) = true; rw [hs]; rfl⟩
  · left
    rw [e1, if_neg hs, e2]
    exact ⟨hs, rfl, ⟨e3, h.kept, e4, by show (A.stop == 1) = false; simpa using hs⟩, rfl, rfl⟩
/-- A row of Writes: all are done, or the power goes at one of them. -/
theorem run_writes (ws : List (Nat × List UInt8)) : ∀ {A : Ab} {K : List (List UInt8)} {vs : List (Nat × List UInt8)} (_ : Open A K vs) (_ : okWrites K.length ws),
    ((A.run (ws.map fun p => Dop.W p.1 p.2)).1 = 0 ∧ Open (A.run (ws.map fun p => Dop.W p.1 p.2)).2 K (vs ++ secs ws) ∧ (A.run (ws.map fun p => Dop.W p.1 p.2)).2.ops = A.ops + ws.length ∧ (A.run (ws.map fun p => Dop.W p.1 p.2)).2.stop = A.stop - ws.length ∧ (A.stop = 0 ∨ ws.length < A.stop)) ∨
    ((A.run (ws.map fun p => Dop.W p.1 p.2)).1 = 13 ∧ (∃ m, Gone (A.run (ws.map fun p => Dop.W p.1 p.2)).2 K (vs ++ (secs ws).take m)) ∧ 1 ≤ A.stop ∧ A.stop ≤ ws.length) := by
  induction ws with
  | nil =>
    intro A K vs h _
    left
    refine ⟨rfl, by simpa [secs, Ab.run] using h, rfl, rfl, ?_⟩
    rw [List.length_nil]; omega
  | cons p t ih =>
    intro A K vs h hw
    have hp := hw p (List.mem_cons_self ..)
    have ht : okWrites K.length t := fun q hq => hw q (List.mem_cons_of_mem _ hq)
    simp only [List.map_cons, Ab.run]
    rcases open_write h p.1 p.2 hp.1 hp.2 with ⟨hs, e1, e2, e3, e4⟩ | ⟨hs, e1, e2⟩
    · rw [if_pos e1]
      rcases ih e2 ht with ⟨g1, g2, g3, g4, g5⟩ | ⟨g1, ⟨m, g2⟩, g3, g4⟩
      · left
        refine ⟨g1, ?_, ?_, ?_, ?_⟩
        · rw [List.append_assoc] at g2; exact g2
        · rw [g3, e3, List.length_cons]; omega
        · rw [g4, e4, List.length_cons]; omega
        · rw [e4] at g5; rw [List.length_cons]; omega
      · right
        refine ⟨g1, ⟨m + 1, ?_⟩, by omega, ?_⟩
        · rw [List.append_assoc] at g2
          simpa [secs] using g2
        · rw [e4] at g4; rw [List.length_cons]; omega
    · right
      rw [if_neg (by rw [e1]; decide)]
      exact ⟨e1, ⟨1, by simpa [secs] using e2⟩, by omega, by rw [List.length_cons]; omega⟩
theorem open_sync {A : Ab} {K : List (List UInt8)} {vs : List (Nat × List UInt8)} (h : Open A K vs) :
    (A.stop ≠ 1 ∧ A.syncErr = 0 ∧ Synced A.sync (over K vs) ∧ A.sync.ops = A.ops + 1 ∧ A.sync.stop = A.stop - 1) ∨
    (A.stop = 1 ∧ A.syncErr = 13 ∧ Gone A.sync K vs) := by
  have e1 : A.syncErr = if A.stop = 1 then 13 else 0 := by
    unfold Ab.syncErr
    rw [h.live, if_neg (by decide), step_power]
  by_cases hs : A.stop = 1
  · right
    have hd : A.step.dead = true := by show (A.stop == 1) = true; rw [hs]; rfl
    have e2 : A.sync = A.step := by unfold Ab.sync; rw [h.live, hd]; rfl
    rw [e1, if_pos hs, e2]
    exact ⟨hs, rfl, h.kept, h.since, hd⟩
  · left
    have hd : A.step.dead = false := by show (A.stop == 1) = false; simpa using hs
    have e2 : A.sync = { A.step with kept := A.now, since := [] } := by unfold Ab.sync; rw [h.live, hd]; rfl
    rw [e1, if_neg hs, e2]
    exact ⟨hs, rfl, ⟨h.now, h.now, rfl, hd⟩, rfl, rfl⟩
/-- A row of Writes and a Sync: all is synced; or the power has gone, and some of the Writes have come. -/
theorem run_phase (ws : List (Nat × List UInt8)) {A : Ab} {K : List (List UInt8)} (h : Synced A K) (hw : okWrites K.length ws) :
    ((A.run ((ws.map fun p => Dop.W p.1 p.2) ++ [Dop.S])).1 = 0 ∧ Synced (A.run ((ws.map fun p => Dop.W p.1 p.2) ++ [Dop.S])).2 (over K (secs ws)) ∧ (A.run ((ws.map fun p => Dop.W p.1 p.2) ++ [Dop.S])).2.ops = A.ops + (ws.length + 1) ∧
      (A.run ((ws.map fun p => Dop.W p.1 p.2) ++ [Dop.S])).2.stop = A.stop - (ws.length + 1) ∧ (A.stop = 0 ∨ ws.length + 1 < A.stop)) ∨
    ((A.run ((ws.map fun p => Dop.W p.1 p.2) ++ [Dop.S])).1 = 13 ∧ (∃ m, Gone (A.run ((ws.map fun p => Dop.W p.1 p.2) ++ [Dop.S])).2 K ((secs ws).take m)) ∧ 1 ≤ A.stop ∧ A.stop ≤ ws.length + 1) := by
  rw [run_append]
  rcases run_writes ws h.open' hw with ⟨g1, g2, g3, g4, g5⟩ | ⟨g1, ⟨m, g2⟩, g3, g4⟩
  · rw [if_pos g1]
    rw [List.nil_append] at g2
    simp only [Ab.run]
    rcases open_sync g2 with ⟨hs, e1, e2, e3, e4⟩ | ⟨hs, e1, e2⟩
    · left
      rw [if_pos e1]
      refine ⟨rfl, e2, by rw [e3, g3]; omega, by rw [e4, g4]; omega, ?_⟩
      rw [g4] at hs; omega
    · right
      rw [if_neg (by rw [e1]; decide)]
      refine ⟨e1, ⟨(secs ws).length, ?_⟩, ?_⟩
      · rw [List.take_length]; exact e2
      · rw [g4] at hs; omega
  · right
    rw [if_neg (by rw [g1]; decide)]
    rw [List.nil_append] at g2
    exact ⟨g1, ⟨m, g2⟩, by omega, by omega⟩
end
section
def magic : List UInt8 := [84, 82, 73, 65, 68, 76, 79, 71]
def page (b : List UInt8) : List UInt8 := b ++ zeros (504 - b.length)
theorem page_length (b : List UInt8) (h : b.length ≤ 504) : (page b).length = 504 := by rw [page, List.length_append, zeros_length]; omega
abbrev Pages := List (Int × List UInt8)
def okPages (size : Nat) (l : Pages) : Bool := l.all (fun p => decide (401 ≤ p.1) && decide (p.1 < size) && decide (p.2.length ≤ 504)) && decide (l.map (·.1)).Nodup
def fitsOf (size : Nat) (l : Pages) : Int := if l.length = 0 then 1 else if 400 < l.length then 4 else if okPages size l then 0 else 1
def bodyWs : Nat → Pages → List (Nat × List UInt8)
  | _, [] => []
  | k, p :: t => (k, le p.1 8 ++ page p.2) :: bodyWs (k + 1) t
def homeWs (l : Pages) : List (Nat × List UInt8) := l.map fun p => (p.1.toNat, page p.2)
def headOf (n : Nat) : List UInt8 := magic ++ le n 8
/-- A row of Writes, and a Sync. -/
def ph (ws : List (Nat × List UInt8)) : List Dop := (ws.map fun p => Dop.W p.1 p.2) ++ [Dop.S]
def homesOps (l : Pages) : List Dop := ph (homeWs l) ++ ph [(0, [])]
def commitOps (l : Pages) : List Dop := ph (bodyWs 1 l) ++ (ph [(0, headOf l.length)] ++ homesOps l)
def Ab.commit (A : Ab) (l : Pages) : Int × Ab := if fitsOf A.now.length l = 0 then A.run (commitOps l) else (fitsOf A.now.length l, A)
def cntOf (h : List UInt8) : Int := wrap64 (num ((h.drop 8).take 8))
def isLog (size : Nat) (h : List UInt8) : Prop := h.take 8 = magic ∧ 1 ≤ cntOf h ∧ cntOf h ≤ 400 ∧ cntOf h < size
instance (size : Nat) (h : List UInt8) : Decidable (isLog size h) := by unfold isLog; infer_instance
def atOf (s : List UInt8) : Int := wrap64 (num (s.take 8))
def pagesOf (K : List (List UInt8)) : Nat → Option Pages
  | 0 => some []
  | i + 1 => match pagesOf K i with
    | none => none
    | some l => if 401 ≤ atOf (K.getD (1 + i) []) ∧ atOf (K.getD (1 + i) []) < K.length then some (l ++ [(atOf (K.getD (1 + i) []), (K.getD (1 + i) []).drop 8)]) else none
def Ab.recover (A : Ab) : Int × Int × Ab :=
  if A.fault 0 ≠ 0 then (0, A.fault 0, A)
  else if isLog A.now.length (A.now.getD 0 []) then
    match pagesOf A.now (cntOf (A.now.getD 0 [])).toNat with
    | none => (0, 9, A)
    | some l => if (A.run (homesOps l)).1 = 0 then (cntOf (A.now.getD 0 []), 0, (A.run (homesOps l)).2) else (0, (A.run (homesOps l)).1, (A.run (homesOps l)).2)
  else (0, 0, A)
theorem run_ph (ws : List (Nat × List UInt8)) (rest : List Dop) {A : Ab} {K : List (List UInt8)} (h : Synced A K) (hw : okWrites K.length ws) :
    (∃ A', Synced A' (over K (secs ws)) ∧ A'.ops = A.ops + (ws.length + 1) ∧ A'.stop = A.stop - (ws.length + 1) ∧ A.run (ph ws ++ rest) = A'.run rest) ∨
    ((A.run (ph ws ++ rest)).1 = 13 ∧ (∃ m, Gone (A.run (ph ws ++ rest)).2 K ((secs ws).take m)) ∧ 1 ≤ A.stop) := by
  rw [run_append]
  rcases run_phase ws h hw with ⟨g1, g2, g3, g4, -⟩ | ⟨g1, g2, g3, -⟩
  · left
    exact ⟨_, g2, g3, g4, by rw [ph, if_pos g1]⟩
  · right
    rw [ph, if_neg (by rw [g1]; decide)]
    exact ⟨g1, g2, g3⟩
structure Pagess (n : Nat) (l : Pages) : Prop where
  some' : l.length ≠ 0
  most : l.length ≤ 400
  ok : ∀ p ∈ l, 401 ≤ p.1 ∧ p.1 < n ∧ p.2.length ≤ 504
  nodup : (l.map (·.1)).Nodup
theorem fits_iff (n : Nat) (l : Pages) : fitsOf n l = 0 ↔ Pagess n l := by
  unfold fitsOf
  constructor
  · intro h
    split at h
    · simp at h
    · split at h
      · simp at h
      · split at h
        · rename_i h1 h2 h3
          simp only [okPages, Bool.and_eq_true, List.all_eq_true, decide_eq_true_eq] at h3
          exact ⟨h1, by omega, fun p hp => ⟨(h3.1 p hp).1.1, (h3.1 p hp).1.2, (h3.1 p hp).2⟩, h3.2⟩
        · simp at h
  · intro h
    rw [if_neg h.some', if_neg (by have := h.most; omega), if_pos]
    simp only [okPages, Bool.and_eq_true, List.all_eq_true, decide_eq_true_eq]
    exact ⟨fun p hp => ⟨⟨(h.ok p hp).1, (h.ok p hp).2.1⟩, (h.ok p hp).2.2⟩, h.nodup⟩
/-- No log, and the homes are H's. -/
structure Before (K H : List (List UInt8)) : Prop where
  len : K.length = H.length
  head : K[0]? = some (zeros 512)
  homes : ∀ j : Nat, 401 ≤ j → K[j]? = H[j]?
/-- A log of l; the homes that it does not have are H's. -/
structure Logged (K H : List (List UInt8)) (l : Pages) : Prop where
  len : K.length = H.length
  head : K[0]? = some (sec (headOf l.length))
  body : ∀ i (h : i < l.length), K[1 + i]? = some (sec (le l[i].1 8 ++ page l[i].2))
  homes : ∀ j : Nat, 401 ≤ j → (∀ p ∈ l, p.1 ≠ (j : Int)) → K[j]? = H[j]?
/-- No log, and the homes are l's, the others H's. -/
structure After (K H : List (List UInt8)) (l : Pages) : Prop where
  len : K.length = H.length
  head : K[0]? = some (zeros 512)
  mine : ∀ p ∈ l, K[p.1.toNat]? = some (sec (page p.2))
  homes : ∀ j : Nat, 401 ≤ j → (∀ p ∈ l, p.1 ≠ (j : Int)) → K[j]? = H[j]?
theorem bodyWs_pos (k : Nat) (l : Pages) : ∀ p ∈ bodyWs k l, k ≤ p.1 ∧ p.1 < k + l.length := by
  induction l generalizing k with
  | nil => intro p hp; simp [bodyWs] at hp
  | cons q t ih =>
    intro p hp
    rcases List.mem_cons.1 hp with rfl | hp
    · simp
    · have := ih (k + 1) p hp
      rw [List.length_cons]; omega
theorem bodyWs_nodup (k : Nat) (l : Pages) : ((bodyWs k l).map (·.1)).Nodup := by
  induction l generalizing k with
  | nil => simp [bodyWs]
  | cons q t ih =>
    rw [bodyWs, List.map_cons, List.nodup_cons]
    refine ⟨fun h => ?_, ih _⟩
    obtain ⟨p, hp, e⟩ := List.mem_map.1 h
    have := (bodyWs_pos (k + 1) t p hp).1
    simp only at e
    omega
theorem bodyWs_mem (k : Nat) (l : Pages) (i : Nat) (hi : i < l.length) : (k + i, le l[i].1 8 ++ page l[i].2) ∈ bodyWs k l := by
  induction l generalizing k i with
  | nil => simp at hi
  | cons q t ih =>
    cases i with
    | zero => simp [bodyWs]
    | succ i =>
      have := ih (k + 1) i (by simpa using hi)
      rw [bodyWs]
      refine List.mem_cons_of_mem _ ?_
      rw [show k + (i + 1) = k + 1 + i by omega]
      simpa using this
theorem bodyWs_short (k : Nat) (l : Pages) (h : ∀ p ∈ l, p.2.length ≤ 504) : ∀ p ∈ bodyWs k l, p.2.length = 512 := by
  induction l generalizing k with
  | nil => intro p hp; simp [bodyWs] at hp
  | cons q t ih =>
    intro p hp
    rcases List.mem_cons.1 hp with rfl | hp
    · rw [List.length_append, le_length, page_length _ (h q (List.mem_cons_self ..))]
    · exact ih (k + 1) (fun r hr => h r (List.mem_cons_of_mem _ hr)) p hp
theorem bodyWs_length (k : Nat) (l : Pages) : (bodyWs k l).length = l.length := by
  induction l generalizing k with
  | nil => rfl
  | cons q t ih => rw [bodyWs, List.length_cons, ih, List.length_cons]
theorem secs_pos {ws : List (Nat × List UInt8)} {P : Nat → Prop} (h : ∀ p ∈ ws, P p.1) : ∀ p ∈ secs ws, P p.1 := by
  intro p hp
  obtain ⟨q, hq, rfl⟩ := List.mem_map.1 hp
  exact h q hq
theorem secs_keys (ws : List (Nat × List UInt8)) : (secs ws).map (·.1) = ws.map (·.1) := by
  unfold secs; rw [List.map_map]; rfl
theorem before_over {K H : List (List UInt8)} (h : Before K H) (l' : List (Nat × List UInt8)) (hp : ∀ p ∈ l', 1 ≤ p.1 ∧ p.1 ≤ 400) : Before (over K l') H := by
  refine ⟨by rw [over_length, h.len], ?_, fun j hj => ?_⟩
  · rw [over_other _ _ _ (fun p hp' => by have := (hp p hp').1; omega)]; exact h.head
  · rw [over_other _ _ _ (fun p hp' => by have := (hp p hp').2; omega)]; exact h.homes j hj
theorem okBody {n : Nat} {l : Pages} (h : Pagess n l) : okWrites n (bodyWs 1 l) := by
  intro p hp
  have h1 := bodyWs_pos 1 l p hp
  have h2 := bodyWs_short 1 l (fun q hq => (h.ok q hq).2.2) p hp
  have h3 := h.most
  obtain ⟨q, hq⟩ : ∃ q, q ∈ l := by
    cases l with
    | nil => exact absurd rfl h.some'
    | cons q t => exact ⟨q, List.mem_cons_self ..⟩
  have h4 := h.ok q hq
  exact ⟨by omega, by omega⟩
theorem Pagess.size {n : Nat} {l : Pages} (h : Pagess n l) : 402 ≤ n := by
  obtain ⟨q, hq⟩ : ∃ q, q ∈ l := by
    cases l with
    | nil => exact absurd rfl h.some'
    | cons q t => exact ⟨q, List.mem_cons_self ..⟩
  have h4 := h.ok q hq
  omega
theorem okHomes {n : Nat} {l : Pages} (h : Pagess n l) : okWrites n (homeWs l) := by
  intro p hp
  obtain ⟨q, hq, rfl⟩ := List.mem_map.1 hp
  have h4 := h.ok q hq
  exact ⟨by show q.1.toNat < n; omega, by show (page q.2).length ≤ 512; rw [page_length _ h4.2.2]; omega⟩
theorem headOf_length (n : Nat) : (headOf n).length = 16 := by rw [headOf, List.length_append, le_length]; rfl
theorem Before.logged {K H : List (List UInt8)} {l : Pages} (h : Before K H) (hl : Pagess K.length l) (hb : ∀ i (hi : i < l.length), K[1 + i]? = some (sec (le l[i].1 8 ++ page l[i].2))) : Logged (over K [(0, sec (headOf l.length))]) H l := by
  have h402 := hl.size
  refine ⟨by rw [over_length, h.len], ?_, fun i hi => ?_, fun j hj _ => ?_⟩
  · rw [over_cons, over_nil, List.getElem?_set_self (by omega)]
  · rw [over_other _ _ _ (fun p hp => by simp at hp; subst hp; show 0 ≠ _; omega)]; exact hb i hi
  · rw [over_other _ _ _ (fun p hp => by simp at hp; subst hp; show 0 ≠ _; omega)]; exact h.homes j hj
theorem homeWs_pos {n : Nat} {l : Pages} (h : Pagess n l) : ∀ p ∈ homeWs l, 401 ≤ p.1 ∧ ∃ q ∈ l, q.1 = (p.1 : Int) := by
  intro p hp
  obtain ⟨q, hq, rfl⟩ := List.mem_map.1 hp
  have h4 := h.ok q hq
  exact ⟨by show 401 ≤ q.1.toNat; omega, q, hq, by show q.1 = (q.1.toNat : Int); omega⟩
theorem homeWs_nodup {n : Nat} {l : Pages} (h : Pagess n l) : ((homeWs l).map (·.1)).Nodup := by
  have e : (homeWs l).map (·.1) = (l.map (·.1)).map Int.toNat := by unfold homeWs; rw [List.map_map, List.map_map]; rfl
  rw [e]
  have g : ∀ m : List Int, (∀ a ∈ m, 401 ≤ a) → m.Nodup → (m.map Int.toNat).Nodup := by
    intro m
    induction m with
    | nil => intro _ _; simp
    | cons a t ih =>
      intro hm hn
      rw [List.nodup_cons] at hn
      rw [List.map_cons, List.nodup_cons]
      refine ⟨fun hin => ?_, ih (fun b hb => hm b (List.mem_cons_of_mem _ hb)) hn.2⟩
      obtain ⟨b, hb, e⟩ := List.mem_map.1 hin
      have h1 := hm a (List.mem_cons_self ..)
      have h2 := hm b (List.mem_cons_of_mem _ hb)
      have : b = a := by omega
      subst this
      exact hn.1 hb
  refine g _ (fun a ha => ?_) h.nodup
  obtain ⟨p, hp, rfl⟩ := List.mem_map.1 ha
  exact (h.ok p hp).1
theorem logged_over {n : Nat} {K H : List (List UInt8)} {l : Pages} (h : Logged K H l) (hl : Pagess n l) (l' : List (Nat × List UInt8)) (hp : ∀ p ∈ l', 401 ≤ p.1 ∧ ∃ q ∈ l, q.1 = (p.1 : Int)) : Logged (over K l') H l := by
  have hm := hl.most
  refine ⟨by rw [over_length, h.len], ?_, fun i hi => ?_, fun j hj hne => ?_⟩
  · rw [over_other _ _ _ (fun p hp' => by have := (hp p hp').1; omega)]; exact h.head
  · rw [over_other _ _ _ (fun p hp' => by have := (hp p hp').1; omega)]; exact h.body i hi
  · rw [over_other _ _ _ (fun p hp' e => by
      obtain ⟨-, q, hq, e'⟩ := hp p hp'
      exact hne q hq (by rw [e', e]))]
    exact h.homes j hj hne
theorem Logged.after {K H : List (List UInt8)} {l : Pages} (h : Logged K H l) (hl : Pagess K.length l) (hm : ∀ p ∈ l, K[p.1.toNat]? = some (sec (page p.2))) : After (over K [(0, sec [])]) H l := by
  have h402 := hl.size
  have e0 : ∀ j, 401 ≤ j → (over K [(0, sec [])])[j]? = K[j]? := fun j hj => over_other _ _ _ (fun p hp => by simp at hp; subst hp; show 0 ≠ _; omega)
  refine ⟨by rw [over_length, h.len], ?_, fun p hp => ?_, fun j hj hne => ?_⟩
  · rw [over_cons, over_nil, List.getElem?_set_self (by omega)]; rfl
  · rw [e0 _ (by have := (hl.ok p hp).1; omega)]; exact hm p hp
  · rw [e0 j hj]; exact h.homes j hj hne
end
section
theorem sub_one {α : Type} {x : α} {l' : List α} {m : Nat} (h : l'.Sublist (([x] : List α).take m)) : l' = [] ∨ l' = [x] := by
  have h' := h.trans (List.take_sublist _ _)
  cases l' with
  | nil => exact .inl rfl
  | cons y t =>
    right
    have h1 := h'.length_le
    simp at h1
    subst h1
    have := h'.subset (List.mem_cons_self ..)
    simp at this
    rw [this]
theorem secs_head (n : Nat) : secs [(0, headOf n)] = [(0, sec (headOf n))] := rfl
/-- What a phase that was broken off leaves: some of its Writes. -/
theorem homes_out {A : Ab} {K H : List (List UInt8)} {l : Pages} (hS : Synced A K) (hL : Logged K H l) (hl : Pagess K.length l) :
    ((A.run (homesOps l)).1 = 0 ∧ (∃ K', Synced (A.run (homesOps l)).2 K' ∧ After K' H l) ∧ (A.run (homesOps l)).2.ops = A.ops + (l.length + 3) ∧ (A.run (homesOps l)).2.stop = A.stop - (l.length + 3)) ∨
    ((A.run (homesOps l)).1 = 13 ∧ (∃ K0 ws, Gone (A.run (homesOps l)).2 K0 ws ∧ ∀ l', l'.Sublist ws → Logged (over K0 l') H l ∨ After (over K0 l') H l) ∧ 1 ≤ A.stop) := by
  have hpos := secs_pos (P := fun i => 401 ≤ i ∧ ∃ q ∈ l, q.1 = (i : Int)) (homeWs_pos hl)
  have hlw : (homeWs l).length = l.length := by simp [homeWs]
  rcases run_ph (homeWs l) (ph [(0, [])]) hS (okHomes hl) with ⟨A1, s1, o1, t1, e1⟩ | ⟨g1, ⟨m, g2⟩, g3⟩
  · have hL1 : Logged (over K (secs (homeWs l))) H l := logged_over hL hl _ hpos
    have hl1 : Pagess (over K (secs (homeWs l))).length l := by rw [over_length]; exact hl
    have hmine : ∀ p ∈ l, (over K (secs (homeWs l)))[p.1.toNat]? = some (sec (page p.2)) := by
      intro p hp
      refine over_mem _ _ (by rw [secs_keys]; exact homeWs_nodup hl) _ _ (List.mem_map.2 ⟨(p.1.toNat, page p.2), List.mem_map.2 ⟨p, hp, rfl⟩, rfl⟩) ?_
      have := hl.ok p hp
      omega
    have hA := hL1.after hl1 hmine
    have hk : okWrites (over K (secs (homeWs l))).length [(0, [])] := by
      intro p hp
      simp at hp; subst hp
      exact ⟨by have := hl1.size; show 0 < _; omega, by simp⟩
    rw [show homesOps l = ph (homeWs l) ++ ph [(0, [])] from rfl, e1]
    rcases run_ph [(0, [])] [] s1 hk with ⟨A2, s2, o2, t2, e2⟩ | ⟨g1, ⟨m, g2⟩, g3⟩
    · left
      rw [List.append_nil] at e2
      rw [e2]
      refine ⟨rfl, ⟨_, s2, hA⟩, ?_, ?_⟩
      · show A2.ops = _
        rw [o2, o1, hlw]; simp; omega
      · show A2.stop = _
        rw [t2, t1, hlw]; simp; omega
    · right
      rw [List.append_nil] at g1 g2
      refine ⟨g1, ⟨_, _, g2, fun l' hl' => ?_⟩, by omega⟩
      rcases sub_one hl' with rfl | rfl
      · exact .inl hL1
      · exact .inr hA
  · right
    refine ⟨g1, ⟨_, _, g2, fun l' hl' => .inl (logged_over hL hl _ fun p hp => hpos p ?_)⟩, g3⟩
    exact (hl'.trans (List.take_sublist _ _)).subset hp
theorem commit_out {A : Ab} {K H : List (List UInt8)} {l : Pages} (hS : Synced A K) (hB : Before K H) (hl : Pagess K.length l) :
    ((A.run (commitOps l)).1 = 0 ∧ (∃ K', Synced (A.run (commitOps l)).2 K' ∧ After K' H l) ∧ (A.run (commitOps l)).2.ops = A.ops + (2 * l.length + 6) ∧ (A.run (commitOps l)).2.stop = A.stop - (2 * l.length + 6)) ∨
    ((A.run (commitOps l)).1 = 13 ∧ (∃ K0 ws, Gone (A.run (commitOps l)).2 K0 ws ∧ ∀ l', l'.Sublist ws → Before (over K0 l') H ∨ Logged (over K0 l') H l ∨ After (over K0 l') H l) ∧ 1 ≤ A.stop) := by
  have h4 := hl.most
  have hpos := secs_pos (P := fun i => 1 ≤ i ∧ i ≤ 400) (fun p hp => by have := bodyWs_pos 1 l p hp; omega)
  have hlw := bodyWs_length 1 l
  rcases run_ph (bodyWs 1 l) (ph [(0, headOf l.length)] ++ homesOps l) hS (okBody hl) with ⟨A1, s1, o1, t1, e1⟩ | ⟨g1, ⟨m, g2⟩, g3⟩
  · have hB1 : Before (over K (secs (bodyWs 1 l))) H := before_over hB _ hpos
    have hl1 : Pagess (over K (secs (bodyWs 1 l))).length l := by rw [over_length]; exact hl
    have hbody : ∀ i (hi : i < l.length), (over K (secs (bodyWs 1 l)))[1 + i]? = some (sec (le l[i].1 8 ++ page l[i].2)) := by
      intro i hi
      refine over_mem _ _ (by rw [secs_keys]; exact bodyWs_nodup 1 l) _ _ (List.mem_map.2 ⟨_, bodyWs_mem 1 l i hi, rfl⟩) ?_
      have := hl.size
      omega
    have hL := hB1.logged hl1 hbody
    have hl2 : Pagess (over (over K (secs (bodyWs 1 l))) [(0, sec (headOf l.length))]).length l := by rw [over_length]; exact hl1
    have hk : okWrites (over K (secs (bodyWs 1 l))).length [(0, headOf l.length)] := by
      intro p hp
      simp at hp; subst hp
      exact ⟨by have := hl1.size; show 0 < _; omega, by rw [headOf_length]; omega⟩
    rw [show commitOps l = ph (bodyWs 1 l) ++ (ph [(0, headOf l.length)] ++ homesOps l) from rfl, e1]
    rcases run_ph [(0, headOf l.length)] (homesOps l) s1 hk with ⟨A2, s2, o2, t2, e2⟩ | ⟨g1, ⟨m, g2⟩, g3⟩
    · rw [e2]
      rcases homes_out s2 hL hl2 with ⟨q1, q2, q3, q4⟩ | ⟨q1, ⟨K0, ws, q2, q3⟩, q4⟩
      · left
        refine ⟨q1, q2, ?_, ?_⟩
        · rw [q3, o2, o1, hlw]; simp; omega
        · rw [q4, t2, t1, hlw]; simp; omega
      · right
        exact ⟨q1, ⟨K0, ws, q2, fun l' hl' => .inr (q3 l' hl')⟩, by omega⟩
    · right
      refine ⟨g1, ⟨_, _, g2, fun l' hl' => ?_⟩, by omega⟩
      rw [secs_head] at hl'
      rcases sub_one hl' with rfl | rfl
      · exact .inl hB1
      · exact .inr (.inl hL)
  · right
    refine ⟨g1, ⟨_, _, g2, fun l' hl' => .inl (before_over hB _ fun p hp => hpos p ?_)⟩, g3⟩
    exact (hl'.trans (List.take_sublist _ _)).subset hp
theorem fault0 {A : Ab} {K : List (List UInt8)} (hS : Synced A K) (h : 1 ≤ K.length) : A.fault 0 = 0 := by
  unfold Ab.fault
  rw [hS.live, hS.now, if_neg (by decide), if_pos (by omega)]
theorem recover_none {A : Ab} {K : List (List UInt8)} (hS : Synced A K) (hK : K[0]? = some (zeros 512)) : A.recover = (0, 0, A) := by
  have h1 : 1 ≤ K.length := by
    rcases K with _ | ⟨a, t⟩
    · simp at hK
    · simp
  have e : K.getD 0 [] = zeros 512 := by rw [List.getD_eq_getElem?_getD, hK]; rfl
  unfold Ab.recover
  rw [if_neg (by rw [fault0 hS h1]; decide), hS.now, e, if_neg]
  rintro ⟨h, -⟩
  exact absurd h (by decide)
end
end Go.Proofs.YtecomfhbdonkbaaGreatDoor
