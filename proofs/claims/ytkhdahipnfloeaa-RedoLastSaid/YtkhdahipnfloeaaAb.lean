/- A disk as it is seen: sector by sector, 512 bytes each. -/
import Derived.Test.YtkhdahipnfloeaaPair
namespace Go.Proofs.Ytkhdahipnfloeaa
open Go.RowKit
set_option maxRecDepth 100000

structure Ab where
  now : List (List UInt8)
  kept : List (List UInt8)
  since : List (Nat × List UInt8)
  ops : Nat
  stop : Nat
  dead : Bool

def abs (s : Dsk) : Ab := ⟨s.now.map pad, s.kept.map pad, s.since.map (fun p => (p.1, pad p.2)), s.ops, s.stop, s.dead⟩

/-- A sector that b is written to. -/
def sec (l : List UInt8) : List UInt8 := l ++ zeros (512 - l.length)
theorem pad_mk (l : List UInt8) : pad ⟨l.toArray⟩ = sec l := by
  rw [pad, sec, show (⟨l.toArray⟩ : ByteArray).size = l.length from by show l.toArray.size = _; simp]
theorem sec_length (l : List UInt8) (h : l.length ≤ 512) : (sec l).length = 512 := by rw [sec, List.length_append, zeros_length]; omega

def Ab.fault (A : Ab) (i : Int) : Int := if A.dead then 13 else if 0 ≤ i ∧ i < A.now.length then 0 else 1
def Ab.step (A : Ab) : Ab := { A with ops := A.ops + 1, dead := A.stop == 1, stop := A.stop - 1 }
def Ab.power (A : Ab) : Int := if A.dead then 13 else 0
def Ab.put (A : Ab) (k : Nat) (v : List UInt8) : Ab := { A with now := A.now.set k v, since := A.since ++ [(k, v)] }
def Ab.writeErr (A : Ab) (i : Int) (l : List UInt8) : Int := if A.fault i ≠ 0 then A.fault i else if 512 < l.length then 1 else (A.put i.toNat (sec l)).step.power
def Ab.write (A : Ab) (i : Int) (l : List UInt8) : Ab := if A.fault i = 0 ∧ l.length ≤ 512 then (A.put i.toNat (sec l)).step else A
def Ab.syncErr (A : Ab) : Int := if A.dead then 13 else A.step.power
def Ab.sync (A : Ab) : Ab := if A.dead then A else if A.step.dead then A.step else { A.step with kept := A.now, since := [] }
def Ab.read (A : Ab) (i : Int) : List UInt8 := if A.fault i = 0 then A.now.getD i.toNat [] else []
/-- The kept sectors, with those of the Writes over them whose place keep has true. -/
def lay (kept : List (List UInt8)) (l : List (Nat × List UInt8)) (keep : List Bool) : Nat → List (List UInt8)
  | 0 => kept
  | i + 1 => if keep.getD i false then (lay kept l keep i).set (l.getD i (0, [])).1 (l.getD i (0, [])).2 else lay kept l keep i
def Ab.crash (A : Ab) (keep : List Bool) : Ab := { A with now := lay A.kept A.since keep A.since.length, kept := lay A.kept A.since keep A.since.length, since := [], stop := 0, dead := false }
def Ab.stopAt (A : Ab) (n : Int) : Ab := { A with stop := n.toNat }
def Ab.new (n : Nat) : Ab := ⟨List.replicate n (zeros 512), List.replicate n (zeros 512), [], 0, 0, false⟩

theorem abs_len (s : Dsk) : (abs s).now.length = s.now.length := by simp [abs]
theorem abs_fault (s : Dsk) (i : Int) : (abs s).fault i = faultOf s i := by unfold Ab.fault faultOf; rw [abs_len]; rfl
theorem abs_step (s : Dsk) : abs s.step = (abs s).step := rfl
theorem abs_put (s : Dsk) (k : Nat) (l : List UInt8) : abs (s.put k ⟨l.toArray⟩) = (abs s).put k (sec l) := by
  simp [abs, Dsk.put, Ab.put, List.map_set, pad_mk]
theorem abs_writeErr (s : Dsk) (i : Int) (l : List UInt8) : (abs s).writeErr i l = writeErr s i l := by
  unfold Ab.writeErr writeErr
  rw [abs_fault, ← abs_put, ← abs_step]; rfl
theorem abs_write (s : Dsk) (i : Int) (l : List UInt8) : abs (s.write i l) = (abs s).write i l := by
  unfold Ab.write Dsk.write
  rw [abs_fault, ← abs_put, ← abs_step]
  split <;> rfl
theorem abs_syncErr (s : Dsk) : (abs s).syncErr = syncErr s := rfl
theorem abs_sync (s : Dsk) : abs s.sync = (abs s).sync := by
  unfold Ab.sync Dsk.sync
  rw [show (abs s).dead = s.dead from rfl, show (abs s).step.dead = s.step.dead from rfl]
  split
  · rfl
  · split <;> rfl
theorem abs_lay (kept : List ByteArray) (l : List (Nat × ByteArray)) (keep : List Bool) (i : Nat) (hi : i ≤ l.length) : (laid kept l keep i).map pad = lay (kept.map pad) (l.map fun p => (p.1, pad p.2)) keep i := by
  induction i with
  | zero => rfl
  | succ i ih =>
    have hil : i < l.length := by omega
    unfold laid lay
    rw [← ih (by omega)]
    simp only [List.getD_eq_getElem?_getD, List.getElem?_map, List.getElem?_eq_getElem hil, Option.map_some, Option.getD_some]
    split
    · rw [List.map_set]
    · rfl
theorem abs_crash (s : Dsk) (keep : List Bool) : abs (s.crash keep) = (abs s).crash keep := by
  have := abs_lay s.kept s.since keep s.since.length (Nat.le_refl _)
  unfold Ab.crash Dsk.crash abs
  simp only [List.length_map, List.map_nil, this]
theorem abs_stop (s : Dsk) (n : Int) : abs { s with stop := n.toNat } = (abs s).stopAt n := rfl
theorem abs_new (n : Nat) : abs (Dsk.new n) = Ab.new n := by
  simp only [abs, Dsk.new, Ab.new, List.map_replicate, List.map_nil]
  rfl
theorem abs_read (s : Dsk) (i : Int) : (abs s).read i = readOf s i := by
  unfold Ab.read readOf
  rw [abs_fault]
  by_cases h : faultOf s i = 0
  · rw [if_pos h, if_pos h]
    have hi : i.toNat < s.now.length := by
      unfold faultOf at h
      split at h
      · simp at h
      · split at h
        · omega
        · simp at h
    simp [abs, sect, hi]
  · rw [if_neg h, if_neg h]

/-! ### Package disk's disk, as it is seen -/

theorem Okay.step {s : Dsk} (h : Okay s) : Okay s.step := h
theorem Okay.put {s : Dsk} (h : Okay s) (a : Nat) (b : ByteArray) : Okay (s.put a b) := by
  show s.now.set a b = laidF s.kept (s.since ++ [(a, b)]) (fun _ => true) (s.since ++ [(a, b)]).length
  rw [List.length_append, List.length_singleton, laidF_step _ _ _ _ (by simp), if_pos rfl, laidF_snoc _ _ _ _ _ (Nat.le_refl _), ← h]
  simp
theorem Okay.write {s : Dsk} (h : Okay s) (i : Int) (l : List UInt8) : Okay (s.write i l) := by
  unfold Dsk.write
  split
  · exact (h.put _ _).step
  · exact h
theorem Okay.sync {s : Dsk} (h : Okay s) : Okay s.sync := by
  unfold Dsk.sync
  split
  · exact h
  · split
    · exact h.step
    · rfl
theorem Okay.crash {s : Dsk} (keep : List Bool) : Okay (s.crash keep) := rfl
theorem Okay.new (n : Nat) : Okay (Dsk.new n) := rfl

def DkA (w : World) (P : Nat → Prop) (r : Nat) (A : Ab) : Prop := ∃ s, Dk w P r s ∧ Okay s ∧ abs s = A
/-- From w to w' the disk at r, whose blocks were of P, came to be A; nothing else has turned. -/
def DkTo (w : World) (P : Nat → Prop) (w' : World) (r : Nat) (A : Ab) : Prop := ∃ P', DkA w' P' r A ∧ Moved P w w' ∧ ∀ k, P' k → P k ∨ w.heap.size ≤ k
/-- What the calls need of its numbers. -/
def Small (A : Ab) (k : Nat) : Prop := A.ops ≤ k ∧ A.since.length ≤ k ∧ A.stop ≤ 1073741824

theorem DkTo.refl {w : World} {P : Nat → Prop} {r : Nat} {A : Ab} (h : DkA w P r A) : DkTo w P w r A := ⟨P, h, Moved.refl _ _, fun _ h => .inl h⟩
theorem DkA.moved {w w' : World} {P Q : Nat → Prop} {r : Nat} {A : Ab} (h : DkA w P r A) (hm : Moved Q w w') (hPQ : ∀ k, P k → ¬ Q k) : DkA w' P r A := by
  obtain ⟨s, h1, h2, h3⟩ := h
  exact ⟨s, h1.moved hm hPQ, h2, h3⟩
theorem DkTo.grow {w w1 w2 : World} {P : Nat → Prop} {r : Nat} {A : Ab} (h : DkTo w P w1 r A) (hb : Below w1.heap.size w1 w2) : DkTo w P w2 r A := by
  obtain ⟨P', h1, h2, h3⟩ := h
  have hm : Moved (fun _ => False) w1 w2 := Moved.of_below hb _
  exact ⟨P', h1.moved hm (fun _ _ h => h), h2.trans hm (fun _ h => h.elim), h3⟩
theorem DkTo.trans {w w1 w2 : World} {P P1 : Nat → Prop} {r : Nat} {B : Ab} (h2 : Moved P w w1) (h3 : ∀ k, P1 k → P k ∨ w.heap.size ≤ k) (h : DkTo w1 P1 w2 r B) : DkTo w P w2 r B := by
  obtain ⟨P', g1, g2, g3⟩ := h
  refine ⟨P', g1, h2.trans g2 h3, fun k hk => ?_⟩
  rcases g3 k hk with hp | hs
  · exact h3 k hp
  · exact .inr (Nat.le_trans h2.size hs)

section
variable {w w1 : World} {P : Nat → Prop} {r : Nat} {A : Ab}
theorem to_write (i : Int) (v : Value) (l : List UInt8) (h : DkTo w P w1 r A) (hb : Bs w1 v l) (hs : Small A 1073741824) :
    Calls Try.prog 23 #[.pointer (some ⟨r, 0, none⟩), .int .i64 i, v] w1 fun e w' => e = .returned (.int .i64 (A.writeErr i l)) ∧ DkTo w P w' r (A.write i l) := by
  obtain ⟨P1, ⟨s, g1, g2, rfl⟩, g3, g4⟩ := h
  have h1 : s.ops ≤ 1073741824 := hs.1
  have h2 : s.since.length ≤ 1073741824 := by simpa [abs] using hs.2.1
  have h3 : s.stop ≤ 1073741824 := hs.2.2
  refine (write_any P1 r s i v l w1 g1 hb (by omega) (by omega) h2).mono ?_
  rintro e w' ⟨rfl, P', hd, hm, hP⟩
  exact ⟨by rw [abs_writeErr], DkTo.trans g3 g4 ⟨P', ⟨_, hd, g2.write i l, abs_write s i l⟩, hm, hP⟩⟩
theorem to_sync (h : DkTo w P w1 r A) (hs : Small A 1073741824) :
    Calls Try.prog 25 #[.pointer (some ⟨r, 0, none⟩)] w1 fun e w' => e = .returned (.int .i64 A.syncErr) ∧ DkTo w P w' r A.sync := by
  obtain ⟨P1, ⟨s, g1, g2, rfl⟩, g3, g4⟩ := h
  have h1 : s.ops ≤ 1073741824 := hs.1
  have h3 : s.stop ≤ 1073741824 := hs.2.2
  refine (sync_any P1 r s w1 g1 (by omega) (by omega)).mono ?_
  rintro e w' ⟨rfl, hd, hm⟩
  exact ⟨by rw [abs_syncErr], DkTo.trans g3 g4 ⟨P1, ⟨_, hd, g2.sync, abs_sync s⟩, hm, fun _ h => .inl h⟩⟩
theorem to_read (i : Int) (h : DkTo w P w1 r A) :
    Calls Try.prog 32 #[.pointer (some ⟨r, 0, none⟩), .int .i64 i] w1 fun e w' => ∃ v, e = .returned (.tuple #[v, .int .i64 (A.fault i)]) ∧ Own w' w1.heap.size v (A.read i) ∧ Below w1.heap.size w1 w' ∧ DkTo w P w' r A := by
  have hh := h
  obtain ⟨P1, ⟨s, g1, g2, rfl⟩, g3, g4⟩ := h
  refine (read_any P1 r s i w1 g1).mono ?_
  rintro e w' ⟨v, rfl, hv, hb⟩
  exact ⟨v, by rw [abs_fault], by rw [abs_read]; exact hv, hb, hh.grow hb⟩
theorem to_size (h : DkTo w P w1 r A) : Calls Try.prog 44 #[.pointer (some ⟨r, 0, none⟩)] w1 fun e w' => e = .returned (.int .i64 (A.now.length : Int)) ∧ w' = w1 := by
  obtain ⟨P1, ⟨s, g1, g2, rfl⟩, g3, g4⟩ := h
  rw [abs_len]
  exact size_any P1 r s w1 g1
end

/-! ### triadref2's disk, as it is seen -/

def RkA (w : World) (Q : Nat → Prop) (x : Nat) (A : Ab) : Prop := ∃ s, Rk w Q x s ∧ Okay s ∧ abs s = A
def RkTo (w : World) (Q : Nat → Prop) (w' : World) (x : Nat) (A : Ab) : Prop := ∃ Q', RkA w' Q' x A ∧ Moved Q w w' ∧ ∀ k, Q' k → Q k ∨ w.heap.size ≤ k
theorem RkTo.refl {w : World} {Q : Nat → Prop} {x : Nat} {A : Ab} (h : RkA w Q x A) : RkTo w Q w x A := ⟨Q, h, Moved.refl _ _, fun _ h => .inl h⟩
theorem RkTo.grow {w w1 w2 : World} {Q : Nat → Prop} {x : Nat} {A : Ab} (h : RkTo w Q w1 x A) (hb : Below w1.heap.size w1 w2) : RkTo w Q w2 x A := by
  obtain ⟨Q', ⟨s, h1, h2, h3⟩, h4, h5⟩ := h
  have hm : Moved (fun _ => False) w1 w2 := Moved.of_below hb _
  exact ⟨Q', ⟨s, h1.moved hm (fun _ _ h => h), h2, h3⟩, h4.trans hm (fun _ h => h.elim), h5⟩
theorem RkTo.trans {w w1 w2 : World} {Q Q1 : Nat → Prop} {x : Nat} {B : Ab} (h2 : Moved Q w w1) (h3 : ∀ k, Q1 k → Q k ∨ w.heap.size ≤ k) (h : RkTo w1 Q1 w2 x B) : RkTo w Q w2 x B := by
  obtain ⟨Q', g1, g2, g3⟩ := h
  refine ⟨Q', g1, h2.trans g2 h3, fun k hk => ?_⟩
  rcases g3 k hk with hp | hs
  · exact h3 k hp
  · exact .inr (Nat.le_trans h2.size hs)

section
variable {w w1 : World} {Q : Nat → Prop} {x : Nat} {A : Ab}
theorem ro_write (i : Int) (v : Value) (l : List UInt8) (h : RkTo w Q w1 x A) (hb : Bs w1 v l) (hs : Small A 1073741824) :
    Calls Try.prog 24 #[.pointer (some ⟨x, 0, none⟩), .int .i64 i, v] w1 fun e w' => e = .returned (.int .i64 (A.writeErr i l)) ∧ RkTo w Q w' x (A.write i l) := by
  obtain ⟨Q1, ⟨s, g1, g2, rfl⟩, g3, g4⟩ := h
  have h1 : s.ops ≤ 1073741824 := hs.1
  have h2 : s.since.length ≤ 1073741824 := by simpa [abs] using hs.2.1
  have h3 : s.stop ≤ 1073741824 := hs.2.2
  refine (rwrite_any Q1 x s i v l w1 g1 g2 hb (by omega) (by omega) h2).mono ?_
  rintro e w' ⟨rfl, Q', hd, hm, hQ⟩
  exact ⟨by rw [abs_writeErr], RkTo.trans g3 g4 ⟨Q', ⟨_, hd, g2.write i l, abs_write s i l⟩, hm, hQ⟩⟩
theorem ro_sync (h : RkTo w Q w1 x A) (hs : Small A 1073741824) :
    Calls Try.prog 26 #[.pointer (some ⟨x, 0, none⟩)] w1 fun e w' => e = .returned (.int .i64 A.syncErr) ∧ RkTo w Q w' x A.sync := by
  obtain ⟨Q1, ⟨s, g1, g2, rfl⟩, g3, g4⟩ := h
  have h1 : s.ops ≤ 1073741824 := hs.1
  have h2 : s.since.length ≤ 1073741824 := by simpa [abs] using hs.2.1
  have h3 : s.stop ≤ 1073741824 := hs.2.2
  refine (rsync_any Q1 x s w1 g1 g2 (by omega) (by omega) h2).mono ?_
  rintro e w' ⟨rfl, hd, hm⟩
  exact ⟨by rw [abs_syncErr], RkTo.trans g3 g4 ⟨Q1, ⟨_, hd, g2.sync, abs_sync s⟩, hm, fun _ h => .inl h⟩⟩
theorem ro_read (i : Int) (h : RkTo w Q w1 x A) (hs : Small A 1073741824) :
    Calls Try.prog 47 #[.pointer (some ⟨x, 0, none⟩), .int .i64 i] w1 fun e w' => ∃ v, e = .returned (.tuple #[v, .int .i64 (A.fault i)]) ∧ Own w' w1.heap.size v (A.read i) ∧ Below w1.heap.size w1 w' ∧ RkTo w Q w' x A := by
  have hh := h
  obtain ⟨Q1, ⟨s, g1, g2, rfl⟩, g3, g4⟩ := h
  have h2 : s.since.length ≤ 1073741824 := by simpa [abs] using hs.2.1
  refine (rread_any Q1 x s i w1 g1 g2 h2).mono ?_
  rintro e w' ⟨v, rfl, hv, hb⟩
  exact ⟨v, by rw [abs_fault], by rw [abs_read]; exact hv, hb, hh.grow hb⟩
theorem ro_size (h : RkTo w Q w1 x A) : Calls Try.prog 45 #[.pointer (some ⟨x, 0, none⟩)] w1 fun e w' => e = .returned (.int .i64 (A.now.length : Int)) ∧ w' = w1 := by
  obtain ⟨Q1, ⟨s, g1, g2, rfl⟩, g3, g4⟩ := h
  rw [abs_len, g2.len]
  exact rsize_any Q1 x s w1 g1
end
end Go.Proofs.Ytkhdahipnfloeaa
