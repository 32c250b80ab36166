/- Gc -/
import Derived.Test.YtbpdapcmaioeiaaGreatKGb
import Derived.Laws.CopyOwn
namespace Go.Proofs.YtbpdapcmaioeiaaGreat
open Go.RowKit
set_option maxRecDepth 100000
section
/-- A slice that owns so many elements. -/
theorem owns_form {w : World} {base : Nat} {e : TypeId} {size : Nat} {v : Value} {n : Nat} {xs : List Value} (h : w.ownsRow base e size v n xs) : ∃ so cap, v = .slice so n cap ∧ n ≤ cap ∧ cap ≤ maxLen := by
 rcases h.2 with ⟨rfl, rfl⟩ | ⟨g, cap, cur, rfl, -, -, h1, h2, -⟩
 ·exact ⟨none, 0, rfl, Nat.le_refl _, by simp [maxLen]⟩
 ·exact ⟨_, cap, rfl, h1, h2⟩
end
section
/-- What the kept sectors are, behind the first i Writes, those of F done. -/
def laidF (kept : List ByteArray) (l : List (Nat × ByteArray)) (F : Nat → Bool) : Nat → List ByteArray
 | 0 => kept
 | i + 1 => if F i then (laidF kept l F i).set (l.getD i (0, ByteArray.empty)).1 (l.getD i (0, ByteArray.empty)).2 else laidF kept l F i
theorem laidF_snoc (kept : List ByteArray) (l : List (Nat × ByteArray)) (F : Nat → Bool) (q : Nat × ByteArray) (i : Nat) (hi : i ≤ l.length) : laidF kept (l ++ [q]) F i = laidF kept l F i := by
 induction i with
 | zero => rfl
 | succ i ih =>
  have hil : i < l.length := by omega
  unfold laidF
  rw [ih (by omega)]
  simp only [List.getD_eq_getElem?_getD, List.getElem?_append_left hil]
theorem laidF_step (kept : List ByteArray) (l : List (Nat × ByteArray)) (F : Nat → Bool) (i : Nat) (hi : i < l.length) : laidF kept l F (i + 1) = if F i then (laidF kept l F i).set l[i].1 l[i].2 else laidF kept l F i := by
 rw [laidF, List.getD_eq_getElem?_getD, List.getElem?_eq_getElem hi]
 rfl
end
section
/-- The sectors as they are now are the kept ones with all Writes over them. -/
def Okay (s : Dsk) : Prop := s.now = laidF s.kept s.since (fun _ => true) s.since.length
end
section
end
section
end
section
end
section
section
variable {w0 w : World} {X : Nat → Prop} {r x : Nat} {s s' : Dsk}
end
end
section
structure Ab where
 now : List (List UInt8)
 kept : List (List UInt8)
 since : List (Nat × List UInt8)
 ops : Nat
 stop : Nat
 dead : Bool
def abs (s : Dsk) : Ab := ⟨s.now.map pad, s.kept.map pad, s.since.map (fun p => (p.1, pad p.2)), s.ops, s.stop, s.dead⟩
/-- A sector that b is written to. -/
def sec (l : List UInt8) : List UInt8 := l ++ zeros (512 - l.length)
theorem pad_mk (l : List UInt8) : pad ⟨l.toArray⟩ = sec l := by
 rw [pad, sec, show (⟨l.toArray⟩ : ByteArray).size = l.length from by show l.toArray.size = _; simp]
def Ab.fault (A : Ab) (i : Int) : Int := if A.dead then 13 else if 0 ≤ i ∧ i < A.now.length then 0 else 1
def Ab.step (A : Ab) : Ab := { A with ops := A.ops + 1, dead := A.stop == 1, stop := A.stop - 1 }
def Ab.power (A : Ab) : Int := if A.dead then 13 else 0
def Ab.put (A : Ab) (k : Nat) (v : List UInt8) : Ab := { A with now := A.now.set k v, since := A.since ++ [(k, v)] }
def Ab.writeErr (A : Ab) (i : Int) (l : List UInt8) : Int := if A.fault i ≠ 0 then A.fault i else if 512 < l.length then 1 else (A.put i.toNat (sec l)).step.power
def Ab.write (A : Ab) (i : Int) (l : List UInt8) : Ab := if A.fault i = 0 ∧ l.length ≤ 512 then (A.put i.toNat (sec l)).step else A
def Ab.syncErr (A : Ab) : Int := if A.dead then 13 else A.step.power
def Ab.sync (A : Ab) : Ab := if A.dead then A else if A.step.dead then A.step else { A.step with kept := A.now, since := [] }
def Ab.read (A : Ab) (i : Int) : List UInt8 := if A.fault i = 0 then A.now.getD i.toNat [] else []
def Ab.new (n : Nat) : Ab := ⟨List.replicate n (zeros 512), List.replicate n (zeros 512), [], 0, 0, false⟩
theorem abs_len (s : Dsk) : (abs s).now.length = s.now.length := by simp [abs]
theorem abs_fault (s : Dsk) (i : Int) : (abs s).fault i = faultOf s i := by unfold Ab.fault faultOf; rw [abs_len]; rfl
theorem abs_step (s : Dsk) : abs s.step = (abs s).step := rfl
theorem abs_put (s : Dsk) (k : Nat) (l : List UInt8) : abs (s.put k ⟨l.toArray⟩) = (abs s).put k (sec l) := by
 simp [abs, Dsk.put, Ab.put, List.map_set, pad_mk]
theorem abs_writeErr (s : Dsk) (i : Int) (l : List UInt8) : (abs s).writeErr i l = writeErr s i l := by
 unfold Ab.writeErr writeErr
 rw [abs_fault, ← abs_put, ← abs_step]; rfl
theorem abs_write (s : Dsk) (i : Int) (l : List UInt8) : abs (s.write i l) = (abs s).write i l := by
 unfold Ab.write Dsk.write
 rw [abs_fault, ← abs_put, ← abs_step]
 split <;> rfl
theorem abs_syncErr (s : Dsk) : (abs s).syncErr = syncErr s := rfl
theorem abs_sync (s : Dsk) : abs s.sync = (abs s).sync := by
 unfold Ab.sync Dsk.sync
 rw [show (abs s).dead = s.dead from rfl, show (abs s).step.dead = s.step.dead from rfl]
 split
 ·rfl
 ·split <;> rfl
theorem abs_new (n : Nat) : abs (Dsk.new n) = Ab.new n := by
 simp only [abs, Dsk.new, Ab.new, List.map_replicate, List.map_nil]
 rfl
theorem abs_read (s : Dsk) (i : Int) : (abs s).read i = readOf s i := by
 unfold Ab.read readOf
 rw [abs_fault]
 by_cases h : faultOf s i = 0
 ·rw [if_pos h, if_pos h]
  have hi : i.toNat < s.now.length := by
   unfold faultOf at h
   split at h
   ·simp at h
   ·split at h
    ·omega
    ·simp at h
  simp [abs, sect, hi]
 ·rw [if_neg h, if_neg h]
theorem Okay.step {s : Dsk} (h : Okay s) : Okay s.step := h
theorem Okay.put {s : Dsk} (h : Okay s) (a : Nat) (b : ByteArray) : Okay (s.put a b) := by
 show s.now.set a b = laidF s.kept (s.since ++ [(a, b)]) (fun _ => true) (s.since ++ [(a, b)]).length
 rw [List.length_append, List.length_singleton, laidF_step _ _ _ _ (by simp), if_pos rfl, laidF_snoc _ _ _ _ _ (Nat.le_refl _), ← h]
 simp
theorem Okay.write {s : Dsk} (h : Okay s) (i : Int) (l : List UInt8) : Okay (s.write i l) := by
 unfold Dsk.write
 split
 ·exact (h.put _ _).step
 ·exact h
theorem Okay.sync {s : Dsk} (h : Okay s) : Okay s.sync := by
 unfold Dsk.sync
 split
 ·exact h
 ·split
  ·exact h.step
  ·rfl
theorem Okay.new (n : Nat) : Okay (Dsk.new n) := rfl
def DkA (w : World) (P : Nat → Prop) (r : Nat) (A : Ab) : Prop := ∃ s, Dk w P r s ∧ Okay s ∧ abs s = A
/-- From w to w' the disk at r, whose blocks were of P, came to be A; nothing else has turned. -/
def DkTo (w : World) (P : Nat → Prop) (w' : World) (r : Nat) (A : Ab) : Prop := ∃ P', DkA w' P' r A ∧ Moved P w w' ∧ ∀ k, P' k → P k ∨ w.heap.size ≤ k
/-- What the calls need of its numbers. -/
def Small (A : Ab) (k : Nat) : Prop := A.ops ≤ k ∧ A.since.length ≤ k ∧ A.stop ≤ 1073741824
theorem DkTo.refl {w : World} {P : Nat → Prop} {r : Nat} {A : Ab} (h : DkA w P r A) : DkTo w P w r A := ⟨P, h, Moved.refl _ _, fun _ h => .inl h⟩
theorem DkA.moved {w w' : World} {P Q : Nat → Prop} {r : Nat} {A : Ab} (h : DkA w P r A) (hm : Moved Q w w') (hPQ : ∀ k, P k → ¬ Q k) : DkA w' P r A := by
 obtain ⟨s, h1, h2, h3⟩ := h
 exact ⟨s, h1.moved hm hPQ, h2, h3⟩
theorem DkTo.grow {w w1 w2 : World} {P : Nat → Prop} {r : Nat} {A : Ab} (h : DkTo w P w1 r A) (hb : Below w1.heap.size w1 w2) : DkTo w P w2 r A := by
 obtain ⟨P', h1, h2, h3⟩ := h
 have hm : Moved (fun _ => False) w1 w2 := Moved.of_below hb _
 exact ⟨P', h1.moved hm (fun _ _ h => h), h2.trans hm (fun _ h => h.elim), h3⟩
theorem DkTo.trans {w w1 w2 : World} {P P1 : Nat → Prop} {r : Nat} {B : Ab} (h2 : Moved P w w1) (h3 : ∀ k, P1 k → P k ∨ w.heap.size ≤ k) (h : DkTo w1 P1 w2 r B) : DkTo w P w2 r B := by
 obtain ⟨P', g1, g2, g3⟩ := h
 refine ⟨P', g1, h2.trans g2 h3, fun k hk => ?_⟩
 rcases g3 k hk with hp | hs
 ·exact h3 k hp
 ·exact .inr (Nat.le_trans h2.size hs)
section
variable {w w1 : World} {P : Nat → Prop} {r : Nat} {A : Ab}
theorem to_write (i : Int) (v : Value) (l : List UInt8) (h : DkTo w P w1 r A) (hb : Bs w1 v l) (hs : Small A 1073741824) :
 Calls Tryz.prog 123 #[.pointer (some ⟨r, 0, none⟩), .int .i64 i, v] w1 fun e w' => e = .returned (.int .i64 (A.writeErr i l)) ∧ DkTo w P w' r (A.write i l) := by
 obtain ⟨P1, ⟨s, g1, g2, rfl⟩, g3, g4⟩ := h
 have h1 : s.ops ≤ 1073741824 := hs.1
 have h2 : s.since.length ≤ 1073741824 := by simpa [abs] using hs.2.1
 have h3 : s.stop ≤ 1073741824 := hs.2.2
 refine (write_any P1 r s i v l w1 g1 hb (by omega) (by omega) h2).mono ?_
 rintro e w' ⟨rfl, P', hd, hm, hP⟩
 exact ⟨by rw [abs_writeErr], DkTo.trans g3 g4 ⟨P', ⟨_, hd, g2.write i l, abs_write s i l⟩, hm, hP⟩⟩
theorem to_sync (h : DkTo w P w1 r A) (hs : Small A 1073741824) :
 Calls Tryz.prog 124 #[.pointer (some ⟨r, 0, none⟩)] w1 fun e w' => e = .returned (.int .i64 A.syncErr) ∧ DkTo w P w' r A.sync := by
 obtain ⟨P1, ⟨s, g1, g2, rfl⟩, g3, g4⟩ := h
 have h1 : s.ops ≤ 1073741824 := hs.1
 have h3 : s.stop ≤ 1073741824 := hs.2.2
 refine (sync_any P1 r s w1 g1 (by omega) (by omega)).mono ?_
 rintro e w' ⟨rfl, hd, hm⟩
 exact ⟨by rw [abs_syncErr], DkTo.trans g3 g4 ⟨P1, ⟨_, hd, g2.sync, abs_sync s⟩, hm, fun _ h => .inl h⟩⟩
theorem to_read (i : Int) (h : DkTo w P w1 r A) :
 Calls Tryz.prog 106 #[.pointer (some ⟨r, 0, none⟩), .int .i64 i] w1 fun e w' => ∃ v, e = .returned (.tuple #[v, .int .i64 (A.fault i)]) ∧ Own w' w1.heap.size v (A.read i) ∧ Below w1.heap.size w1 w' ∧ DkTo w P w' r A := by
 have hh := h
 obtain ⟨P1, ⟨s, g1, g2, rfl⟩, g3, g4⟩ := h
 refine (read_any P1 r s i w1 g1).mono ?_
 rintro e w' ⟨v, rfl, hv, hb⟩
 exact ⟨v, by rw [abs_fault], by rw [abs_read]; exact hv, hb, hh.grow hb⟩
theorem to_size (h : DkTo w P w1 r A) : Calls Tryz.prog 33 #[.pointer (some ⟨r, 0, none⟩)] w1 fun e w' => e = .returned (.int .i64 (A.now.length : Int)) ∧ w' = w1 := by
 obtain ⟨P1, ⟨s, g1, g2, rfl⟩, g3, g4⟩ := h
 rw [abs_len]
 exact size_any P1 r s w1 g1
end
section
variable {w w1 : World} {Q : Nat → Prop} {x : Nat} {A : Ab}
end
end
section
inductive Dop where
 | W (i : Nat) (b : List UInt8)
 | S
/-- One behind the other, till one answers an error. -/
def Ab.run : Ab → List Dop → Int × Ab
 | A, [] => (0, A)
 | A, .W i b :: t => if A.writeErr i b = 0 then (A.write i b).run t else (A.writeErr i b, A.write i b)
 | A, .S :: t => if A.syncErr = 0 then A.sync.run t else (A.syncErr, A.sync)
theorem run_append (A : Ab) (xs ys : List Dop) : A.run (xs ++ ys) = if (A.run xs).1 = 0 then (A.run xs).2.run ys else A.run xs := by
 induction xs generalizing A with
 | nil => simp [Ab.run]
 | cons o t ih =>
  cases o with
  | W i b =>
   simp only [List.cons_append, Ab.run]
   split
   ·exact ih _
   ·rfl
  | S =>
   simp only [List.cons_append, Ab.run]
   split
   ·exact ih _
   ·rfl
/-- All that was written is synced. -/
structure Synced (A : Ab) (K : List (List UInt8)) : Prop where
 now : A.now = K
 kept : A.kept = K
 since : A.since = []
 live : A.dead = false
end
section
def magic : List UInt8 := [84, 82, 73, 65, 68, 76, 79, 71]
def page (b : List UInt8) : List UInt8 := b ++ zeros (504 - b.length)
theorem page_length (b : List UInt8) (h : b.length ≤ 504) : (page b).length = 504 := by rw [page, List.length_append, zeros_length]; omega
abbrev Pages := List (Int × List UInt8)
def homeWs (l : Pages) : List (Nat × List UInt8) := l.map fun p => (p.1.toNat, page p.2)
/-- A row of Writes, and a Sync. -/
def ph (ws : List (Nat × List UInt8)) : List Dop := (ws.map fun p => Dop.W p.1 p.2) ++ [Dop.S]
def homesOps (l : Pages) : List Dop := ph (homeWs l) ++ ph [(0, [])]
def cntOf (h : List UInt8) : Int := wrap64 (num ((h.drop 8).take 8))
def isLog (size : Nat) (h : List UInt8) : Prop := h.take 8 = magic ∧ 1 ≤ cntOf h ∧ cntOf h ≤ 400 ∧ cntOf h < size
instance (size : Nat) (h : List UInt8) : Decidable (isLog size h) := by unfold isLog; infer_instance
def atOf (s : List UInt8) : Int := wrap64 (num (s.take 8))
def pagesOf (K : List (List UInt8)) : Nat → Option Pages
 | 0 => some []
 | i + 1 => match pagesOf K i with
  | none => none
  | some l => if 401 ≤ atOf (K.getD (1 + i) []) ∧ atOf (K.getD (1 + i) []) < K.length then some (l ++ [(atOf (K.getD (1 + i) []), (K.getD (1 + i) []).drop 8)]) else none
def Ab.recover (A : Ab) : Int × Int × Ab :=
 if A.fault 0 ≠ 0 then (0, A.fault 0, A)
 else if isLog A.now.length (A.now.getD 0 []) then
  match pagesOf A.now (cntOf (A.now.getD 0 [])).toNat with
  | none => (0, 9, A)
  | some l => if (A.run (homesOps l)).1 = 0 then (cntOf (A.now.getD 0 []), 0, (A.run (homesOps l)).2) else (0, (A.run (homesOps l)).1, (A.run (homesOps l)).2)
 else (0, 0, A)
end
section
theorem fault0 {A : Ab} {K : List (List UInt8)} (hS : Synced A K) (h : 1 ≤ K.length) : A.fault 0 = 0 := by
 unfold Ab.fault
 rw [hS.live, hS.now, if_neg (by decide), if_pos (by omega)]
theorem recover_none {A : Ab} {K : List (List UInt8)} (hS : Synced A K) (hK : K[0]? = some (zeros 512)) : A.recover = (0, 0, A) := by
 have h1 : 1 ≤ K.length := by
  rcases K with _ | ⟨a, t⟩
  ·simp at hK
  ·simp
 have e : K.getD 0 [] = zeros 512 := by rw [List.getD_eq_getElem?_getD, hK]; rfl
 unfold Ab.recover
 rw [if_neg (by rw [fault0 hS h1]; decide), hS.now, e, if_neg]
 rintro ⟨h, -⟩
 exact absurd h (by decide)
end
end Go.Proofs.YtbpdapcmaioeiaaGreat
