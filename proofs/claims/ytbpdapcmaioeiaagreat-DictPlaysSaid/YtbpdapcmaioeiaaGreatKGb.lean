/- Gb -/
import Derived.Test.YtbpdapcmaioeiaaGreatKGa
import Derived.Lib.BufferWrite
import Derived.Deep.AppendLies
import Derived.Deep.RegionLaw
namespace Go.Proofs.YtbpdapcmaioeiaaGreat
open Go.RowKit
set_option maxRecDepth 100000
section
structure Dsk where
 now : List ByteArray
 kept : List ByteArray
 since : List (Nat × ByteArray)
 ops : Nat
 stop : Nat
 dead : Bool
def strs (l : List ByteArray) : List Value := l.map Value.string
def wcells (l : List (Nat × ByteArray)) : List Value := l.flatMap fun p => [.int .i64 (p.1 : Int), .string p.2]
def sl (b n : Nat) : Value := .slice (some ⟨b, 0, none⟩) n n
/-- The disk's own block. -/
def Top (w : World) (r bn bk : Nat) (sv : Value) (s : Dsk) : Prop :=
 Blk w r #[sl bn s.now.length, sl bk s.now.length, sv, .int .i64 (s.ops : Int), .int .i64 (s.stop : Int), .bool s.dead] 76
/-- A disk at address r, whose blocks are of P. -/
structure DkAt (w : World) (P : Nat → Prop) (r bn bk : Nat) (sv : Value) (s : Dsk) : Prop where
 n1 : r ≠ bn
 n2 : r ≠ bk
 n3 : bn ≠ bk
 n4 : sv.ownBlock ≠ some r
 n5 : sv.ownBlock ≠ some bn
 n6 : sv.ownBlock ≠ some bk
 p1 : P r
 p2 : P bn
 p3 : P bk
 p4 : ∀ k, sv.ownBlock = some k → P k
 top : Top w r bn bk sv s
 bnow : Blk w bn (strs s.now).toArray 9
 bkept : Blk w bk (strs s.kept).toArray 9
 len : s.kept.length = s.now.length
 most : s.now.length ≤ 3000
 row : w.ownsRow 0 209 2 sv s.since.length (wcells s.since)
 ats : ∀ p ∈ s.since, p.1 < s.now.length
 short : (∀ x ∈ s.now, x.size ≤ 512) ∧ (∀ x ∈ s.kept, x.size ≤ 512) ∧ ∀ p ∈ s.since, p.2.size ≤ 512
def Dk (w : World) (P : Nat → Prop) (r : Nat) (s : Dsk) : Prop := ∃ bn bk sv, DkAt w P r bn bk sv s
theorem Dk.moved {P Q : Nat → Prop} {w w' : World} {r : Nat} {s : Dsk} (h : Dk w P r s) (hm : Moved Q w w') (hPQ : ∀ k, P k → ¬ Q k) : Dk w' P r s := by
 obtain ⟨bn, bk, sv, h⟩ := h
 exact ⟨bn, bk, sv, h.n1, h.n2, h.n3, h.n4, h.n5, h.n6, h.p1, h.p2, h.p3, h.p4, Blk.moved h.top hm (hPQ _ h.p1), h.bnow.moved hm (hPQ _ h.p2), h.bkept.moved hm (hPQ _ h.p3), h.len, h.most,
  owns_moved h.row hm (fun k hk => hPQ _ (h.p4 k hk)), h.ats, h.short⟩
theorem Dk.drew {P : Nat → Prop} {w : World} {r : Nat} {s : Dsk} (h : Dk w P r s) : Dk w.drew P r s := h.moved (Q := fun _ => False) (Moved.refl _ _).drew (fun _ _ hq => hq)
/-- The six cells, as the walk reads them. -/
theorem Top.cells {w : World} {r bn bk : Nat} {sv : Value} {s : Dsk} (h : Top w r bn bk sv s) :
 w.cell? ⟨r, 0, none⟩ = some (.slice (some ⟨bn, 0, none⟩) s.now.length s.now.length) ∧ w.cell? ⟨r, 1, none⟩ = some (.slice (some ⟨bk, 0, none⟩) s.now.length s.now.length) ∧ w.cell? ⟨r, 2, none⟩ = some sv ∧
 w.cell? ⟨r, 3, none⟩ = some (.int .i64 (s.ops : Int)) ∧ w.cell? ⟨r, 4, none⟩ = some (.int .i64 (s.stop : Int)) ∧ w.cell? ⟨r, 5, none⟩ = some (.bool s.dead) ∧ ∀ j, w.frozen? ⟨r, j, none⟩ = false :=
 ⟨Blk.cell h 0, Blk.cell h 1, Blk.cell h 2, Blk.cell h 3, Blk.cell h 4, Blk.cell h 5, fun j => Blk.frozen h j⟩
def deadErr (s : Dsk) : Int := if s.dead then 13 else 0
def faultOf (s : Dsk) (at' : Int) : Int := if s.dead then 13 else if 0 ≤ at' ∧ at' < s.now.length then 0 else 1
def Dsk.step (s : Dsk) : Dsk := { s with ops := s.ops + 1, dead := s.stop == 1, stop := s.stop - 1 }
theorem power_any (P : Nat → Prop) (r : Nat) (s : Dsk) (w : World) (h : Dk w P r s) :
 Calls Tryz.prog 150 #[.pointer (some ⟨r, 0, none⟩)] w fun e w' => e = .returned (.int .i64 (deadErr s)) ∧ w' = w := by
 obtain ⟨bn, bk, sv, h⟩ := h
 obtain ⟨-, -, -, -, -, c5, -⟩ := h.top.cells
 obtain ⟨d, hd⟩ : ∃ d, d = s.dead := ⟨_, rfl⟩
 rw [← hd] at c5
 have e : deadErr s = if d then 13 else 0 := by rw [hd]; rfl
 rw [e]
 clear h hd e
 cases d <;> (go_enter Tryz.func150, Tryz.ntmps150; go_wp2; go_ret; exact ⟨rfl, rfl⟩)
theorem size_any (P : Nat → Prop) (r : Nat) (s : Dsk) (w : World) (h : Dk w P r s) :
 Calls Tryz.prog 33 #[.pointer (some ⟨r, 0, none⟩)] w fun e w' => e = .returned (.int .i64 (s.now.length : Int)) ∧ w' = w := by
 obtain ⟨bn, bk, sv, h⟩ := h
 obtain ⟨c0, -, -, -, -, -, -⟩ := h.top.cells
 clear h
 go_enter Tryz.func33, Tryz.ntmps33
 go_wp2
 go_ret
 exact ⟨rfl, rfl⟩
theorem fault_any (P : Nat → Prop) (r : Nat) (s : Dsk) (i : Int) (w : World) (h : Dk w P r s) :
 Calls Tryz.prog 142 #[.pointer (some ⟨r, 0, none⟩), .int .i64 i] w fun e w' => e = .returned (.int .i64 (faultOf s i)) ∧ w' = w := by
 have hk := h
 obtain ⟨bn, bk, sv, h⟩ := h
 obtain ⟨c0, -, -, -, -, c5, -⟩ := h.top.cells
 clear h
 obtain ⟨n, hn⟩ : ∃ n, n = s.now.length := ⟨_, rfl⟩
 rw [← hn] at c0
 cases hd : s.dead
 ·have e0 : deadErr s = 0 := by simp [deadErr, hd]
  have e1 : faultOf s i = if 0 ≤ i ∧ i < n then 0 else 1 := by simp [faultOf, hd, hn]
  rw [e1]
  clear hn hd e1
  by_cases h0 : i < 0
  ·rw [if_neg (by omega)]
   go_enter Tryz.func142, Tryz.ntmps142
   go_wp2_with (go_at_call 150; refine (power_any P r s _ hk).mono ?_; rw [e0]; rintro e w' ⟨rfl, rfl⟩)
   go_ret
   exact ⟨rfl, rfl⟩
  by_cases h1 : (n : Int) ≤ i
  ·rw [if_neg (by omega)]
   go_enter Tryz.func142, Tryz.ntmps142
   go_wp2_with (go_at_call 150; refine (power_any P r s _ hk).mono ?_; rw [e0]; rintro e w' ⟨rfl, rfl⟩)
   go_ret
   exact ⟨rfl, rfl⟩
  ·rw [if_pos (by omega)]
   go_enter Tryz.func142, Tryz.ntmps142
   go_wp2_with (go_at_call 150; refine (power_any P r s _ hk).mono ?_; rw [e0]; rintro e w' ⟨rfl, rfl⟩)
   go_ret
   exact ⟨rfl, rfl⟩
 ·have e0 : deadErr s = 13 := by simp [deadErr, hd]
  have e1 : faultOf s i = 13 := by simp [faultOf, hd]
  rw [e1]
  clear hn hd e1
  go_enter Tryz.func142, Tryz.ntmps142
  go_wp2_with (go_at_call 150; refine (power_any P r s _ hk).mono ?_; rw [e0]; rintro e w' ⟨rfl, rfl⟩)
  go_ret
  exact ⟨rfl, rfl⟩
end
section
theorem DkAt.retop {w w' : World} {P : Nat → Prop} {r bn bk : Nat} {sv : Value} {s s' : Dsk} (h : DkAt w P r bn bk sv s) (hm : Moved (· = r) w w') (e1 : s'.now = s.now) (e2 : s'.kept = s.kept) (e3 : s'.since = s.since)
 (ht : Top w' r bn bk sv s') : DkAt w' P r bn bk sv s' := by
 refine ⟨h.n1, h.n2, h.n3, h.n4, h.n5, h.n6, h.p1, h.p2, h.p3, h.p4, ht, ?_, ?_, ?_, ?_, ?_, ?_, ?_⟩
 ·rw [e1]; exact h.bnow.moved hm (Ne.symm h.n1)
 ·rw [e2]; exact h.bkept.moved hm (Ne.symm h.n2)
 ·rw [e1, e2]; exact h.len
 ·rw [e1]; exact h.most
 ·rw [e3]; exact owns_moved h.row hm (fun k hk e => h.n4 (by rw [hk, e]))
 ·rw [e1, e3]; exact h.ats
 ·rw [e1, e2, e3]; exact h.short
theorem DkAt.stepped {w : World} {P : Nat → Prop} {r bn bk : Nat} {sv : Value} {s : Dsk} (h : DkAt w P r bn bk sv s) (o st : Int) (d : Bool) (ho : o = (s.ops : Int) + 1) (hst : st = ((s.stop - 1 : Nat) : Int)) (hd : d = (s.stop == 1)) :
 DkAt (((w.setCell ⟨r, 3, none⟩ (.int .i64 o)).setCell ⟨r, 5, none⟩ (.bool d)).setCell ⟨r, 4, none⟩ (.int .i64 st)) P r bn bk sv s.step ∧
 Moved P w (((w.setCell ⟨r, 3, none⟩ (.int .i64 o)).setCell ⟨r, 5, none⟩ (.bool d)).setCell ⟨r, 4, none⟩ (.int .i64 st)) := by
 subst ho hst hd
 have hm : Moved (· = r) w (((w.setCell ⟨r, 3, none⟩ (.int .i64 ((s.ops : Int) + 1))).setCell ⟨r, 5, none⟩ (.bool (s.stop == 1))).setCell ⟨r, 4, none⟩ (.int .i64 ((s.stop - 1 : Nat) : Int))) :=
  (((Moved.refl (· = r) w).setCell ⟨r, 3, none⟩ _ (.inl rfl)).setCell ⟨r, 5, none⟩ _ (.inl rfl)).setCell ⟨r, 4, none⟩ _ (.inl rfl)
 exact ⟨h.retop hm rfl rfl rfl (((Blk.set h.top 3 _).set 5 _).set 4 _), hm.mono (by rintro j rfl; exact h.p1)⟩
theorem step_any (P : Nat → Prop) (r : Nat) (s : Dsk) (w : World) (h : Dk w P r s) (ho : s.ops ≤ 4611686018427387904) (hst : s.stop ≤ 9223372036854775807) :
 Calls Tryz.prog 149 #[.pointer (some ⟨r, 0, none⟩)] w fun e w' => e = .returned (.int .i64 (deadErr s.step)) ∧ Dk w' P r s.step ∧ Moved P w w' := by
 obtain ⟨bn, bk, sv, h⟩ := h
 obtain ⟨-, -, -, c3, c4, c5, cf⟩ := h.top.cells
 have f3 := cf 3
 have f4 := cf 4
 have f5 := cf 5
 clear cf
 obtain h0 | h1 | h2 : s.stop = 0 ∨ s.stop = 1 ∨ 2 ≤ s.stop := by omega
 ·have HS := Lib.hid (h.stepped ((s.ops : Int) + 1) 0 false rfl (by simp [h0]) (by simp [h0]))
  rw [h0] at c4
  clear h h0 hst
  go_enter Tryz.func149, Tryz.ntmps149
  go_wp2_with fail
  refine (power_any P r s.step _ ⟨bn, bk, sv, HS.out.1⟩).mono ?_
  rintro e w' ⟨rfl, rfl⟩
  go_wp2
  go_ret
  exact ⟨rfl, ⟨bn, bk, sv, HS.out.1⟩, HS.out.2⟩
 ·have HS := Lib.hid (h.stepped ((s.ops : Int) + 1) 0 true rfl (by simp [h1]) (by simp [h1]))
  rw [h1] at c4
  clear h h1 hst
  go_enter Tryz.func149, Tryz.ntmps149
  go_wp2_with fail
  refine (power_any P r s.step _ ⟨bn, bk, sv, HS.out.1⟩).mono ?_
  rintro e w' ⟨rfl, rfl⟩
  go_wp2
  go_ret
  exact ⟨rfl, ⟨bn, bk, sv, HS.out.1⟩, HS.out.2⟩
 ·have HS := Lib.hid (h.stepped ((s.ops : Int) + 1) ((s.stop : Int) - 1) ((s.stop : Int) == 1) rfl (by omega) (by rw [Bool.eq_iff_iff]; simp; omega))
  clear h
  go_enter Tryz.func149, Tryz.ntmps149
  go_wp2_with fail
  refine (power_any P r s.step _ ⟨bn, bk, sv, HS.out.1⟩).mono ?_
  rintro e w' ⟨rfl, rfl⟩
  go_wp2
  go_ret
  exact ⟨rfl, ⟨bn, bk, sv, HS.out.1⟩, HS.out.2⟩
end
section
theorem Tryz.infoStr : (Tryz.prog.info? 9).map (fun i => (i.zero, i.size, i.bytes)) = some (some (.string ByteArray.empty), 1, 16) := by kernel_rfl
def Dsk.new (n : Nat) : Dsk := ⟨List.replicate n ByteArray.empty, List.replicate n ByteArray.empty, [], 0, 0, false⟩
def sizeOf' (x : Int) : Nat := (min (max x 1) 3000).toNat
theorem made_strs (n : Nat) : madeCells #[.string ByteArray.empty] (n * 1) = (strs (List.replicate n ByteArray.empty)).toArray := by
 apply Array.ext'
 rw [Nat.mul_one, toList_madeCells_one]
 simp [strs]
theorem run_make_strs (n : Nat) (m : Int) (hm : m = n) (hn : n ≤ 3000) (w : World) :
 (Instr.makeSlice 35 (.int .i64 m) (.int .i64 m)).run Tryz.prog w = .ok (.slice (some ⟨w.heap.size, 0, none⟩) n n) (w.alloc (.cells (strs (List.replicate n ByteArray.empty)).toArray 9)) := by
 subst hm
 obtain ⟨i0, hi, hz0, hz1, hz2⟩ := info_parts Tryz.infoStr
 have h := run_make (P := Tryz.prog) w 35 9 i0 (.string ByteArray.empty) Tryz.underlying35 hi hz0 .i64 .i64 n n (by omega) (Int.le_refl _) (by rw [hz2]; omega) (by omega)
 simp only [Int.toNat_natCast, hz1] at h
 rw [h, ← made_strs]
 rfl
/-- A new disk, its two rows in either order. -/
theorem new_at (w : World) (n b1 b2 : Nat) (hn : n ≤ 3000) (hb : (b1 = w.heap.size ∧ b2 = w.heap.size + 1) ∨ (b1 = w.heap.size + 1 ∧ b2 = w.heap.size)) (sd : Value) (hsd : sd = .slice none 0 0) (z1 z2 : Int) (h1 : z1 = 0) (h2 : z2 = 0) (cs : Array Value) (hcs : cs = (strs (List.replicate n ByteArray.empty)).toArray) :
 Dk (((w.alloc (.cells cs 9)).alloc (.cells cs 9)).alloc (.cells #[.slice (some ⟨b1, 0, none⟩) n n, .slice (some ⟨b2, 0, none⟩) n n, sd, .int .i64 z1, .int .i64 z2, .bool false] 76))
  (fun k => w.heap.size ≤ k) (w.heap.size + 2) (Dsk.new n) := by
 subst hcs h1 h2 hsd
 obtain ⟨cs, hcs⟩ : ∃ cs, cs = (strs (List.replicate n ByteArray.empty)).toArray := ⟨_, rfl⟩
 have hl : (List.replicate n ByteArray.empty).length = n := by simp
 have B0 : Blk (((w.alloc (.cells cs 9)).alloc (.cells cs 9)).alloc (.cells #[.slice (some ⟨b1, 0, none⟩) n n, .slice (some ⟨b2, 0, none⟩) n n, .slice none 0 0, .int .i64 0, .int .i64 0, .bool false] 76)) w.heap.size cs 9 :=
  ((Blk.new w cs _).alloc _).alloc _
 have B1 : Blk (((w.alloc (.cells cs 9)).alloc (.cells cs 9)).alloc (.cells #[.slice (some ⟨b1, 0, none⟩) n n, .slice (some ⟨b2, 0, none⟩) n n, .slice none 0 0, .int .i64 0, .int .i64 0, .bool false] 76)) (w.heap.size + 1) cs 9 := by
  have := (Blk.new (w.alloc (.cells cs 9)) cs 9).alloc (.cells #[.slice (some ⟨b1, 0, none⟩) n n, .slice (some ⟨b2, 0, none⟩) n n, .slice none 0 0, .int .i64 0, .int .i64 0, .bool false] 76)
  simpa using this
 have B2 : Blk (((w.alloc (.cells cs 9)).alloc (.cells cs 9)).alloc (.cells #[.slice (some ⟨b1, 0, none⟩) n n, .slice (some ⟨b2, 0, none⟩) n n, .slice none 0 0, .int .i64 0, .int .i64 0, .bool false] 76)) (w.heap.size + 2) #[.slice (some ⟨b1, 0, none⟩) n n, .slice (some ⟨b2, 0, none⟩) n n, .slice none 0 0, .int .i64 0, .int .i64 0, .bool false] 76 := by
  have := Blk.new ((w.alloc (.cells cs 9)).alloc (.cells cs 9)) #[.slice (some ⟨b1, 0, none⟩) n n, .slice (some ⟨b2, 0, none⟩) n n, .slice none 0 0, .int .i64 0, .int .i64 0, .bool false] 76
  simpa using this
 rw [← hcs]
 refine ⟨b1, b2, .slice none 0 0, by omega, by omega, by omega, by simp [Value.ownBlock], by simp [Value.ownBlock], by simp [Value.ownBlock], by show _ ≤ _; omega, by show _ ≤ _; omega, by show _ ≤ _; omega, by simp [Value.ownBlock], ?_, ?_, ?_, ?_, ?_, ?_, ?_, ?_⟩
 ·unfold Top sl Dsk.new
  simp only [hl]
  exact B2
 ·show Blk _ _ (strs (List.replicate n ByteArray.empty)).toArray _
  rw [← hcs]
  rcases hb with ⟨rfl, rfl⟩ | ⟨rfl, rfl⟩
  ·exact B0
  ·exact B1
 ·show Blk _ _ (strs (List.replicate n ByteArray.empty)).toArray _
  rw [← hcs]
  rcases hb with ⟨rfl, rfl⟩ | ⟨rfl, rfl⟩
  ·exact B1
  ·exact B0
 ·simp [Dsk.new]
 ·simp [Dsk.new]; omega
 ·exact World.ownsRow_nil _ _ _ _
 ·simp [Dsk.new]
 ·refine ⟨fun x hx => ?_, fun x hx => ?_, by simp [Dsk.new]⟩
  ·rw [(List.mem_replicate.1 hx).2]; decide
  ·rw [(List.mem_replicate.1 hx).2]; decide
theorem dnew_any (x : Int) (w : World) :
 Calls Tryz.prog 9 #[.int .i64 x] w fun e w' => ∃ r P, e = .returned (.pointer (some ⟨r, 0, none⟩)) ∧ Dk w' P r (Dsk.new (sizeOf' x)) ∧ Below w.heap.size w w' ∧ ∀ k, P k → w.heap.size ≤ k := by
 obtain ⟨n, hn⟩ : ∃ n, n = sizeOf' x := ⟨_, rfl⟩
 have hn1 : (n : Int) = min (max x 1) 3000 := by rw [hn]; unfold sizeOf'; omega
 rw [← hn]
 clear hn
 have hle : n ≤ 3000 := by omega
 have HB := fun b1 b2 hb => Lib.hid (new_at w n b1 b2 hle hb _ rfl 0 0 rfl rfl _ rfl)
 have hbel : ∀ o1 o2 o3, Below w.heap.size w (((w.alloc o1).alloc o2).alloc o3) := fun o1 o2 o3 => (((Below.refl _ w).alloc (Nat.le_refl _) o1).alloc (by simp) o2).alloc (by simp; omega) o3
 have HL := Lib.hid hbel
 obtain h | h | h : x < 1 ∨ 3000 < x ∨ (1 ≤ x ∧ x ≤ 3000) := by omega
 ·have hmk := run_make_strs n 1 (by omega) hle
  clear hn1 hbel
  go_enter Tryz.func9, Tryz.ntmps9
  go_wp2_with fail
  go_region
  all_goals go_wp2
  all_goals go_ret
  ·exact ⟨_, _, rfl, (HB _ _ (.inl ⟨rfl, rfl⟩)).out.drew, (HL.out _ _ _).drew, fun _ h => h⟩
  ·exact ⟨_, _, rfl, (HB _ _ (.inr ⟨rfl, rfl⟩)).out.drew, (HL.out _ _ _).drew, fun _ h => h⟩
 ·have hmk := run_make_strs n 3000 (by omega) hle
  clear hn1 hbel
  go_enter Tryz.func9, Tryz.ntmps9
  go_wp2_with fail
  go_region
  all_goals go_wp2
  all_goals go_ret
  ·exact ⟨_, _, rfl, (HB _ _ (.inl ⟨rfl, rfl⟩)).out.drew, (HL.out _ _ _).drew, fun _ h => h⟩
  ·exact ⟨_, _, rfl, (HB _ _ (.inr ⟨rfl, rfl⟩)).out.drew, (HL.out _ _ _).drew, fun _ h => h⟩
 ·have hmk := run_make_strs n x (by omega) hle
  obtain ⟨h1, h2⟩ := h
  clear hn1 hbel
  go_enter Tryz.func9, Tryz.ntmps9
  go_wp2_with fail
  go_region
  all_goals go_wp2
  all_goals go_ret
  ·exact ⟨_, _, rfl, (HB _ _ (.inl ⟨rfl, rfl⟩)).out.drew, (HL.out _ _ _).drew, fun _ h => h⟩
  ·exact ⟨_, _, rfl, (HB _ _ (.inr ⟨rfl, rfl⟩)).out.drew, (HL.out _ _ _).drew, fun _ h => h⟩
end
section
/-- Noughts. (Behind a name: simp writes a numeral's replicate out.) -/
def zeros (n : Nat) : List UInt8 := List.replicate n 0
theorem zeros_length (n : Nat) : (zeros n).length = n := by simp [zeros]
theorem zeros_drop (n k : Nat) : (zeros n).drop k = zeros (n - k) := by simp [zeros]
/-- A sector: what was written, with noughts behind. -/
def pad (s : ByteArray) : List UInt8 := s.data.toList ++ zeros (512 - s.size)
def sect (s : Dsk) (i : Int) : ByteArray := s.now.getD i.toNat ByteArray.empty
def readOf (s : Dsk) (i : Int) : List UInt8 := if faultOf s i = 0 then pad (sect s i) else []
theorem size_toList (s : ByteArray) : s.data.toList.length = s.size := by rw [Array.length_toList]; rfl
theorem pad_length (s : ByteArray) (hs : s.size ≤ 512) : (pad s).length = 512 := by rw [pad, List.length_append, size_toList, zeros_length]; omega
theorem made_bytes (n : Nat) : madeCells #[.int .u8 0] (n * 1) = (vbs (zeros n)).toArray := by
 apply Array.ext'
 rw [Nat.mul_one, toList_madeCells_one]
 simp [vbs, vb, zeros]
theorem run_make_bytes (n : Nat) (m : Int) (hm : m = n) (hn : n ≤ 1099511627776) (w : World) :
 (Instr.makeSlice 131 (.int .i64 m) (.int .i64 m)).run Tryz.prog w = .ok (.slice (some ⟨w.heap.size, 0, none⟩) n n) (w.alloc (.cells (vbs (zeros n)).toArray 5)) := by
 subst hm
 obtain ⟨i0, hi, hz0, hz1, hz2⟩ := info_parts Tryz.infoU8
 have h := run_make (P := Tryz.prog) w 131 5 i0 (.int .u8 0) Tryz.underlying131 hi hz0 .i64 .i64 n n (by omega) (Int.le_refl _) (by rw [hz2]; omega) (by omega)
 simp only [Int.toNat_natCast, hz1] at h
 rw [h, ← made_bytes]
 rfl
theorem Blk.own {w : World} {g : Nat} {l : List UInt8} {base : Nat} (h : Blk w g (vbs l).toArray 5) (hb : base ≤ g) (hl : l.length ≤ maxLen) : Own w base (.slice (some ⟨g, 0, none⟩) l.length l.length) l :=
 ⟨by simp [vbs], .inr ⟨g, l.length, _, rfl, hb, h, Nat.le_refl _, hl, by simp [vbs], by rw [Nat.mul_one]; exact List.take_of_length_le (by simp [vbs])⟩⟩
set_option maxRecDepth 100000 in
/-- copy(b, s), b a new row of a sector's bytes. -/
theorem wpList_copy_pad {w : World} {ops : Array Oper} {rest : List Oper} {o : Oper} {a : Act} {Q : Exit → Act → World → Prop} (hgd : o.guard = none) (d x : Operand)
 (ho : o.op = .call { callee := .builtin .copy, args := #[d, x], argTypes := #[131, 9] }) (g : Nat) (s : ByteArray)
 (hd : a.eval d = .slice (some ⟨g, 0, none⟩) 512 512) (hx : a.eval x = .string s) (hg : Blk w g (vbs (zeros 512)).toArray 5) (hs : s.size ≤ 512)
 (h : ∀ w', Blk w' g (vbs (pad s)).toArray 5 → w.grownBy w' (some g) → wpList Tryz.prog ops Q rest (a.put o.dst (goInt s.size)) w') : wpList Tryz.prog ops Q (o :: rest) a w := by
 refine wpList_plain hgd fun K hK => ?_
 have hsz : (Tryz.prog.info? 5).map (·.size) = some 1 := by kernel_rfl
 have hrun := Lib.run_copy_row_string (P := Tryz.prog) w 131 9 o.type 5 g 0 512 512 s _ 5 Tryz.underlying131 hsz hg hs (by rw [List.size_toArray, vbs_length, zeros_length]; omega)
 have e : (((vbs (zeros 512)).toArray.toList.take 0 ++ Lib.byteCells s.data.toList ++ (vbs (zeros 512)).toArray.toList.drop (0 + s.size)).toArray : Array Value) = (vbs (pad s)).toArray := by
  rw [List.take_zero, List.nil_append, Nat.zero_add, pad, vbs_append, ← zeros_drop]
  congr 2
  exact (List.map_drop ..).symm
 rw [e] at hrun
 unfold Oper.wp
 simp [execOp, ho, resolve, invoke, builtin, hd, hx, hrun, Result.andThen]
 exact hK _ _ (h _ (setRow_heap w g _ _ _ _ hg) ⟨rfl, rfl, rfl, by simp [World.setRow], fun k _ hk => setRow_other w g k _ (fun e => hk (by simp [e]))⟩)
theorem read_any (P : Nat → Prop) (r : Nat) (s : Dsk) (i : Int) (w : World) (h : Dk w P r s) :
 Calls Tryz.prog 106 #[.pointer (some ⟨r, 0, none⟩), .int .i64 i] w fun e w' =>
  ∃ v, e = .returned (.tuple #[v, .int .i64 (faultOf s i)]) ∧ Own w' w.heap.size v (readOf s i) ∧ Below w.heap.size w w' := by
 by_cases hf : faultOf s i = 0
 ·have e1 : readOf s i = pad (sect s i) := by simp [readOf, hf]
  have hk := h
  obtain ⟨bn, bk, sv, h⟩ := h
  have hi : 0 ≤ i ∧ i < s.now.length := by
   unfold faultOf at hf
   split at hf
   ·simp at hf
   ·split at hf
    ·assumption
    ·simp at hf
  obtain ⟨k, rfl⟩ : ∃ k : Nat, i = k := ⟨i.toNat, by omega⟩
  have hkn : k < s.now.length := by omega
  obtain ⟨x, hx⟩ : ∃ x, x = sect s k := ⟨_, rfl⟩
  have hcx : w.cell? ⟨bn, k, none⟩ = some (.string x) := by
   rw [h.bnow.cell, hx]
   simp [strs, sect, hkn, List.getD]
  have hx2 : x.size ≤ 512 := by
   rw [hx]
   simp [sect, hkn, List.getD]
   exact h.short.1 _ (List.getElem_mem _)
  obtain ⟨c0, -, -, -, -, -, -⟩ := h.top.cells
  have hlr : r < w.heap.size := h.top.lt
  have hlb : bn < w.heap.size := h.bnow.lt
  have hmost := h.most
  have c0' : ∀ o, (w.alloc o).cell? ⟨r, 0, none⟩ = some (.slice (some ⟨bn, 0, none⟩) s.now.length s.now.length) := fun o => by
   rw [World.cell?_of_block (w := w) (Below.heap_alloc w o r hlr)]; exact c0
  have hcx' : ∀ o, (w.alloc o).cell? ⟨bn, k, none⟩ = some (.string x) := fun o => by
   rw [World.cell?_of_block (w := w) (Below.heap_alloc w o bn hlb)]; exact hcx
  have hmk := run_make_bytes 512 512 rfl (by omega)
  have hnb := Blk.new w (vbs (zeros 512)).toArray 5
  have hown : ∀ w', Blk w' w.heap.size (vbs (pad x)).toArray 5 → Own w' w.heap.size (.slice (some ⟨w.heap.size, 0, none⟩) 512 512) (pad x) := fun w' hb => by
   have := hb.own (base := w.heap.size) (Nat.le_refl _) (by rw [pad_length _ hx2]; simp [maxLen])
   rwa [pad_length _ hx2] at this
  have HO := Lib.hid hown
  have hbl : ∀ o, Below w.heap.size w (w.alloc o) := fun o => (Below.refl _ w).alloc (Nat.le_refl _) o
  have HL := Lib.hid hbl
  obtain ⟨n, hn⟩ : ∃ n, n = s.now.length := ⟨_, rfl⟩
  rw [e1, ← hx, hf]
  rw [← hn] at hkn hmost c0'
  clear h hi c0 hcx hlr hlb e1 hown hbl hx hn
  go_enter Tryz.func106, Tryz.ntmps106
  go_wp2
  go_step3
  go_wp2_with (first | (go_at_call 142; refine (fault_any P r s k _ hk).mono ?_; rw [hf]; rintro e w' ⟨rfl, rfl⟩) | (with_reducible refine wpList_copy_pad rfl _ _ rfl _ x rfl rfl hnb hx2 ?_; intro w2 hb2 hg2))
  go_step3
  go_wp2
  rw [Exit.noGoto_ret]
  go_ret2
  exact ⟨_, rfl, HO.out _ hb2, (HL.out _).grown hg2 (by simp) (fun q hq => by simp at hq; omega)⟩
 ·have e1 : readOf s i = [] := by simp [readOf, hf]
  rw [e1]
  clear e1
  obtain ⟨f, hF⟩ : ∃ f, f = faultOf s i := ⟨_, rfl⟩
  have HF := Lib.hid hF
  rw [← hF] at hf ⊢
  clear hF
  have hb : (f != 0) = true := by simpa using hf
  go_enter Tryz.func106, Tryz.ntmps106
  go_wp2_with fail
  refine wp_scope_jumps 0 (fun a' w' => a' = { tmps := #[.pointer (some ⟨r, 0, none⟩), .int .i64 i, undef, undef, .slice none 0 0, .int .i64 0, .slice none 0 0, .int .i64 f, .pointer (some ⟨r, 0, none⟩), .int .i64 i, .int .i64 f, .int .i64 f, .bool true, undef, undef, undef, undef, undef, undef, undef, undef, undef, undef, undef, undef], defers := [] } ∧ w' = w) (fun _ _ => 0) rfl ?_ ?_
  ·go_wp2_with (go_at_call 142; refine (fault_any P r s i _ h).mono ?_; rw [← HF.out]; rintro e w' ⟨rfl, rfl⟩)
   go_step3
   exact ⟨rfl, rfl, rfl⟩
  ·rintro a' w' ⟨rfl, rfl⟩
   go_wp2
   simp only [Exit.jump]
   go_ret2
   exact ⟨_, rfl, ⟨by simp [vbs], .inl ⟨rfl, rfl⟩⟩, Below.refl _ _⟩
end
section
theorem Tryz.infoWrite : (Tryz.prog.info? 209).map (fun i => (i.zero, i.size, i.bytes)) = some (some (.agg #[.int .i64 0, .string ByteArray.empty]), 2, 24) := by kernel_rfl
def Dsk.put (s : Dsk) (k : Nat) (x : ByteArray) : Dsk := { s with now := s.now.set k x, since := s.since ++ [(k, x)] }
def writeErr (s : Dsk) (i : Int) (l : List UInt8) : Int := if faultOf s i ≠ 0 then faultOf s i else if 512 < l.length then 1 else deadErr (s.put i.toNat ⟨l.toArray⟩).step
def Dsk.write (s : Dsk) (i : Int) (l : List UInt8) : Dsk := if faultOf s i = 0 ∧ l.length ≤ 512 then (s.put i.toNat ⟨l.toArray⟩).step else s
theorem wcells_snoc (l : List (Nat × ByteArray)) (p : Nat × ByteArray) : wcells (l ++ [p]) = wcells l ++ [.int .i64 (p.1 : Int), .string p.2] := by simp [wcells]
theorem strs_set (l : List ByteArray) (k : Nat) (x : ByteArray) : (strs l).toArray.setIfInBounds k (.string x) = (strs (l.set k x)).toArray := by
 apply Array.ext'
 simp [strs, List.map_set]
/-- d.since = append(d.since, write{at, b}) -/
theorem step_since {ops : Array Oper} {o : Oper} {a : Act} {w : World} {K : Act → World → Prop} {Q : Exit → Act → World → Prop} {E : Prop} (hgd : o.guard = none) (s x : Operand)
 (ho : o.op = .call { callee := .builtin .append, args := #[s, x], argTypes := #[74, 74] })
 (v : Value) (l : List (Nat × ByteArray)) (hs : a.eval s = v) (hown : w.ownsRow 0 209 2 v l.length (wcells l))
 (g0 : Nat) (hx : a.eval x = .slice (some ⟨g0, 0, none⟩) 1 1) (k : Nat) (b : ByteArray) (hg : Blk w g0 #[.int .i64 (k : Int), .string b] 209) (hl : l.length ≤ 1073741824)
 (h : ∀ g cap w', w'.ownsRow 0 209 2 (.slice (some ⟨g, 0, none⟩) (l.length + 1) cap) (l.length + 1) (wcells (l ++ [(k, b)])) → w.grownBy w' v.ownBlock → (v.ownBlock = some g ∨ g = w.heap.size) → g < w'.heap.size →
  K (a.put o.dst (.slice (some ⟨g, 0, none⟩) (l.length + 1) cap)) w') :
 if Region.wanted o (yielded ops a.tmps) = true then Oper.wp Tryz.prog o a w K Q else E := by
 obtain ⟨i0, hi, hz0, hz1, hz2⟩ := info_parts Tryz.infoWrite
 refine step_append_lies w hgd s x _ ho 0 209 i0 _ 2 24 Tryz.underlying74 hi hz0 hz1 hz2 rfl (by decide) v l.length (wcells l) hs hown ⟨g0, 0, none⟩ 1 1 [.int .i64 (k : Int), .string b] hx rfl ?_ ?_ (by decide) (by simp [maxLen]; omega) (by omega) (Nat.zero_le _) _ rfl ?_
 ·intro j u hj
  rw [show (⟨g0, 0, none⟩ : Addr).add j = ⟨g0, j, none⟩ from by unfold Addr.add; split <;> simp_all, hg.cell]
  simpa using hj
 ·intro u hu
  simp at hu
  rcases hu with rfl | rfl <;> rfl
 ·intro g cap w' h1 h2 h3 h4
  exact h g cap w' (by rw [wcells_snoc]; exact h1) h2 h3 h4
theorem grown_keep {w w' : World} {row : Option Nat} {b : Nat} {cur : Array Value} {t : TypeId} (hg : w.grownBy w' row) (h : Blk w b cur t) (hne : row ≠ some b) : Blk w' b cur t :=
 (hg.block b h.lt (Ne.symm hne)).trans h
theorem DkAt.drew {w : World} {P : Nat → Prop} {r bn bk : Nat} {sv : Value} {s : Dsk} (h : DkAt w P r bn bk sv s) : DkAt w.drew P r bn bk sv s :=
 ⟨h.n1, h.n2, h.n3, h.n4, h.n5, h.n6, h.p1, h.p2, h.p3, h.p4, h.top, h.bnow, h.bkept, h.len, h.most, h.row, h.ats, h.short⟩
theorem DkAt.wrote {w : World} {P : Nat → Prop} {r bn bk : Nat} {sv : Value} {s : Dsk} (h : DkAt w P r bn bk sv s) (k : Nat) (x : ByteArray) (hx : x.size ≤ 512) :
 DkAt (w.setCell ⟨bn, k, none⟩ (.string x)) P r bn bk sv { s with now := s.now.set k x } ∧ Moved P w (w.setCell ⟨bn, k, none⟩ (.string x)) := by
 have hm : Moved (· = bn) w (w.setCell ⟨bn, k, none⟩ (.string x)) := (Moved.refl (· = bn) w).setCell ⟨bn, k, none⟩ _ (.inl rfl)
 refine ⟨⟨h.n1, h.n2, h.n3, h.n4, h.n5, h.n6, h.p1, h.p2, h.p3, h.p4, ?_, ?_, h.bkept.moved hm (Ne.symm h.n3), ?_, ?_, owns_moved h.row hm (fun q hq e => h.n5 (by rw [hq, e])), ?_, ?_, h.short.2⟩, hm.mono (by rintro j rfl; exact h.p2)⟩
 ·have := Blk.moved h.top hm h.n1
  simpa [Top] using this
 ·have := h.bnow.set k (.string x)
  rwa [strs_set] at this
 ·simpa using h.len
 ·simpa using h.most
 ·intro p hp
  simpa using h.ats p hp
 ·intro y hy
  rcases List.mem_or_eq_of_mem_set hy with hy | rfl
  ·exact h.short.1 y hy
  ·exact hx
theorem DkAt.appended {w w' : World} {P : Nat → Prop} {r bn bk : Nat} {sv : Value} {s : Dsk} (h : DkAt w P r bn bk sv s) (k : Nat) (x : ByteArray) (hx : x.size ≤ 512) (hk : k < s.now.length) (g cap H : Nat)
 (h1 : w'.ownsRow 0 209 2 (.slice (some ⟨g, 0, none⟩) (s.since.length + 1) cap) (s.since.length + 1) (wcells (s.since ++ [(k, x)]))) (h2 : Moved (fun j => sv.ownBlock = some j) w w') (h3 : sv.ownBlock = some g ∨ g = H) (hH : w.heap.size ≤ H) (hr : r < w.heap.size) :
 DkAt (w'.setCell ⟨r, 2, none⟩ (.slice (some ⟨g, 0, none⟩) (s.since.length + 1) cap)) (fun j => P j ∨ j = H) r bn bk (.slice (some ⟨g, 0, none⟩) (s.since.length + 1) cap) { s with since := s.since ++ [(k, x)] } ∧
 Moved P w (w'.setCell ⟨r, 2, none⟩ (.slice (some ⟨g, 0, none⟩) (s.since.length + 1) cap)) := by
 have hbn := h.bnow.lt
 have hbk := h.bkept.lt
 have hgr : g ≠ r := by
  rcases h3 with h3 | h3
  ·intro e; exact h.n4 (by rw [h3, e])
  ·omega
 have hgn : g ≠ bn := by
  rcases h3 with h3 | h3
  ·intro e; exact h.n5 (by rw [h3, e])
  ·omega
 have hgk : g ≠ bk := by
  rcases h3 with h3 | h3
  ·intro e; exact h.n6 (by rw [h3, e])
  ·omega
 have hm : Moved (· = r) w' (w'.setCell ⟨r, 2, none⟩ (.slice (some ⟨g, 0, none⟩) (s.since.length + 1) cap)) := (Moved.refl (· = r) w').setCell ⟨r, 2, none⟩ _ (.inl rfl)
 refine ⟨⟨h.n1, h.n2, h.n3, by simpa [Value.ownBlock] using hgr, by simpa [Value.ownBlock] using hgn, by simpa [Value.ownBlock] using hgk, .inl h.p1, .inl h.p2, .inl h.p3, ?_, ?_, ?_, ?_, h.len, h.most, ?_, ?_, ?_⟩, ?_⟩
 ·intro q hq
  simp [Value.ownBlock] at hq
  subst hq
  rcases h3 with h3 | h3
  ·exact .inl (h.p4 _ h3)
  ·exact .inr h3
 ·have := (Blk.moved h.top h2 h.n4).set 2 (.slice (some ⟨g, 0, none⟩) (s.since.length + 1) cap)
  exact this
 ·exact (h.bnow.moved h2 h.n5).moved hm (Ne.symm h.n1)
 ·exact (h.bkept.moved h2 h.n6).moved hm (Ne.symm h.n2)
 ·have := owns_moved h1 hm (fun q hq e => by simp [Value.ownBlock] at hq; omega)
  simpa using this
 ·intro p hp
  rcases List.mem_append.1 hp with hp | hp
  ·exact h.ats p hp
  ·simp at hp; subst hp; exact hk
 ·refine ⟨h.short.1, h.short.2.1, fun p hp => ?_⟩
  rcases List.mem_append.1 hp with hp | hp
  ·exact h.short.2.2 p hp
  ·simp at hp; subst hp; exact hx
 ·exact (h2.mono (fun j hj => h.p4 j hj)).trans hm (fun j hj => .inl (by subst hj; exact h.p1))
end
section
theorem write_any (P : Nat → Prop) (r : Nat) (s : Dsk) (i : Int) (v : Value) (l : List UInt8) (w : World) (h : Dk w P r s) (hb : Bs w v l) (ho : s.ops ≤ 4611686018427387904) (hst : s.stop ≤ 9223372036854775807) (hsl : s.since.length ≤ 1073741824) :
 Calls Tryz.prog 123 #[.pointer (some ⟨r, 0, none⟩), .int .i64 i, v] w fun e w' =>
  e = .returned (.int .i64 (writeErr s i l)) ∧ ∃ P', Dk w' P' r (s.write i l) ∧ Moved P w w' ∧ ∀ k, P' k → P k ∨ w.heap.size ≤ k := by
 by_cases hf : faultOf s i = 0
 ·by_cases hl : (512 : Int) < l.length
  ·have e1 : writeErr s i l = 1 := by rw [writeErr, if_neg (by simpa using hf), if_pos (by omega)]
   have e2 : s.write i l = s := by rw [Dsk.write, if_neg (by omega)]
   rw [e1, e2]
   clear e1 e2
   obtain ⟨ao, cap, rfl, hc1, hc2, -⟩ := hb
   have hk := h
   clear h hc1 hc2
   go_enter Tryz.func123, Tryz.ntmps123
   go_wp2_with fail
   refine wp_scope_jumps 0 (fun a' w' => a' = { tmps := #[.pointer (some ⟨r, 0, none⟩), .int .i64 i, (.slice ao l.length cap), undef, undef, undef, .int .i64 0, .int .i64 1, .pointer (some ⟨r, 0, none⟩), .int .i64 i, .int .i64 0, .int .i64 0, .bool false, .slice ao l.length cap, .int .i64 (l.length : Int), .bool true, undef, undef, undef, undef, undef, undef, undef, undef, undef, undef, undef, undef, undef, undef, undef, undef, undef, undef, undef, undef, undef, undef, undef, undef, undef, undef, undef, undef, undef], defers := [] } ∧ w' = w) (fun _ _ => 0) rfl ?_ ?_
   ·go_wp2_with (go_at_call 142; refine (fault_any P r s i _ hk).mono ?_; rw [hf]; rintro e w' ⟨rfl, rfl⟩)
    go_step3
    exact ⟨rfl, rfl, rfl⟩
   ·rintro a' w' ⟨rfl, rfl⟩
    go_wp2
    simp only [Exit.jump]
    go_ret
    exact ⟨rfl, P, hk, Moved.refl _ _, fun _ h => .inl h⟩
  ·have e1 : writeErr s i l = deadErr (s.put i.toNat ⟨l.toArray⟩).step := by rw [writeErr, if_neg (by simpa using hf), if_neg (by omega)]
   have e2 : s.write i l = (s.put i.toNat ⟨l.toArray⟩).step := by rw [Dsk.write, if_pos ⟨hf, by omega⟩]
   rw [e1, e2]
   clear e1 e2
   have hk := h
   have hi : 0 ≤ i ∧ i < s.now.length := by
    unfold faultOf at hf
    split at hf
    ·simp at hf
    ·split at hf
     ·assumption
     ·simp at hf
   obtain ⟨k, rfl⟩ : ∃ k : Nat, i = k := ⟨i.toNat, by omega⟩
   have hkn : k < s.now.length := by omega
   rw [Int.toNat_natCast]
   obtain ⟨bn, bk, sv, h⟩ := h
   have hmost := h.most
   obtain ⟨x, hx⟩ : ∃ x : ByteArray, x = ⟨l.toArray⟩ := ⟨_, rfl⟩
   have hx2 : x.size ≤ 512 := by rw [hx]; show l.toArray.size ≤ 512; simp; omega
   have hcv : (convert 131 9 v).run Tryz.prog w.drew = .ok (.string x) w.drew := by rw [hx]; exact run_conv_bytes hb.drew
   rw [← hx]
   have HW := Lib.hid (h.wrote k x hx2)
   obtain ⟨c0, c1, c2, c3, c4, c5, cf⟩ := h.top.cells
   have hcx : w.cell? ⟨bn, k, none⟩ = some (.string s.now[k]) := by rw [h.bnow.cell]; simp [strs, hkn]
   have hfx : w.frozen? ⟨bn, k, none⟩ = false := h.bnow.frozen k
   obtain ⟨ao, cap, rfl, hc1, hc2, -⟩ := hb
   have hc2' : cap ≤ 9223372036854775807 := hc2
   obtain ⟨n, hn⟩ : ∃ n, n = s.now.length := ⟨_, rfl⟩
   rw [← hn] at c0 hkn hmost
   have HN := Lib.hid hn
   clear h hi c1 c2 c3 c4 c5 cf hx hn hc2
   go_enter Tryz.func123, Tryz.ntmps123
   go_wp2
   go_step3
   go_wp2_with (go_at_call 142; refine (fault_any P r s k _ hk).mono ?_; rw [hf]; rintro e w' ⟨rfl, rfl⟩)
   go_region
   have HA := HW.out.1.drew
   have HM := Lib.hid HW.out.2.drew
   generalize (World.drew _) = w1 at HA HM ⊢
   clear HW hcx hfx hcv c0 hc1 hc2'
   obtain ⟨c0, -, c2, -, -, -, cf⟩ := HA.top.cells
   have f2 := cf 2
   have c0 : w1.cell? ⟨r, 0, none⟩ = some (.slice (some ⟨bn, 0, none⟩) n n) := by rw [c0, HN.out]; simp
   have hcx : w1.cell? ⟨bn, k, none⟩ = some (.string x) := by rw [HA.bnow.cell]; simp [strs, HN.out ▸ hkn]
   clear cf
   have HR : ∀ o, (w1.alloc o).drew.ownsRow 0 209 2 sv s.since.length (wcells s.since) := fun o => HA.row.alloc o
   have HT : ∀ o, Blk (w1.alloc o).drew r _ 76 := fun o => (Blk.alloc HA.top o).drew
   have HB : ∀ cs, Blk (w1.alloc (.cells cs 209)).drew w1.heap.size cs 209 := fun cs => (Blk.new w1 cs _).drew
   have N4 := HA.n4
   have c2' : ∀ o, (w1.alloc o).cell? ⟨r, 2, none⟩ = some sv := fun o => (Top.cells (s := { s with now := s.now.set k x }) (Blk.alloc HA.top o)).2.2.1
   clear hk hf
   go_wp2
   go_region_law (refine step_since rfl (.tmp 28) (.tmp 38) rfl sv s.since rfl (HR _) _ rfl k x (HB _) hsl ?_; intro g cap w2 ho2 hg2 hat2 hlt2; have hT2 := grown_keep hg2 (HT _) N4; obtain ⟨-, -, d2, -, -, -, df⟩ := Top.cells (s := { s with now := s.now.set k x }) hT2; have e2 := df 2; clear df)
   all_goals (
    have HZ := HA.appended k x hx2 (by simp; omega) g cap _ ho2 (((Moved.refl _ w1).alloc _).drew.grown hg2 (fun q hq => .inl hq)) hat2 (by simp) (Blk.lt HA.top)
    have hw1 : w1.heap.size ≤ (w1.alloc (.cells #[.int .i64 (k : Int), .string x] 209)).drew.heap.size := by simp
    generalize World.heap _ = hp at HZ hw1
    have HS := HM.out.size
    have HZ2 := Lib.hid (HM.out.trans HZ.2 (fun j hj => .inl hj))
    have HZ1 := HZ.1
    clear HZ HA HM c0 c2 f2 hcx N4 ho2 hg2 hat2 hlt2 hT2 d2 e2 HR HT HB c2'
    generalize (World.setCell _ _ _) = w3 at HZ1 HZ2 ⊢
    clear w2
    go_wp2_with fail
    refine (step_any _ r (s.put k x) _ ⟨_, _, _, HZ1⟩ ho hst).mono ?_
    rintro e w4 ⟨rfl, hd4, hm4⟩
    go_wp2
    go_step3
    go_wp2
    rw [Exit.noGoto_ret]
    go_ret
    refine ⟨rfl, _, hd4, HZ2.out.trans hm4 ?_, ?_⟩
    ·rintro j (hj | rfl)
     ·exact .inl hj
     ·exact .inr (Nat.le_trans HS hw1)
    ·rintro j (hj | rfl)
     ·exact .inl hj
     ·exact .inr (Nat.le_trans HS hw1))
 ·have e1 : writeErr s i l = faultOf s i := by rw [writeErr, if_pos hf]
  have e2 : s.write i l = s := by rw [Dsk.write, if_neg (fun h => hf h.1)]
  rw [e1, e2]
  clear e1 e2
  obtain ⟨f, hF⟩ : ∃ f, f = faultOf s i := ⟨_, rfl⟩
  have HF := Lib.hid hF
  rw [← hF] at hf ⊢
  clear hF
  have hfb : (f != 0) = true := by simpa using hf
  go_enter Tryz.func123, Tryz.ntmps123
  go_wp2_with fail
  refine wp_scope_jumps 0 (fun a' w' => a' = { tmps := #[.pointer (some ⟨r, 0, none⟩), .int .i64 i, v, undef, undef, undef, .int .i64 0, .int .i64 f, .pointer (some ⟨r, 0, none⟩), .int .i64 i, .int .i64 f, .int .i64 f, .bool true, undef, undef, undef, undef, undef, undef, undef, undef, undef, undef, undef, undef, undef, undef, undef, undef, undef, undef, undef, undef, undef, undef, undef, undef, undef, undef, undef, undef, undef, undef, undef, undef], defers := [] } ∧ w' = w) (fun _ _ => 0) rfl ?_ ?_
  ·go_wp2_with (go_at_call 142; refine (fault_any P r s i _ h).mono ?_; rw [← HF.out]; rintro e w' ⟨rfl, rfl⟩)
   go_step3
   exact ⟨rfl, rfl, rfl⟩
  ·rintro a' w' ⟨rfl, rfl⟩
   go_wp2
   simp only [Exit.jump]
   go_ret
   exact ⟨rfl, P, h, Moved.refl _ _, fun _ h => .inl h⟩
end
section
def syncErr (s : Dsk) : Int := if s.dead then 13 else deadErr s.step
def Dsk.sync (s : Dsk) : Dsk := if s.dead then s else if s.step.dead then s.step else { s.step with kept := s.now, since := [] }
/-- copy(a, b), two rows of so many texts. -/
theorem step_copy_row {ops : Array Oper} {o : Oper} {a : Act} {w : World} {K : Act → World → Prop} {Q : Exit → Act → World → Prop} {E : Prop} (hgd : o.guard = none) (d x : Operand)
 (ho : o.op = .call { callee := .builtin .copy, args := #[d, x], argTypes := #[35, 35] }) (bd bs n : Nat)
 (hd : a.eval d = .slice (some ⟨bd, 0, none⟩) n n) (hx : a.eval x = .slice (some ⟨bs, 0, none⟩) n n) (old new : List ByteArray) (h1 : old.length = n) (h2 : new.length = n)
 (hbd : Blk w bd (strs old).toArray 9) (hbs : Blk w bs (strs new).toArray 9)
 (h : ∀ w', Blk w' bd (strs new).toArray 9 → Moved (· = bd) w w' → K (a.put o.dst (goInt n)) w') :
 if Region.wanted o (yielded ops a.tmps) = true then Oper.wp Tryz.prog o a w K Q else E := by
 have hw : Region.wanted o (yielded ops a.tmps) = true := by simp [Region.wanted, hgd]
 rw [if_pos hw]
 have hsz : (Tryz.prog.info? 9).map (·.size) = some 1 := by kernel_rfl
 have hlen : (strs new).length = n := by simp [strs, h2]
 have hlen' : (strs old).length = n := by simp [strs, h1]
 have hrun := run_copy_row (P := Tryz.prog) w 35 35 o.type 9 bd 0 n n ⟨bs, 0, none⟩ n n (strs old).toArray 9 (strs new) Tryz.underlying35 hsz hbd (by simp [hlen])
  (fun j v hj => by rw [show (⟨bs, 0, none⟩ : Addr).add j = ⟨bs, j, none⟩ from by unfold Addr.add; split <;> simp_all, hbs.cell]; simpa using hj) (by simp [hlen, hlen'])
  (fun v hv => by obtain ⟨_, _, rfl⟩ := List.mem_map.1 hv; rfl)
 have e : ((strs old).toArray.toList.take 0 ++ strs new ++ (strs old).toArray.toList.drop (0 + (strs new).length)).toArray = (strs new).toArray := by
  rw [List.take_zero, List.nil_append, List.drop_of_length_le (by simp [hlen, hlen']), List.append_nil]
 rw [e, hlen] at hrun
 unfold Oper.wp
 simp [execOp, ho, resolve, invoke, builtin, hd, hx, hrun, Result.andThen]
 exact h _ (setRow_heap w bd _ _ _ _ hbd) ⟨rfl, rfl, rfl, by simp [World.setRow], fun k _ hk => setRow_other w bd k _ hk⟩
theorem DkAt.emptied {w w' : World} {P : Nat → Prop} {r bn bk : Nat} {sv : Value} {s : Dsk} (h : DkAt w P r bn bk sv s) (b : Nat) (hb : b = bn ∨ b = bk) (l : List ByteArray) (hl : l = s.now ∨ l = s.kept) (h1 : b = bn → l = s.kept) (h2 : b = bk → l = s.now) (hw : Blk w' b (strs l).toArray 9) (hm : Moved (· = b) w w') :
 DkAt (w'.setCell ⟨r, 2, none⟩ (.slice none 0 0)) P r bn bk (.slice none 0 0) { s with now := l, kept := l, since := [] } ∧ Moved P w (w'.setCell ⟨r, 2, none⟩ (.slice none 0 0)) := by
 have hll : l.length = s.now.length := by
  rcases hl with rfl | rfl
  ·rfl
  ·exact h.len
 have hbr : r ≠ b := by
  rcases hb with rfl | rfl
  ·exact h.n1
  ·exact h.n2
 have hm2 : Moved (· = r) w' (w'.setCell ⟨r, 2, none⟩ (.slice none 0 0)) := (Moved.refl (· = r) w').setCell ⟨r, 2, none⟩ _ (.inl rfl)
 have hws := hw.moved hm2 (Ne.symm hbr)
 refine ⟨⟨h.n1, h.n2, h.n3, by simp [Value.ownBlock], by simp [Value.ownBlock], by simp [Value.ownBlock], h.p1, h.p2, h.p3, by simp [Value.ownBlock], ?_, ?_, ?_, rfl, ?_, World.ownsRow_nil _ _ _ _, by simp, ?_⟩, ?_⟩
 ·have := (Blk.moved h.top hm hbr).set 2 (.slice none 0 0)
  unfold Top
  rw [hll]
  exact this
 ·rcases hb with rfl | rfl
  ·exact hws
  ·rw [h2 rfl]
   exact (h.bnow.moved hm h.n3).moved hm2 (Ne.symm h.n1)
 ·rcases hb with rfl | rfl
  ·rw [h1 rfl]
   exact (h.bkept.moved hm (Ne.symm h.n3)).moved hm2 (Ne.symm h.n2)
  ·exact hws
 ·rw [hll]; exact h.most
 ·refine ⟨?_, ?_, by simp⟩ <;> (rcases hl with rfl | rfl; exact h.short.1; exact h.short.2.1)
 ·refine (hm.mono (P' := P) ?_).trans hm2 ?_
  ·rintro j rfl
   rcases hb with rfl | rfl
   ·exact h.p2
   ·exact h.p3
  ·rintro j rfl
   exact .inl h.p1
theorem sync_any (P : Nat → Prop) (r : Nat) (s : Dsk) (w : World) (h : Dk w P r s) (ho : s.ops ≤ 4611686018427387904) (hst : s.stop ≤ 9223372036854775807) :
 Calls Tryz.prog 124 #[.pointer (some ⟨r, 0, none⟩)] w fun e w' => e = .returned (.int .i64 (syncErr s)) ∧ Dk w' P r s.sync ∧ Moved P w w' := by
 cases hd : s.dead
 ·have e0 : deadErr s = 0 := by simp [deadErr, hd]
  cases hd2 : s.step.dead
  ·have e1 : syncErr s = 0 := by simp [syncErr, hd, deadErr, hd2]
   have e2 : s.sync = { s.step with kept := s.now, since := [] } := by simp [Dsk.sync, hd, hd2]
   have e3 : deadErr s.step = 0 := by simp [deadErr, hd2]
   rw [e1, e2]
   clear e1 e2 hd hd2
   go_enter Tryz.func124, Tryz.ntmps124
   go_wp2
   go_step3
   go_wp2_with (first | (go_at_call 150; refine (power_any P r s _ h).mono ?_; rw [e0]; rintro e _ ⟨rfl, rfl⟩) | (go_at_call 149; refine (step_any P r s _ h ho hst).mono ?_; rw [e3]; rintro e w1 ⟨rfl, hd1, hm1⟩))
   obtain ⟨bn, bk, sv, hA⟩ := hd1
   obtain ⟨c0, c1, c2, -, -, -, cf⟩ := hA.top.cells
   have f2 := cf 2
   have N2 := hA.n2
   have HB := Lib.hid hA.bkept
   have HC := Lib.hid hA.bnow
   have HL := Lib.hid hA.len
   have HT := Lib.hid hA.top
   have HA := Lib.hid hA
   have HM := Lib.hid hm1
   clear cf hA hm1
   go_region_law (refine step_copy_row rfl (.tmp 15) (.tmp 19) rfl bk bn _ rfl rfl s.step.kept s.step.now HL.out rfl HB.out.drew HC.out.drew ?_; intro w2 hb2 hm2; obtain ⟨-, -, d2, -, -, -, df⟩ := Top.cells (s := s.step) (Blk.moved (Blk.drew HT.out) hm2 N2); have e2 := df 2; clear df)
   all_goals (
    have HZ := HA.out.drew.emptied bk (.inr rfl) s.step.now (.inl rfl) (fun e => absurd e (Ne.symm HA.out.n3)) (fun _ => rfl) hb2 hm2
    have HZ1 := Lib.hid HZ.1
    have HZ2 := Lib.hid (HM.out.drew.trans HZ.2 (fun j hj => .inl hj))
    clear HZ HA HM HT HL HC HB hb2 hm2
    go_wp2
    go_step3
    go_wp2
    rw [Exit.noGoto_ret]
    go_ret
    exact ⟨rfl, ⟨_, _, _, HZ1.out⟩, HZ2.out⟩)
  ·have e1 : syncErr s = 13 := by simp [syncErr, hd, deadErr, hd2]
   have e2 : s.sync = s.step := by simp [Dsk.sync, hd, hd2]
   have e3 : deadErr s.step = 13 := by simp [deadErr, hd2]
   rw [e1, e2]
   clear e1 e2 hd hd2
   go_enter Tryz.func124, Tryz.ntmps124
   go_wp2_with fail
   refine wp_scope_jumps 0 (fun a' w' => a' = { tmps := #[.pointer (some ⟨r, 0, none⟩), undef, .int .i64 0, .int .i64 13, .pointer (some ⟨r, 0, none⟩), .int .i64 0, .int .i64 0, .bool false, .pointer (some ⟨r, 0, none⟩), .int .i64 13, .int .i64 13, .bool true, undef, undef, undef, undef, undef, undef, undef, undef, undef, undef, undef, undef, undef], defers := [] } ∧ Dk w' P r s.step ∧ Moved P w w') (fun _ _ => 0) rfl ?_ ?_
   ·go_wp2_with (first | (go_at_call 150; refine (power_any P r s _ h).mono ?_; rw [e0]; rintro e _ ⟨rfl, rfl⟩) | (go_at_call 149; refine (step_any P r s _ h ho hst).mono ?_; rw [e3]; rintro e w1 ⟨rfl, hd1, hm1⟩))
    go_step3
    exact ⟨rfl, rfl, hd1, hm1⟩
   ·rintro a' w' ⟨rfl, hd1, hm1⟩
    go_wp2
    simp only [Exit.jump]
    go_ret
    exact ⟨rfl, hd1, hm1⟩
 ·have e0 : deadErr s = 13 := by simp [deadErr, hd]
  have e1 : syncErr s = 13 := by simp [syncErr, hd]
  have e2 : s.sync = s := by simp [Dsk.sync, hd]
  rw [e1, e2]
  clear e1 e2 hd
  go_enter Tryz.func124, Tryz.ntmps124
  go_wp2_with fail
  refine wp_scope_jumps 0 (fun a' w' => a' = { tmps := #[.pointer (some ⟨r, 0, none⟩), undef, .int .i64 0, .int .i64 13, .pointer (some ⟨r, 0, none⟩), .int .i64 13, .int .i64 13, .bool true, undef, undef, undef, undef, undef, undef, undef, undef, undef, undef, undef, undef, undef, undef, undef, undef, undef], defers := [] } ∧ w' = w) (fun _ _ => 0) rfl ?_ ?_
  ·go_wp2_with (go_at_call 150; refine (power_any P r s _ h).mono ?_; rw [e0]; rintro e _ ⟨rfl, rfl⟩)
   go_step3
   exact ⟨rfl, rfl, rfl⟩
  ·rintro a' w' ⟨rfl, rfl⟩
   go_wp2
   simp only [Exit.jump]
   go_ret
   exact ⟨rfl, h, Moved.refl _ _⟩
end
section
end
section
section
theorem DkAt.lts {w : World} {P : Nat → Prop} {r bn bk : Nat} {sv : Value} {s : Dsk} (h : DkAt w P r bn bk sv s) : r < w.heap.size ∧ bn < w.heap.size ∧ bk < w.heap.size ∧ ∀ k, sv.ownBlock = some k → k < w.heap.size :=
 ⟨Blk.lt h.top, h.bnow.lt, h.bkept.lt, fun k hk => (h.row.lt k hk).2⟩
theorem Dk.shrink {w : World} {P : Nat → Prop} {r : Nat} {s : Dsk} (h : Dk w P r s) : Dk w (fun k => P k ∧ k < w.heap.size) r s := by
 obtain ⟨bn, bk, sv, h⟩ := h
 obtain ⟨l1, l2, l3, l4⟩ := h.lts
 exact ⟨bn, bk, sv, h.n1, h.n2, h.n3, h.n4, h.n5, h.n6, ⟨h.p1, l1⟩, ⟨h.p2, l2⟩, ⟨h.p3, l3⟩, fun k hk => ⟨h.p4 k hk, l4 k hk⟩, h.top, h.bnow, h.bkept, h.len, h.most, h.row, h.ats, h.short⟩
end
section
theorem Own.word {w : World} {base : Nat} {v : Value} {l : List UInt8} (h : Own w base v l) (hl : l.length = 512) :
 ∃ g cap, v = .slice (some ⟨g, 0, none⟩) 512 cap ∧ 512 ≤ cap ∧ cap ≤ maxLen ∧ base ≤ g ∧ g < w.heap.size ∧ ∀ j (hj : j < l.length), w.cell? ⟨g, j, none⟩ = some (vb l[j]) := by
 obtain ⟨g, cap, hv, h1, h2, h3, h4, h5⟩ := h.at (by omega)
 exact ⟨g, cap, by rw [hv, hl], by omega, h2, h3, h4, h5⟩
end
section
end
end
end Go.Proofs.YtbpdapcmaioeiaaGreat
