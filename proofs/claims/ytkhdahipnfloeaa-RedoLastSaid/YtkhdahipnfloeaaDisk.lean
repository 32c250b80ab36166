/- Package disk: what a disk is in memory, and the contracts of its small methods. -/
import Derived.Test.YtkhdahipnfloeaaBase
namespace Go.Proofs.Ytkhdahipnfloeaa
open Go.RowKit
set_option maxRecDepth 100000

structure Dsk where
  now : List ByteArray
  kept : List ByteArray
  since : List (Nat × ByteArray)
  ops : Nat
  stop : Nat
  dead : Bool

def strs (l : List ByteArray) : List Value := l.map Value.string
def wcells (l : List (Nat × ByteArray)) : List Value := l.flatMap fun p => [.int .i64 (p.1 : Int), .string p.2]
def sl (b n : Nat) : Value := .slice (some ⟨b, 0, none⟩) n n

/-- The disk's own block. -/
def Top (w : World) (r bn bk : Nat) (sv : Value) (s : Dsk) : Prop :=
  Blk w r #[sl bn s.now.length, sl bk s.now.length, sv, .int .i64 (s.ops : Int), .int .i64 (s.stop : Int), .bool s.dead] 67

/-- A disk at address r, whose blocks are of P. -/
structure DkAt (w : World) (P : Nat → Prop) (r bn bk : Nat) (sv : Value) (s : Dsk) : Prop where
  n1 : r ≠ bn
  n2 : r ≠ bk
  n3 : bn ≠ bk
  n4 : sv.ownBlock ≠ some r
  n5 : sv.ownBlock ≠ some bn
  n6 : sv.ownBlock ≠ some bk
  p1 : P r
  p2 : P bn
  p3 : P bk
  p4 : ∀ k, sv.ownBlock = some k → P k
  top : Top w r bn bk sv s
  bnow : Blk w bn (strs s.now).toArray 9
  bkept : Blk w bk (strs s.kept).toArray 9
  len : s.kept.length = s.now.length
  most : s.now.length ≤ 3000
  row : w.ownsRow 0 79 2 sv s.since.length (wcells s.since)
  ats : ∀ p ∈ s.since, p.1 < s.now.length
  short : (∀ x ∈ s.now, x.size ≤ 512) ∧ (∀ x ∈ s.kept, x.size ≤ 512) ∧ ∀ p ∈ s.since, p.2.size ≤ 512

def Dk (w : World) (P : Nat → Prop) (r : Nat) (s : Dsk) : Prop := ∃ bn bk sv, DkAt w P r bn bk sv s

theorem Dk.moved {P Q : Nat → Prop} {w w' : World} {r : Nat} {s : Dsk} (h : Dk w P r s) (hm : Moved Q w w') (hPQ : ∀ k, P k → ¬ Q k) : Dk w' P r s := by
  obtain ⟨bn, bk, sv, h⟩ := h
  exact ⟨bn, bk, sv, h.n1, h.n2, h.n3, h.n4, h.n5, h.n6, h.p1, h.p2, h.p3, h.p4, Blk.moved h.top hm (hPQ _ h.p1), h.bnow.moved hm (hPQ _ h.p2), h.bkept.moved hm (hPQ _ h.p3), h.len, h.most,
    owns_moved h.row hm (fun k hk => hPQ _ (h.p4 k hk)), h.ats, h.short⟩
theorem Dk.mono {P Q : Nat → Prop} {w : World} {r : Nat} {s : Dsk} (h : Dk w P r s) (hPQ : ∀ k, P k → Q k) : Dk w Q r s := by
  obtain ⟨bn, bk, sv, h⟩ := h
  exact ⟨bn, bk, sv, h.n1, h.n2, h.n3, h.n4, h.n5, h.n6, hPQ _ h.p1, hPQ _ h.p2, hPQ _ h.p3, fun k hk => hPQ _ (h.p4 k hk), h.top, h.bnow, h.bkept, h.len, h.most, h.row, h.ats, h.short⟩

theorem Dk.drew {P : Nat → Prop} {w : World} {r : Nat} {s : Dsk} (h : Dk w P r s) : Dk w.drew P r s := h.moved (Q := fun _ => False) (Moved.refl _ _).drew (fun _ _ hq => hq)

/-- The six cells, as the walk reads them. -/
theorem Top.cells {w : World} {r bn bk : Nat} {sv : Value} {s : Dsk} (h : Top w r bn bk sv s) :
    w.cell? ⟨r, 0, none⟩ = some (.slice (some ⟨bn, 0, none⟩) s.now.length s.now.length) ∧ w.cell? ⟨r, 1, none⟩ = some (.slice (some ⟨bk, 0, none⟩) s.now.length s.now.length) ∧ w.cell? ⟨r, 2, none⟩ = some sv ∧
    w.cell? ⟨r, 3, none⟩ = some (.int .i64 (s.ops : Int)) ∧ w.cell? ⟨r, 4, none⟩ = some (.int .i64 (s.stop : Int)) ∧ w.cell? ⟨r, 5, none⟩ = some (.bool s.dead) ∧ ∀ j, w.frozen? ⟨r, j, none⟩ = false :=
  ⟨Blk.cell h 0, Blk.cell h 1, Blk.cell h 2, Blk.cell h 3, Blk.cell h 4, Blk.cell h 5, fun j => Blk.frozen h j⟩

def deadErr (s : Dsk) : Int := if s.dead then 13 else 0
def faultOf (s : Dsk) (at' : Int) : Int := if s.dead then 13 else if 0 ≤ at' ∧ at' < s.now.length then 0 else 1
def Dsk.step (s : Dsk) : Dsk := { s with ops := s.ops + 1, dead := s.stop == 1, stop := s.stop - 1 }

theorem power_any (P : Nat → Prop) (r : Nat) (s : Dsk) (w : World) (h : Dk w P r s) :
    Calls Try.prog 52 #[.pointer (some ⟨r, 0, none⟩)] w fun e w' => e = .returned (.int .i64 (deadErr s)) ∧ w' = w := by
  obtain ⟨bn, bk, sv, h⟩ := h
  obtain ⟨-, -, -, -, -, c5, -⟩ := h.top.cells
  obtain ⟨d, hd⟩ : ∃ d, d = s.dead := ⟨_, rfl⟩
  rw [← hd] at c5
  have e : deadErr s = if d then 13 else 0 := by rw [hd]; rfl
  rw [e]
  clear h hd e
  cases d <;> (go_enter Try.func52, Try.ntmps52; go_wp2; go_ret; exact ⟨rfl, rfl⟩)

theorem dead_any (P : Nat → Prop) (r : Nat) (s : Dsk) (w : World) (h : Dk w P r s) :
    Calls Try.prog 46 #[.pointer (some ⟨r, 0, none⟩)] w fun e w' => e = .returned (.bool s.dead) ∧ w' = w := by
  obtain ⟨bn, bk, sv, h⟩ := h
  obtain ⟨-, -, -, -, -, c5, -⟩ := h.top.cells
  clear h
  go_enter Try.func46, Try.ntmps46
  go_wp2
  go_ret
  exact ⟨rfl, rfl⟩

theorem ops_any (P : Nat → Prop) (r : Nat) (s : Dsk) (w : World) (h : Dk w P r s) :
    Calls Try.prog 31 #[.pointer (some ⟨r, 0, none⟩)] w fun e w' => e = .returned (.int .i64 (s.ops : Int)) ∧ w' = w := by
  obtain ⟨bn, bk, sv, h⟩ := h
  obtain ⟨-, -, -, c3, -, -, -⟩ := h.top.cells
  clear h
  go_enter Try.func31, Try.ntmps31
  go_wp2
  go_ret
  exact ⟨rfl, rfl⟩

theorem size_any (P : Nat → Prop) (r : Nat) (s : Dsk) (w : World) (h : Dk w P r s) :
    Calls Try.prog 44 #[.pointer (some ⟨r, 0, none⟩)] w fun e w' => e = .returned (.int .i64 (s.now.length : Int)) ∧ w' = w := by
  obtain ⟨bn, bk, sv, h⟩ := h
  obtain ⟨c0, -, -, -, -, -, -⟩ := h.top.cells
  clear h
  go_enter Try.func44, Try.ntmps44
  go_wp2
  go_ret
  exact ⟨rfl, rfl⟩

theorem fault_any (P : Nat → Prop) (r : Nat) (s : Dsk) (i : Int) (w : World) (h : Dk w P r s) :
    Calls Try.prog 49 #[.pointer (some ⟨r, 0, none⟩), .int .i64 i] w fun e w' => e = .returned (.int .i64 (faultOf s i)) ∧ w' = w := by
  have hk := h
  obtain ⟨bn, bk, sv, h⟩ := h
  obtain ⟨c0, -, -, -, -, c5, -⟩ := h.top.cells
  clear h
  obtain ⟨n, hn⟩ : ∃ n, n = s.now.length := ⟨_, rfl⟩
  rw [← hn] at c0
  cases hd : s.dead
  · have e0 : deadErr s = 0 := by simp [deadErr, hd]
    have e1 : faultOf s i = if 0 ≤ i ∧ i < n then 0 else 1 := by simp [faultOf, hd, hn]
    rw [e1]
    clear hn hd e1
    by_cases h0 : i < 0
    · rw [if_neg (by omega)]
      go_enter Try.func49, Try.ntmps49
      go_wp2_with (go_at_call 52; refine (power_any P r s _ hk).mono ?_; rw [e0]; rintro e w' ⟨rfl, rfl⟩)
      go_ret
      exact ⟨rfl, rfl⟩
    by_cases h1 : (n : Int) ≤ i
    · rw [if_neg (by omega)]
      go_enter Try.func49, Try.ntmps49
      go_wp2_with (go_at_call 52; refine (power_any P r s _ hk).mono ?_; rw [e0]; rintro e w' ⟨rfl, rfl⟩)
      go_ret
      exact ⟨rfl, rfl⟩
    · rw [if_pos (by omega)]
      go_enter Try.func49, Try.ntmps49
      go_wp2_with (go_at_call 52; refine (power_any P r s _ hk).mono ?_; rw [e0]; rintro e w' ⟨rfl, rfl⟩)
      go_ret
      exact ⟨rfl, rfl⟩
  · have e0 : deadErr s = 13 := by simp [deadErr, hd]
    have e1 : faultOf s i = 13 := by simp [faultOf, hd]
    rw [e1]
    clear hn hd e1
    go_enter Try.func49, Try.ntmps49
    go_wp2_with (go_at_call 52; refine (power_any P r s _ hk).mono ?_; rw [e0]; rintro e w' ⟨rfl, rfl⟩)
    go_ret
    exact ⟨rfl, rfl⟩
end Go.Proofs.Ytkhdahipnfloeaa
