/- The pager's state as a word, and its small calls. -/
import Derived.Test.YtcnfnpccbnnplaaPMap
import Derived.WalkSpells
namespace Go.Proofs.Ytcnfnpccbnnplaa
open Go.RowKit Go.Maps
set_option maxRecDepth 100000

/-! ### A row of numbers -/
def ints (L : List Int) : List Value := L.map (Value.int .i64)
theorem ints_length (L : List Int) : (ints L).length = L.length := by simp [ints]
/-- The block g is a row of numbers (and what stands behind). -/
def IRow (w : World) (g : Nat) (L : List Int) : Prop := ∃ cur : Array Value, Blk w g cur 3 ∧ cur.toList.take L.length = ints L
theorem IRow.lt {w : World} {g : Nat} {L : List Int} (h : IRow w g L) : g < w.heap.size := by
  obtain ⟨cur, h1, -⟩ := h
  exact h1.lt
theorem IRow.cell {w : World} {g : Nat} {L : List Int} (h : IRow w g L) (j : Nat) (hj : j < L.length) : w.cell? ⟨g, j, none⟩ = some (.int .i64 L[j]) := by
  obtain ⟨cur, h1, h2⟩ := h
  rw [h1.cell, ← Array.getElem?_toList]
  have e : (cur.toList.take L.length)[j]? = cur.toList[j]? := by rw [List.getElem?_take, if_pos hj]
  rw [← e, h2]
  simp [ints, hj]
theorem IRow.frozen {w : World} {g : Nat} {L : List Int} (h : IRow w g L) (j : Nat) : w.frozen? ⟨g, j, none⟩ = false := by
  obtain ⟨cur, h1, -⟩ := h
  exact h1.frozen j
theorem IRow.set {w : World} {g : Nat} {L : List Int} (h : IRow w g L) (j : Nat) (b : Int) : IRow (w.setCell ⟨g, j, none⟩ (.int .i64 b)) g (L.set j b) := by
  obtain ⟨cur, h1, h2⟩ := h
  refine ⟨_, h1.set j (.int .i64 b), ?_⟩
  rw [List.length_set, Array.toList_setIfInBounds, List.take_set, h2]
  simp [ints, List.map_set]
theorem IRow.moved {P : Nat → Prop} {w w' : World} {g : Nat} {L : List Int} (h : IRow w g L) (hm : Moved P w w') (hP : ¬ P g) : IRow w' g L := by
  obtain ⟨cur, h1, h2⟩ := h
  exact ⟨cur, h1.moved hm hP, h2⟩

/-! ### The pager -/
/-- A state of the pages but for their bytes. -/
structure Stt where
  root : Int
  next : List Int
/-- A transaction: as it was at Begin, what was put, of how many pages. -/
structure Tx where
  was : Stt
  f : Int → Option (List UInt8)
  n : Nat

structure PgAt (w : World) (Q : Nat → Prop) (r p gn cn : Nat) (S : Stt) (wr : Int) (vw mv : Value) : Prop where
  top : Blk w p #[.pointer (some ⟨r, 0, none⟩), .int .i64 S.root, .slice (some ⟨gn, 0, none⟩) S.next.length cn, .int .i64 wr, vw, mv] 86
  row : IRow w gn S.next
  cap : S.next.length ≤ cn
  max : cn ≤ maxLen
  qp : Q p
  qn : Q gn
  ne : gn ≠ p
structure TxAt (w : World) (Q : Nat → Prop) (p gn : Nat) (t : Tx) (gw cw b : Nat) : Prop where
  row : IRow w gw t.was.next
  cap : t.was.next.length ≤ cw
  max : cw ≤ maxLen
  map : Pm w b t.f t.n
  qw : Q gw
  qb : Q b
  w1 : gw ≠ p
  w2 : gw ≠ gn
  b1 : b ≠ p
  b2 : b ≠ gn
  b3 : b ≠ gw
/-- The pager at p, of the disk at r, has the state S, and T under way; its blocks are of Q. -/
def Pg (w : World) (Q : Nat → Prop) (r p : Nat) (S : Stt) : Option Tx → Prop
  | none => ∃ gn cn, PgAt w Q r p gn cn S 0 (.slice none 0 0) (.map none)
  | some t => ∃ gn cn gw cw b, PgAt w Q r p gn cn S t.was.root (.slice (some ⟨gw, 0, none⟩) t.was.next.length cw) (.map (some b)) ∧ TxAt w Q p gn t gw cw b

theorem PgAt.moved {P Q : Nat → Prop} {w w' : World} {r p gn cn : Nat} {S : Stt} {wr : Int} {vw mv : Value} (h : PgAt w Q r p gn cn S wr vw mv) (hm : Moved P w w') (hP : ∀ k, Q k → ¬ P k) : PgAt w' Q r p gn cn S wr vw mv :=
  ⟨h.top.moved hm (hP _ h.qp), h.row.moved hm (hP _ h.qn), h.cap, h.max, h.qp, h.qn, h.ne⟩
theorem TxAt.moved {P Q : Nat → Prop} {w w' : World} {p gn gw cw b : Nat} {t : Tx} (h : TxAt w Q p gn t gw cw b) (hm : Moved P w w') (hP : ∀ k, Q k → ¬ P k) : TxAt w' Q p gn t gw cw b :=
  ⟨h.row.moved hm (hP _ h.qw), h.cap, h.max, h.map.moved hm (hP _ h.qb), h.qw, h.qb, h.w1, h.w2, h.b1, h.b2, h.b3⟩
theorem Pg.moved {P Q : Nat → Prop} {w w' : World} {r p : Nat} {S : Stt} {T : Option Tx} (h : Pg w Q r p S T) (hm : Moved P w w') (hP : ∀ k, Q k → ¬ P k) : Pg w' Q r p S T := by
  cases T with
  | none => obtain ⟨gn, cn, h⟩ := h; exact ⟨gn, cn, h.moved hm hP⟩
  | some t => obtain ⟨gn, cn, gw, cw, b, h, k⟩ := h; exact ⟨gn, cn, gw, cw, b, h.moved hm hP, k.moved hm hP⟩
theorem PgAt.mono {Q Q' : Nat → Prop} {w : World} {r p gn cn : Nat} {S : Stt} {wr : Int} {vw mv : Value} (h : PgAt w Q r p gn cn S wr vw mv) (hQ : ∀ k, Q k → Q' k) : PgAt w Q' r p gn cn S wr vw mv :=
  ⟨h.top, h.row, h.cap, h.max, hQ _ h.qp, hQ _ h.qn, h.ne⟩
theorem TxAt.mono {Q Q' : Nat → Prop} {w : World} {p gn gw cw b : Nat} {t : Tx} (h : TxAt w Q p gn t gw cw b) (hQ : ∀ k, Q k → Q' k) : TxAt w Q' p gn t gw cw b :=
  ⟨h.row, h.cap, h.max, h.map, hQ _ h.qw, hQ _ h.qb, h.w1, h.w2, h.b1, h.b2, h.b3⟩
theorem Pg.mono {Q Q' : Nat → Prop} {w : World} {r p : Nat} {S : Stt} {T : Option Tx} (h : Pg w Q r p S T) (hQ : ∀ k, Q k → Q' k) : Pg w Q' r p S T := by
  cases T with
  | none => obtain ⟨gn, cn, h⟩ := h; exact ⟨gn, cn, h.mono hQ⟩
  | some t => obtain ⟨gn, cn, gw, cw, b, h, k⟩ := h; exact ⟨gn, cn, gw, cw, b, h.mono hQ, k.mono hQ⟩
theorem Pg.below {Q : Nat → Prop} {w w' : World} {r p : Nat} {S : Stt} {T : Option Tx} (h : Pg w Q r p S T) (hb : Below w.heap.size w w') : Pg w' Q r p S T :=
  h.moved (Moved.of_below hb (fun _ => False)) (fun _ _ h => h)
theorem Pg.shrink {Q : Nat → Prop} {w : World} {r p : Nat} {S : Stt} {T : Option Tx} (h : Pg w Q r p S T) : Pg w (fun k => Q k ∧ k < w.heap.size) r p S T := by
  cases T with
  | none => obtain ⟨gn, cn, h⟩ := h; exact ⟨gn, cn, h.top, h.row, h.cap, h.max, ⟨h.qp, h.top.lt⟩, ⟨h.qn, h.row.lt⟩, h.ne⟩
  | some t =>
    obtain ⟨gn, cn, gw, cw, b, h, k⟩ := h
    exact ⟨gn, cn, gw, cw, b, ⟨h.top, h.row, h.cap, h.max, ⟨h.qp, h.top.lt⟩, ⟨h.qn, h.row.lt⟩, h.ne⟩, ⟨k.row, k.cap, k.max, k.map, ⟨k.qw, k.row.lt⟩, ⟨k.qb, k.map.lt⟩, k.w1, k.w2, k.b1, k.b2, k.b3⟩⟩
/-- From w to w' the pager at p came to be S, T: only its own blocks and new ones have turned. -/
def PgTo (w : World) (Q : Nat → Prop) (w' : World) (r p : Nat) (S : Stt) (T : Option Tx) : Prop := ∃ Q', Pg w' Q' r p S T ∧ Moved Q w w' ∧ ∀ k, Q' k → Q k ∨ w.heap.size ≤ k
theorem PgTo.refl {w : World} {Q : Nat → Prop} {r p : Nat} {S : Stt} {T : Option Tx} (h : Pg w Q r p S T) : PgTo w Q w r p S T := ⟨Q, h, Moved.refl _ _, fun _ h => .inl h⟩

/-- What every cell of the pager holds. -/
theorem Pg.cells {Q : Nat → Prop} {w : World} {r p : Nat} {S : Stt} {T : Option Tx} (h : Pg w Q r p S T) :
    ∃ gn cn wr vw mv, PgAt w Q r p gn cn S wr vw mv ∧ ((T = none ∧ mv = .map none) ∨ ∃ t b, T = some t ∧ mv = .map (some b) ∧ Pm w b t.f t.n) := by
  cases T with
  | none => obtain ⟨gn, cn, h⟩ := h; exact ⟨gn, cn, _, _, _, h, .inl ⟨rfl, rfl⟩⟩
  | some t => obtain ⟨gn, cn, gw, cw, b, h, k⟩ := h; exact ⟨gn, cn, _, _, _, h, .inr ⟨t, b, rfl, rfl, k.map⟩⟩
theorem PgAt.cells {Q : Nat → Prop} {w : World} {r p gn cn : Nat} {S : Stt} {wr : Int} {vw mv : Value} (h : PgAt w Q r p gn cn S wr vw mv) :
    w.cell? ⟨p, 0, none⟩ = some (.pointer (some ⟨r, 0, none⟩)) ∧ w.cell? ⟨p, 1, none⟩ = some (.int .i64 S.root) ∧ w.cell? ⟨p, 2, none⟩ = some (.slice (some ⟨gn, 0, none⟩) S.next.length cn) ∧ w.cell? ⟨p, 3, none⟩ = some (.int .i64 wr) ∧ w.cell? ⟨p, 4, none⟩ = some vw ∧ w.cell? ⟨p, 5, none⟩ = some mv :=
  ⟨by rw [h.top.cell]; rfl, by rw [h.top.cell]; rfl, by rw [h.top.cell]; rfl, by rw [h.top.cell]; rfl, by rw [h.top.cell]; rfl, by rw [h.top.cell]; rfl⟩

theorem eqlM (w : World) (r : Option Nat) : (binOp .eql 84 (.map r) (.map none)).run Try.prog w = .ok (.bool r.isNone) w := run_eql_map_nil w _ _ _ r Try.underlying84
theorem neqM (w : World) (r : Option Nat) : (binOp .neq 84 (.map r) (.map none)).run Try.prog w = .ok (.bool (!r.isNone)) w := run_neq_map_nil w _ _ _ r Try.underlying84

theorem proot_any {w : World} {Q : Nat → Prop} {r p : Nat} {S : Stt} {T : Option Tx} (h : Pg w Q r p S T) :
    Calls Try.prog 57 #[.pointer (some ⟨p, 0, none⟩)] w fun e w' => e = .returned (.int .i64 S.root) ∧ w' = w := by
  obtain ⟨gn, cn, wr, vw, mv, h, -⟩ := h.cells
  obtain ⟨-, c1, -⟩ := h.cells
  clear h
  go_enter Try.func57, Try.ntmps57
  go_wp2_with fail
  go_ret
  exact ⟨rfl, rfl⟩

theorem closed_any {w : World} {Q : Nat → Prop} {r p : Nat} {S : Stt} {T : Option Tx} (h : Pg w Q r p S T) :
    Calls Try.prog 53 #[.pointer (some ⟨p, 0, none⟩)] w fun e w' => e = .returned (.int .i64 (if T.isSome then 0 else 12)) ∧ w' = w := by
  obtain ⟨gn, cn, wr, vw, mv, h, hT⟩ := h.cells
  obtain ⟨-, -, -, -, -, c5⟩ := h.cells
  clear h
  rcases hT with ⟨rfl, rfl⟩ | ⟨t, b, rfl, rfl, -⟩
  · simp only [Option.isSome_none, Bool.false_eq_true, if_false]
    go_enter Try.func53, Try.ntmps53
    have hk := eqlM
    go_wp2_with fail
    go_ret
    exact ⟨rfl, rfl⟩
  · simp only [Option.isSome_some, if_true]
    go_enter Try.func53, Try.ntmps53
    have hk := eqlM
    go_wp2_with fail
    go_ret
    exact ⟨rfl, rfl⟩

/-- What 'absent' answers. -/
def absentOf (S : Stt) (i : Int) : Int := if 0 ≤ i ∧ i < S.next.length ∧ S.next.getD i.toNat 0 = 0 then 0 else 1
theorem absent_any {w : World} {Q : Nat → Prop} {r p : Nat} {S : Stt} {T : Option Tx} (h : Pg w Q r p S T) (i : Int) :
    Calls Try.prog 90 #[.pointer (some ⟨p, 0, none⟩), .int .i64 i] w fun e w' => e = .returned (.int .i64 (absentOf S i)) ∧ w' = w := by
  obtain ⟨gn, cn, wr, vw, mv, h, -⟩ := h.cells
  obtain ⟨-, -, c2, -⟩ := h.cells
  obtain ⟨n, hn⟩ : ∃ n, n = S.next.length := ⟨_, rfl⟩
  have hmx := h.max
  unfold maxLen at hmx
  have hcp := h.cap
  by_cases h0 : i < 0
  · have e : absentOf S i = 1 := if_neg (by omega)
    rw [e]
    rw [← hn] at c2
    clear h hn e
    go_enter Try.func90, Try.ntmps90
    go_wp2_with fail
    go_ret
    exact ⟨rfl, rfl⟩
  obtain ⟨k, rfl⟩ : ∃ k : Nat, i = k := ⟨i.toNat, by omega⟩
  by_cases h1 : S.next.length ≤ k
  · have e : absentOf S k = 1 := if_neg (by omega)
    rw [e]
    rw [← hn] at c2 h1 hcp
    clear h hn e
    have h1' : ¬ (k : Int) < n := by omega
    go_enter Try.func90, Try.ntmps90
    go_wp2_with fail
    go_ret
    exact ⟨rfl, rfl⟩
  have hk : k < S.next.length := by omega
  have ck := h.row.cell k hk
  obtain ⟨x, hx⟩ : ∃ x, x = S.next[k] := ⟨_, rfl⟩
  rw [← hx] at ck
  have e : absentOf S k = if x = 0 then 0 else 1 := by
    unfold absentOf
    rw [hx]
    simp [List.getD, hk]
  rw [e]
  rw [← hn] at c2 h1 hcp hk
  clear h hn e hx h1
  have hk' : (k : Int) < n := by omega
  by_cases hx : x = 0
  · rw [if_pos hx]
    have hx' : (x != 0) = false := by simp [hx]
    go_enter Try.func90, Try.ntmps90
    go_wp2_with fail
    go_ret
    exact ⟨rfl, rfl⟩
  · rw [if_neg hx]
    have hx' : (x != 0) = true := by simp [hx]
    go_enter Try.func90, Try.ntmps90
    go_wp2_with fail
    go_ret
    exact ⟨rfl, rfl⟩

/-- What 'fault' answers. -/
def pfaultOf (S : Stt) (T : Option Tx) (i : Int) : Int := if T.isSome then absentOf S i else 12
theorem pfault_any {w : World} {Q : Nat → Prop} {r p : Nat} {S : Stt} {T : Option Tx} (h : Pg w Q r p S T) (i : Int) :
    Calls Try.prog 79 #[.pointer (some ⟨p, 0, none⟩), .int .i64 i] w fun e w' => e = .returned (.int .i64 (pfaultOf S T i)) ∧ w' = w := by
  have hc := closed_any h
  have ha := absent_any h i
  cases hT : T.isSome
  · rw [hT] at hc
    have e : pfaultOf S T i = 12 := by unfold pfaultOf; rw [hT]; rfl
    rw [e]
    simp only [Bool.false_eq_true, if_false] at hc
    clear h e hT ha
    go_enter Try.func79, Try.ntmps79
    go_wp2_with (first | (refine hc.mono ?_; rintro e w' ⟨rfl, rfl⟩) | fail)
    go_ret
    exact ⟨rfl, rfl⟩
  · rw [hT] at hc
    have e : pfaultOf S T i = absentOf S i := by unfold pfaultOf; rw [hT]; rfl
    rw [e]
    simp only [if_true] at hc
    obtain ⟨a, ha0⟩ : ∃ a, a = absentOf S i := ⟨_, rfl⟩
    rw [← ha0] at ha ⊢
    clear h e hT ha0
    go_enter Try.func79, Try.ntmps79
    go_wp2_with (first | (refine hc.mono ?_; rintro e w' ⟨rfl, rfl⟩) | (refine ha.mono ?_; rintro e w' ⟨rfl, rfl⟩) | fail)
    go_ret
    exact ⟨rfl, rfl⟩
end Go.Proofs.Ytcnfnpccbnnplaa
