/- The walk of the law PagerTurns. -/
import Derived.Test.YtcnfnpccbnnplaaPgBusy
namespace Go.Proofs.Ytcnfnpccbnnplaa
open Go.RowKit Go.Maps
set_option maxRecDepth 100000

theorem within4_any (a n : Int) (hn : 0 < n) (hn2 : n ≤ 4611686018427387904) (w : World) :
    Calls Try.prog 15 #[.int .i64 a, .int .i64 n] w fun e w' => e = .returned (.int .i64 (withinOf a n)) ∧ w' = w := by
  have h1 := Int.tmod_lt_of_pos a hn
  have h2 : -n < a.tmod n := Int.lt_tmod_of_pos a hn
  have hz : (n == 0) = false := by simpa using (by omega : n ≠ 0)
  by_cases h0 : a.tmod n < 0
  · rw [withinOf, if_pos h0]
    go_enter Try.func15, Try.ntmps15
    go_wp2
    go_ret
    exact ⟨rfl, rfl⟩
  · rw [withinOf, if_neg h0]
    go_enter Try.func15, Try.ntmps15
    go_wp2
    go_ret
    exact ⟨rfl, rfl⟩

theorem Ps.less {w0 w : World} {X X' : Nat → Prop} {r p N c : Nat} {G : Lg} {H : Option Lg} (h : Ps w0 w X r p N c G H) (hX : ∀ k, X' k → X k) : Ps w0 w X' r p N c G H := by
  obtain ⟨A, K, T, h, k⟩ := h; exact ⟨A, K, T, h.less hX, k⟩
/-- A row of X was written, or a new one was made. -/
theorem Ps.grown {w0 w w' : World} {X X' : Nat → Prop} {r p N c : Nat} {G : Lg} {H : Option Lg} {row : Option Nat} (h : Ps w0 w X r p N c G H) (hg : w.grownBy w' row) (hr : ∀ k, row = some k → X k ∧ w0.heap.size ≤ k) (hX : ∀ k, X' k → X k ∨ (w.heap.size ≤ k ∧ k < w'.heap.size)) :
    Ps w0 w' X' r p N c G H := by
  obtain ⟨A, K, T, ⟨h1, h2, P, Q, h3, h4, h5, h6⟩, k⟩ := h
  have hm : Moved (fun k => row = some k) w w' := ⟨hg.os, hg.tape, hg.output, hg.size, fun k hk hne => hg.block k hk (fun e => hne e.symm)⟩
  have hs := hg.size
  refine ⟨A, K, T, ⟨h1.trans (hm.below (fun k hk => (hr k hk).2) h1.size), fun k hk => ?_, P, Q, h3.moved hm (fun k hk e => (h5 k hk).2.2 (hr k e).1), h4.moved hm (fun k hk e => (h6 k hk).2.2.1 (hr k e).1), fun k hk => ?_, fun k hk => ?_⟩, k⟩
  · rcases hX k hk with e | e
    · exact Nat.lt_of_lt_of_le (h2 k e) hs
    · exact e.2
  · have := h5 k hk
    exact ⟨this.1, by omega, fun e => by rcases hX k e with e | e; exact this.2.2 e; omega⟩
  · have := h6 k hk
    exact ⟨this.1, by omega, fun e => by rcases hX k e with e | e; exact this.2.2.1 e; omega, this.2.2.2⟩

/-- A row of numbers of the call's own. -/
def OwnN (base : Nat) (w : World) (v : Value) (l : List Int) : Prop := w.ownsRow base 3 1 v l.length (ints l)
theorem OwnN.nil (base : Nat) (w : World) : OwnN base w (.slice none 0 0) [] := World.ownsRow_nil _ _ _ _
theorem OwnN.moved {P : Nat → Prop} {base : Nat} {w w' : World} {v : Value} {l : List Int} (h : OwnN base w v l) (hm : Moved P w w') (hP : ∀ g, v.ownBlock = some g → ¬ P g) : OwnN base w' v l := owns_moved h hm hP
theorem OwnN.below {base : Nat} {w w' : World} {v : Value} {l : List Int} (h : OwnN base w v l) (hb : Below w.heap.size w w') : OwnN base w' v l := h.moved (Moved.of_below hb (fun _ => False)) (fun _ _ h => h)
theorem OwnN.lt {base : Nat} {w : World} {v : Value} {l : List Int} (h : OwnN base w v l) : ∀ q, v.ownBlock = some q → base ≤ q ∧ q < w.heap.size := fun q hq => World.ownsRow.lt h q hq
theorem OwnN.form {base : Nat} {w : World} {v : Value} {l : List Int} (h : OwnN base w v l) : ∃ so cap, v = .slice so l.length cap ∧ l.length ≤ cap ∧ cap ≤ maxLen := owns_form h
theorem OwnN.cell {base : Nat} {w : World} {v : Value} {l : List Int} (h : OwnN base w v l) (h0 : 0 < l.length) : ∃ g cap, v = .slice (some ⟨g, 0, none⟩) l.length cap ∧ ∀ j (hj : j < l.length), w.cell? ⟨g, j, none⟩ = some (.int .i64 l[j]) := by
  rcases h.2 with ⟨rfl, hn⟩ | ⟨g, cap, cur, rfl, hb, hh, h1, h2, h3, h4⟩
  · omega
  · refine ⟨g, cap, rfl, fun j hj => ?_⟩
    have hr : IRow w g l := ⟨cur, hh, by simpa using h4⟩
    exact hr.cell j hj

/-- What the pages are while they are dropped: the ones that are gone, the last one first, and those behind m. -/
def turnFree (m : Nat) (gone : List Nat) : List Nat := gone.reverse ++ List.range' (m + 1) (18 - m)
def nats (l : List Nat) : List Int := l.map fun i : Nat => (i : Int)
theorem turn_used {m : Nat} {gone : List Nat} {H : Lg} (hm : m ≤ 8) (hf : H.free = turnFree m gone) (i : Nat) (h1 : 1 ≤ i) (h2 : i ≤ m) : lgUsed 19 H i ↔ i ∉ gone := by
  unfold lgUsed
  rw [hf]
  unfold turnFree
  simp only [Int.toNat_natCast, List.mem_append, List.mem_reverse, List.mem_range'_1]
  constructor
  · rintro ⟨-, -, h⟩ e; exact h (.inl e)
  · intro h
    refine ⟨by omega, by omega, fun e => ?_⟩
    rcases e with e | e
    · exact h e
    · omega

def G0 : Lg := Lg.new 19
theorem nats_length (l : List Nat) : (nats l).length = l.length := by simp [nats]
theorem nats_snoc (l : List Nat) (a : Nat) : nats (l ++ [a]) = nats l ++ [(a : Int)] := by simp [nats]
theorem nats_at (l : List Nat) (j : Nat) (hj : j < (nats l).length) : (nats l)[j] = ((l[j]'(by simpa [nats] using hj) : Nat) : Int) := by simp [nats]
def OwnB (v : Value) (k : Nat) : Prop := v.ownBlock = some k

end Go.Proofs.Ytcnfnpccbnnplaa
