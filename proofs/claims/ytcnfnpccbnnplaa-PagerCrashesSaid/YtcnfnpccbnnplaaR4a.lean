/- triadref4's New: a pager of so many pages; a page more. -/
import Derived.Test.YtcnfnpccbnnplaaRErr
import Derived.Test.YtcnfnpccbnnplaaEnds4
namespace Go.Proofs.Ytcnfnpccbnnplaa
open Go.RowKit Go.Maps
set_option maxRecDepth 100000

/-- The state of a new pager. -/
def PS.new : PS := ⟨fun _ => none, 0, [], 1, 0⟩

set_option maxHeartbeats 1000000 in
theorem rmade_any (n : Nat) (hn : 403 ≤ n) (hn2 : n ≤ 100000) (z : Int) (hz : z = n) (w : World) :
    Calls Try.prog 12 #[.int .i64 z] w fun e w' => ∃ x, e = .returned (.pointer (some ⟨x, 0, none⟩)) ∧ Rp w' (fun k => w.heap.size ≤ k ∧ k < w'.heap.size) x (n - 401) .new none ∧ Below w.heap.size w w' := by
  subst hz
  have hmm := @run_makeMap Try.prog
  have hi : (403 : Int) ≤ n := by omega
  go_enter Try.func12, Try.ntmps12
  go_wp2_with fail
  go_ret
  have hs : (w.alloc (Obj.map #[] 0)).heap.size = w.heap.size + 1 := by simp
  have hb := Blk.new (w.alloc (Obj.map #[] 0)) #[.int .i64 ((n : Int) - 401), .map (some w.heap.size), .slice none 0 0, .int .i64 1, .int .i64 0, .map none, .slice none 0 0, .int .i64 0, .int .i64 0, .bool false] 48
  have hal : Below (w.alloc (Obj.map #[] 0)).heap.size (w.alloc (Obj.map #[] 0)) ((w.alloc (Obj.map #[] 0)).alloc (.cells #[.int .i64 ((n : Int) - 401), .map (some w.heap.size), .slice none 0 0, .int .i64 1, .int .i64 0, .map none, .slice none 0 0, .int .i64 0, .int .i64 0, .bool false] 48)) := (Below.refl _ _).alloc (Nat.le_refl _) _
  have him : Im Try.prog 3 9 ((w.alloc (Obj.map #[] 0)).alloc (.cells #[.int .i64 ((n : Int) - 401), .map (some w.heap.size), .slice none 0 0, .int .i64 1, .int .i64 0, .map none, .slice none 0 0, .int .i64 0, .int .i64 0, .bool false] 48)) w.heap.size (fun _ => none) 0 := (Im.made w).moved (Moved.of_below hal (fun _ => False)) (fun h => h)
  rw [hs] at hb
  have e1 : (n : Int) - 401 = ((n - 401 : Nat) : Int) := by omega
  have hx : ((w.alloc (Obj.map #[] 0)).alloc (.cells #[.int .i64 ((n : Int) - 401), .map (some w.heap.size), .slice none 0 0, .int .i64 1, .int .i64 0, .map none, .slice none 0 0, .int .i64 0, .int .i64 0, .bool false] 48)).heap.size = w.heap.size + 2 := by simp
  have hbel : Below w.heap.size w ((w.alloc (Obj.map #[] 0)).alloc (.cells #[.int .i64 ((n : Int) - 401), .map (some w.heap.size), .slice none 0 0, .int .i64 1, .int .i64 0, .map none, .slice none 0 0, .int .i64 0, .int .i64 0, .bool false] 48)) := ((Below.refl w.heap.size w).alloc (Nat.le_refl _) _).trans (hal.mono (by omega))
  generalize ((w.alloc (Obj.map #[] 0)).alloc (.cells #[.int .i64 ((n : Int) - 401), .map (some w.heap.size), .slice none 0 0, .int .i64 1, .int .i64 0, .map none, .slice none 0 0, .int .i64 0, .int .i64 0, .bool false] 48)) = w' at *
  rw [e1] at hb
  exact ⟨w.heap.size + 1, rfl, ⟨_, _, _, _, 0, 0, (· = w.heap.size), fun _ => False, hb, ⟨by omega, by omega⟩, fun k hk => ⟨⟨by omega, by omega⟩, by omega⟩, fun _ h => h.elim, ⟨w.heap.size, rfl, rfl, him, ⟨rfl, .inl ⟨rfl, rfl⟩⟩, fun g hg => by cases hg⟩, fun t e => by cases e⟩, hbel⟩

theorem OwnI.last {w : World} {v : Value} {l : List Int} {a : Int} (h : OwnI w v (l ++ [a])) :
    ∃ q cap, v = .slice (some ⟨q, 0, none⟩) (l.length + 1) cap ∧ l.length + 1 ≤ cap ∧ cap ≤ maxLen ∧ w.cell? ⟨q, l.length, none⟩ = some (.int .i64 a) ∧ OwnI w (.slice (some ⟨q, 0, none⟩) l.length cap) l := by
  obtain ⟨-, h1⟩ := h
  rcases h1 with ⟨-, h1⟩ | ⟨q, cap, cur, rfl, hb, hh, h2, h3, h4, h5⟩
  · simp at h1
  · have e : (l ++ [a]).length = l.length + 1 := by simp
    rw [e] at h2 h5 ⊢
    rw [Nat.mul_one, List.map_append] at h5
    refine ⟨q, cap, rfl, h2, h3, ?_, by simp, .inr ⟨q, cap, cur, rfl, hb, hh, by omega, h3, h4, ?_⟩⟩
    · rw [cell_of_row w q l.length cur _ (0, 0) hh]
      have : (cur.toList.take (l.length + 1))[l.length]? = some (.int .i64 a) := by rw [h5]; simp
      rw [List.getElem?_take] at this
      simpa using this
    · rw [Nat.mul_one]
      have := congrArg (List.take l.length) h5
      rw [List.take_take, Nat.min_eq_left (by omega)] at this
      rw [this]
      simp

/-- The state with a page more. -/
def PS.add (t : PS) (a : Int) : PS := { t with f := fun j => if j = a then some ⟨(zeros 504).toArray⟩ else t.f j, n := if (t.f a).isSome then t.n else t.n + 1 }

set_option maxHeartbeats 2000000 in
theorem rnew_full {w : World} {Q : Nat → Prop} {x pages : Nat} {S t : PS} (h : Rp w Q x pages S (some t)) (hg : t.gone = []) (hn : pages ≤ t.next) :
    Calls Try.prog 25 #[.pointer (some ⟨x, 0, none⟩)] w fun e w' => e = .returned (.tuple #[.int .i64 0, .int .i64 14]) ∧ w' = w := by
  obtain ⟨mS, gS, mT, gT, nT, rT, QS, QT, hb, hx, hS, hT, pS, pT⟩ := h
  obtain ⟨⟨b, rfl, hqb, him, ho, hgo⟩, rfl, rfl⟩ := pT t rfl
  obtain ⟨so, sk, rfl, -⟩ := owns_form ho
  have c9 : w.cell? ⟨x, 9, none⟩ = some (.bool true) := by rw [hb.cell]; rfl
  have c0 : w.cell? ⟨x, 0, none⟩ = some (.int .i64 pages) := by rw [hb.cell]; rfl
  have c7 : w.cell? ⟨x, 7, none⟩ = some (.int .i64 t.next) := by rw [hb.cell]; rfl
  have c6 : w.cell? ⟨x, 6, none⟩ = some (.slice so 0 sk) := by rw [hb.cell, hg]; rfl
  obtain ⟨k, hk⟩ : ∃ k, k = t.next := ⟨_, rfl⟩
  rw [← hk] at c7 hn
  have hn' : (pages : Int) ≤ k := by omega
  clear hb hx hS hT pS pT ho hgo him hg hk hqb
  go_enter Try.func25, Try.ntmps25
  go_wp2_with fail
  go_ret2
  exact ⟨rfl, rfl⟩
end Go.Proofs.Ytcnfnpccbnnplaa
