/- Package disk: Write. -/
import Derived.Test.YtkhdahipnfloeaaRead
import Derived.Deep.AppendLies
import Derived.Deep.RegionLaw
namespace Go.Proofs.Ytkhdahipnfloeaa
open Go.RowKit
set_option maxRecDepth 100000

theorem Try.infoWrite : (Try.prog.info? 79).map (fun i => (i.zero, i.size, i.bytes)) = some (some (.agg #[.int .i64 0, .string ByteArray.empty]), 2, 24) := by kernel_rfl

def Dsk.put (s : Dsk) (k : Nat) (x : ByteArray) : Dsk := { s with now := s.now.set k x, since := s.since ++ [(k, x)] }
def writeErr (s : Dsk) (i : Int) (l : List UInt8) : Int := if faultOf s i ≠ 0 then faultOf s i else if 512 < l.length then 1 else deadErr (s.put i.toNat ⟨l.toArray⟩).step
def Dsk.write (s : Dsk) (i : Int) (l : List UInt8) : Dsk := if faultOf s i = 0 ∧ l.length ≤ 512 then (s.put i.toNat ⟨l.toArray⟩).step else s

theorem wcells_length (l : List (Nat × ByteArray)) : (wcells l).length = l.length * 2 := by
  induction l with
  | nil => rfl
  | cons p t ih => simp only [wcells, List.flatMap_cons, List.length_append, List.length_cons, List.length_nil] at ih ⊢; omega
theorem wcells_snoc (l : List (Nat × ByteArray)) (p : Nat × ByteArray) : wcells (l ++ [p]) = wcells l ++ [.int .i64 (p.1 : Int), .string p.2] := by simp [wcells]

theorem strs_set (l : List ByteArray) (k : Nat) (x : ByteArray) : (strs l).toArray.setIfInBounds k (.string x) = (strs (l.set k x)).toArray := by
  apply Array.ext'
  simp [strs, List.map_set]

/-- d.since = append(d.since, write{at, b}) -/
theorem step_since {ops : Array Oper} {o : Oper} {a : Act} {w : World} {K : Act → World → Prop} {Q : Exit → Act → World → Prop} {E : Prop} (hgd : o.guard = none) (s x : Operand)
    (ho : o.op = .call { callee := .builtin .append, args := #[s, x], argTypes := #[65, 65] })
    (v : Value) (l : List (Nat × ByteArray)) (hs : a.eval s = v) (hown : w.ownsRow 0 79 2 v l.length (wcells l))
    (g0 : Nat) (hx : a.eval x = .slice (some ⟨g0, 0, none⟩) 1 1) (k : Nat) (b : ByteArray) (hg : Blk w g0 #[.int .i64 (k : Int), .string b] 79) (hl : l.length ≤ 1073741824)
    (h : ∀ g cap w', w'.ownsRow 0 79 2 (.slice (some ⟨g, 0, none⟩) (l.length + 1) cap) (l.length + 1) (wcells (l ++ [(k, b)])) → w.grownBy w' v.ownBlock → (v.ownBlock = some g ∨ g = w.heap.size) → g < w'.heap.size →
      K (a.put o.dst (.slice (some ⟨g, 0, none⟩) (l.length + 1) cap)) w') :
    if Region.wanted o (yielded ops a.tmps) = true then Oper.wp Try.prog o a w K Q else E := by
  obtain ⟨i0, hi, hz0, hz1, hz2⟩ := info_parts Try.infoWrite
  refine step_append_lies w hgd s x _ ho 0 79 i0 _ 2 24 Try.underlying65 hi hz0 hz1 hz2 rfl (by decide) v l.length (wcells l) hs hown ⟨g0, 0, none⟩ 1 1 [.int .i64 (k : Int), .string b] hx rfl ?_ ?_ (by decide) (by simp [maxLen]; omega) (by omega) (Nat.zero_le _) _ rfl ?_
  · intro j u hj
    rw [show (⟨g0, 0, none⟩ : Addr).add j = ⟨g0, j, none⟩ from by unfold Addr.add; split <;> simp_all, hg.cell]
    simpa using hj
  · intro u hu
    simp at hu
    rcases hu with rfl | rfl <;> rfl
  · intro g cap w' h1 h2 h3 h4
    exact h g cap w' (by rw [wcells_snoc]; exact h1) h2 h3 h4

theorem grown_keep {w w' : World} {row : Option Nat} {b : Nat} {cur : Array Value} {t : TypeId} (hg : w.grownBy w' row) (h : Blk w b cur t) (hne : row ≠ some b) : Blk w' b cur t :=
  (hg.block b h.lt (Ne.symm hne)).trans h

theorem DkAt.drew {w : World} {P : Nat → Prop} {r bn bk : Nat} {sv : Value} {s : Dsk} (h : DkAt w P r bn bk sv s) : DkAt w.drew P r bn bk sv s :=
  ⟨h.n1, h.n2, h.n3, h.n4, h.n5, h.n6, h.p1, h.p2, h.p3, h.p4, h.top, h.bnow, h.bkept, h.len, h.most, h.row, h.ats, h.short⟩

theorem DkAt.wrote {w : World} {P : Nat → Prop} {r bn bk : Nat} {sv : Value} {s : Dsk} (h : DkAt w P r bn bk sv s) (k : Nat) (x : ByteArray) (hx : x.size ≤ 512) :
    DkAt (w.setCell ⟨bn, k, none⟩ (.string x)) P r bn bk sv { s with now := s.now.set k x } ∧ Moved P w (w.setCell ⟨bn, k, none⟩ (.string x)) := by
  have hm : Moved (· = bn) w (w.setCell ⟨bn, k, none⟩ (.string x)) := (Moved.refl (· = bn) w).setCell ⟨bn, k, none⟩ _ (.inl rfl)
  refine ⟨⟨h.n1, h.n2, h.n3, h.n4, h.n5, h.n6, h.p1, h.p2, h.p3, h.p4, ?_, ?_, h.bkept.moved hm (Ne.symm h.n3), ?_, ?_, owns_moved h.row hm (fun q hq e => h.n5 (by rw [hq, e])), ?_, ?_, h.short.2⟩, hm.mono (by rintro j rfl; exact h.p2)⟩
  · have := Blk.moved h.top hm h.n1
    simpa [Top] using this
  · have := h.bnow.set k (.string x)
    rwa [strs_set] at this
  · simpa using h.len
  · simpa using h.most
  · intro p hp
    simpa using h.ats p hp
  · intro y hy
    rcases List.mem_or_eq_of_mem_set hy with hy | rfl
    · exact h.short.1 y hy
    · exact hx

theorem DkAt.appended {w w' : World} {P : Nat → Prop} {r bn bk : Nat} {sv : Value} {s : Dsk} (h : DkAt w P r bn bk sv s) (k : Nat) (x : ByteArray) (hx : x.size ≤ 512) (hk : k < s.now.length) (g cap H : Nat)
    (h1 : w'.ownsRow 0 79 2 (.slice (some ⟨g, 0, none⟩) (s.since.length + 1) cap) (s.since.length + 1) (wcells (s.since ++ [(k, x)]))) (h2 : Moved (fun j => sv.ownBlock = some j) w w') (h3 : sv.ownBlock = some g ∨ g = H) (hH : w.heap.size ≤ H) (hr : r < w.heap.size) :
    DkAt (w'.setCell ⟨r, 2, none⟩ (.slice (some ⟨g, 0, none⟩) (s.since.length + 1) cap)) (fun j => P j ∨ j = H) r bn bk (.slice (some ⟨g, 0, none⟩) (s.since.length + 1) cap) { s with since := s.since ++ [(k, x)] } ∧
    Moved P w (w'.setCell ⟨r, 2, none⟩ (.slice (some ⟨g, 0, none⟩) (s.since.length + 1) cap)) := by
  have hbn := h.bnow.lt
  have hbk := h.bkept.lt
  have hgr : g ≠ r := by
    rcases h3 with h3 | h3
    · intro e; exact h.n4 (by rw [h3, e])
    · omega
  have hgn : g ≠ bn := by
    rcases h3 with h3 | h3
    · intro e; exact h.n5 (by rw [h3, e])
    · omega
  have hgk : g ≠ bk := by
    rcases h3 with h3 | h3
    · intro e; exact h.n6 (by rw [h3, e])
    · omega
  have hm : Moved (· = r) w' (w'.setCell ⟨r, 2, none⟩ (.slice (some ⟨g, 0, none⟩) (s.since.length + 1) cap)) := (Moved.refl (· = r) w').setCell ⟨r, 2, none⟩ _ (.inl rfl)
  refine ⟨⟨h.n1, h.n2, h.n3, by simpa [Value.ownBlock] using hgr, by simpa [Value.ownBlock] using hgn, by simpa [Value.ownBlock] using hgk, .inl h.p1, .inl h.p2, .inl h.p3, ?_, ?_, ?_, ?_, h.len, h.most, ?_, ?_, ?_⟩, ?_⟩
  · intro q hq
    simp [Value.ownBlock] at hq
    subst hq
    rcases h3 with h3 | h3
    · exact .inl (h.p4 _ h3)
    · exact .inr h3
  · have := (Blk.moved h.top h2 h.n4).set 2 (.slice (some ⟨g, 0, none⟩) (s.since.length + 1) cap)
    exact this
  · exact (h.bnow.moved h2 h.n5).moved hm (Ne.symm h.n1)
  · exact (h.bkept.moved h2 h.n6).moved hm (Ne.symm h.n2)
  · have := owns_moved h1 hm (fun q hq e => by simp [Value.ownBlock] at hq; omega)
    simpa using this
  · intro p hp
    rcases List.mem_append.1 hp with hp | hp
    · exact h.ats p hp
    · simp at hp; subst hp; exact hk
  · refine ⟨h.short.1, h.short.2.1, fun p hp => ?_⟩
    rcases List.mem_append.1 hp with hp | hp
    · exact h.short.2.2 p hp
    · simp at hp; subst hp; exact hx
  · exact (h2.mono (fun j hj => h.p4 j hj)).trans hm (fun j hj => .inl (by subst hj; exact h.p1))
end Go.Proofs.Ytkhdahipnfloeaa
