/- Wd -/
import Derived.Test.YtpfjbcfnpfgidaaKGd
import Derived.Laws.ResultCell
import Derived.Deep.Grids
import Derived.Deep.Slices
import Derived.ProofKit
import Derived.Lib.AppendZeros
import Derived.Maps.OwnSet
import Derived.Maps.StringElems
import Derived.Maps.Views
import Derived.Maps.Own
import Derived.Deep.WholeRow
namespace Go.Proofs.Ytpfjbcfnpfgidaa
open Go.RowKit Go.Maps
set_option maxRecDepth 100000
set_option linter.unusedVariables false
/-- A row of the call's own. -/
def OwnS (w : World) (base : Nat) (v : Value) (l : List ByteArray) : Prop := w.ownsRow base 9 1 v l.length (strs l)
theorem OwnS.ss {w : World} {base : Nat} {v : Value} {l : List ByteArray} (h : OwnS w base v l) : Ss w v l := by
 have hc := fun g (hg : v.ownBlock = some g) => World.ownsRow.cells h hg
 rcases h.2 with ⟨rfl, hn⟩ | ⟨g, cap, cur, rfl, hb, hh, h1, h2, h3, h4⟩
 ·obtain rfl : l = [] := List.eq_nil_of_length_eq_zero hn
  exact ⟨none, 0, rfl, by simp, by simp [maxLen], fun _ => rfl, fun ad h => by cases h⟩
 ·refine ⟨some ⟨g, 0, none⟩, cap, rfl, h1, h2, (fun h => by cases h), fun ad had j u hu => ?_⟩
  cases had
  exact hc g rfl j u hu
/-- The block g is a row of texts (and what stands behind). -/
def RowS (w : World) (g : Nat) (L : List ByteArray) : Prop := ∃ cur : Array Value, Blk w g cur 9 ∧ cur.toList.take L.length = strs L
theorem strs_length (L : List ByteArray) : (strs L).length = L.length := by simp [strs]
theorem RowS.lt {w : World} {g : Nat} {L : List ByteArray} (h : RowS w g L) : g < w.heap.size := by
 obtain ⟨cur, h1, -⟩ := h
 exact h1.lt
theorem RowS.cell {w : World} {g : Nat} {L : List ByteArray} (h : RowS w g L) (j : Nat) (hj : j < L.length) : w.cell? ⟨g, j, none⟩ = some (.string L[j]) := by
 obtain ⟨cur, h1, h2⟩ := h
 rw [h1.cell, ← Array.getElem?_toList]
 have e : (cur.toList.take L.length)[j]? = cur.toList[j]? := by rw [List.getElem?_take, if_pos hj]
 rw [← e, h2]
 simp [strs, hj]
theorem RowS.frozen {w : World} {g : Nat} {L : List ByteArray} (h : RowS w g L) (j : Nat) : w.frozen? ⟨g, j, none⟩ = false := by
 obtain ⟨cur, h1, -⟩ := h
 exact h1.frozen j
theorem OwnS.row {w : World} {base : Nat} {v : Value} {L : List ByteArray} (h : OwnS w base v L) (h0 : 0 < L.length) : ∃ g cap, v = .slice (some ⟨g, 0, none⟩) L.length cap ∧ L.length ≤ cap ∧ cap ≤ maxLen ∧ base ≤ g ∧ RowS w g L := by
 rcases h.2 with ⟨rfl, hn⟩ | ⟨g, cap, cur, rfl, hb, hh, h1, h2, h3, h4⟩
 ·omega
 ·exact ⟨g, cap, rfl, h1, h2, hb, cur, hh, by simpa using h4⟩
theorem strs_one (L : List ByteArray) : ∀ u ∈ strs L, u.oneCell' = true := by
 intro u hu
 obtain ⟨b, -, rfl⟩ := List.mem_map.1 hu
 rfl
theorem strs_append (a b : List ByteArray) : strs (a ++ b) = strs a ++ strs b := by simp [strs]
/-- append(s, x...) of texts: s of one's own, x wherever it lies. -/
theorem wp_append_ss {w : World} {o : Oper} {a : Act} {K : Act → World → Prop} {Q : Exit → Act → World → Prop} (s x : Operand)
 (ho : o.op = .call { callee := .builtin .append, args := #[s, x], argTypes := #[22, 22] }) (B : Nat) (hB : B ≤ w.heap.size) (v : Value) (L : List ByteArray) (hs : a.eval s = v) (hown : OwnS w B v L) (xv : Value) (M : List ByteArray) (hx : a.eval x = xv) (hxs : Ss w xv M) (hl : L.length + M.length ≤ 1000000)
 (h : ∀ v' w', OwnS w' B v' (L ++ M) → w.grownBy w' v.ownBlock → (∀ q, v'.ownBlock = some q → v.ownBlock = some q ∨ w.heap.size ≤ q) → K (a.put o.dst v') w') : o.wp Try.prog a w K Q := by
 obtain ⟨i0, hi, hz0, hz1, hz2⟩ := info_parts Try.infoStr
 obtain ⟨ao, cap, rfl, h1, h2, h3, h4⟩ := hxs
 cases ao with
 | none =>
  have hc0 := h3 rfl
  obtain rfl : M = [] := List.eq_nil_of_length_eq_zero (by omega)
  subst hc0
  have hrun := run_append_owned_none (P := Try.prog) (w := w) B 22 o.type 9 i0 1 Try.underlying22 hi v L.length (strs L) hown
  have h' := h v w (by rw [List.append_nil]; exact hown) (World.grownBy.refl _ _) (fun q hq => .inl hq)
  unfold Oper.wp
  simp [execOp, ho, resolve, invoke, builtin, hs, hx, hrun, Result.andThen]
  exact h'
 | some ad =>
  have hnews := h4 ad rfl
  by_cases hm : M.length = 0
  ·obtain rfl : M = [] := List.eq_nil_of_length_eq_zero hm
   obtain ⟨v', w', hr, g2, g3, -⟩ := run_append_own (P := Try.prog) w B 22 o.type 9 i0 _ 1 16 Try.underlying22 hi hz0 hz1 hz2 rfl (by decide) v L.length (strs L) hown ad 0 cap [] rfl (fun j u hu => by simp at hu) (fun u hu => by cases hu) (by simp [maxLen]; omega) (by omega) hB
   have hq : v'.ownBlock = v.ownBlock := by
    rcases id hown.2 with ⟨rfl, hn⟩ | ⟨g, cp, cur, rfl, hb, hh, k1, k2, k3, k4⟩
    ·rcases g2.2 with ⟨rfl, -⟩ | ⟨g, cp, cur, rfl, hb, hh, k1, k2, k3, k4⟩
     ·rfl
     ·exfalso
      simp [Builtin.append_, run_underlying Try.underlying22, sizeOf, typeInfo, hi, Builtin.lenOf, Builtin.firstCells, loadCells, loadCellsFrom, hn] at hr
    ·have hrr := run_append_room (P := Try.prog) w 22 o.type 9 i0 Try.underlying22 hi g L.length cp cur hh ad 0 cap [] (by simp) (fun j u hu => by simp at hu) (fun u hu => by cases hu) (by omega) (by simp; rw [hz1, k3]; exact Nat.mul_le_mul_right _ k1)
     rw [hrr] at hr
     simp only [Result.ok.injEq] at hr
     rw [← hr.1]; rfl
   have h' := h v' w' (by rw [List.append_nil]; unfold OwnS; simpa using g2) g3 (fun q hq' => .inl (by rw [← hq]; exact hq'))
   unfold Oper.wp execOp
   simp only [ho, resolve, invoke, builtin, Sem.run_bind, Sem.run_pure, Result.andThen_ok, List.map_toArray, List.map_cons, List.map_nil, hs, hx, List.length_nil, hr]
   exact h'
  ·refine wp_append_lies w s x _ ho B 9 i0 _ 1 16 Try.underlying22 hi hz0 hz1 hz2 rfl (by decide) v L.length (strs L) hs hown ad M.length cap (strs M) hx (by simp [strs]) hnews (strs_one M) (by omega) (by simp [maxLen]; omega) (by omega) hB _ rfl ?_
   intro g cp w' k1 k2 k3 _
   refine h _ w' ?_ k2 (fun q hq => ?_)
   ·unfold OwnS
    rw [strs_append, List.length_append]
    exact k1
   ·obtain rfl : g = q := Option.some.inj hq
    rcases k3 with e | e
    ·exact .inl e
    ·exact .inr (by omega)
theorem step_append_ss {w : World} {ops : Array Oper} {o : Oper} {a : Act} {K : Act → World → Prop} {Q : Exit → Act → World → Prop} {E : Prop} (hgd : o.guard = none) (s x : Operand)
 (ho : o.op = .call { callee := .builtin .append, args := #[s, x], argTypes := #[22, 22] }) (B : Nat) (hB : B ≤ w.heap.size) (v : Value) (L : List ByteArray) (hs : a.eval s = v) (hown : OwnS w B v L) (xv : Value) (M : List ByteArray) (hx : a.eval x = xv) (hxs : Ss w xv M) (hl : L.length + M.length ≤ 1000000)
 (h : ∀ v' w', OwnS w' B v' (L ++ M) → w.grownBy w' v.ownBlock → (∀ q, v'.ownBlock = some q → v.ownBlock = some q ∨ w.heap.size ≤ q) → K (a.put o.dst v') w') : if Region.wanted o (yielded ops a.tmps) = true then Oper.wp Try.prog o a w K Q else E := by
 have hw : Region.wanted o (yielded ops a.tmps) = true := by simp [Region.wanted, hgd]
 rw [if_pos hw]
 exact wp_append_ss s x ho B hB v L hs hown xv M hx hxs hl h
theorem wpList_append_ss {w : World} {ops : Array Oper} {rest : List Oper} {o : Oper} {a : Act} {Q : Exit → Act → World → Prop} (hgd : o.guard = none) (s x : Operand)
 (ho : o.op = .call { callee := .builtin .append, args := #[s, x], argTypes := #[22, 22] }) (B : Nat) (hB : B ≤ w.heap.size) (v : Value) (L : List ByteArray) (hs : a.eval s = v) (hown : OwnS w B v L) (xv : Value) (M : List ByteArray) (hx : a.eval x = xv) (hxs : Ss w xv M) (hl : L.length + M.length ≤ 1000000)
 (h : ∀ v' w', OwnS w' B v' (L ++ M) → w.grownBy w' v.ownBlock → (∀ q, v'.ownBlock = some q → v.ownBlock = some q ∨ w.heap.size ≤ q) → wpList Try.prog ops Q rest (a.put o.dst v') w') : wpList Try.prog ops Q (o :: rest) a w :=
 wpList_plain hgd fun _ hK => wp_append_ss s x ho B hB v L hs hown xv M hx hxs hl fun v' w' h2 h3 h4 => hK _ _ (h v' w' h2 h3 h4)
theorem Ss.takes {w : World} {ao : Option Addr} {cap : Nat} {L : List ByteArray} (h : Ss w (.slice ao L.length cap) L) (n : Nat) (hn : n ≤ L.length) : Ss w (.slice ao n cap) (L.take n) := by
 obtain ⟨a, c, e, h1, h2, h3, h4⟩ := h
 simp only [Value.slice.injEq, true_and] at e
 obtain ⟨rfl, rfl⟩ := e
 refine ⟨ao, cap, by rw [List.length_take, Nat.min_eq_left hn], by rw [List.length_take]; omega, h2, h3, fun ad had j u hu => h4 ad had j u ?_⟩
 unfold strs at hu ⊢
 rw [List.map_take, List.getElem?_take] at hu
 split at hu
 ·exact hu
 ·cases hu
theorem Ss.form {w : World} {v : Value} {L : List ByteArray} (h : Ss w v L) : ∃ ao cap, v = .slice ao L.length cap ∧ L.length ≤ cap ∧ cap ≤ 9223372036854775807 := by
 obtain ⟨ao, cap, e, h1, h2, -⟩ := h; exact ⟨ao, cap, e, h1, h2⟩
/-- Rows of texts that are one's own, apart from one another and from blocks that stay; what was written since w0. -/
structure Live (w0 : World) (D : Nat → Prop) (w : World) (B : Nat) (F : List (Nat × Array Value × TypeId)) (R : List (Value × List ByteArray)) : Prop where
 fix : ∀ x ∈ F, Blk w x.1 x.2.1 x.2.2 ∧ x.1 < B
 own : ∀ r ∈ R, OwnS w B r.1 r.2
 apart : R.Pairwise (fun a b => ∀ q, a.1.ownBlock = some q → b.1.ownBlock ≠ some q)
 low : B ≤ w.heap.size
 mv : Moved D w0 w
 mine : ∀ r ∈ R, ∀ q, r.1.ownBlock = some q → D q ∨ w0.heap.size ≤ q
section
variable {w0 w w' : World} {D : Nat → Prop} {B : Nat} {F : List (Nat × Array Value × TypeId)} {R A C : List (Value × List ByteArray)} {r r1 r2 r3 r4 r5 r6 : Value × List ByteArray}
theorem Live.below (h : Live w0 D w B F R) (hb : Below w.heap.size w w') : Live w0 D w' B F R := by
 have hm := Moved.of_below hb (fun _ => False)
 exact ⟨fun x hx => ⟨(h.fix x hx).1.moved hm (fun h => h), (h.fix x hx).2⟩, fun r hr => owns_moved (h.own r hr) hm (fun _ _ h => h), h.apart, Nat.le_trans h.low hb.size, h.mv.trans hm (fun _ h => h.elim), h.mine⟩
theorem Live.drew (h : Live w0 D w B F R) : Live w0 D w.drew B F R := ⟨h.fix, h.own, h.apart, h.low, h.mv.drew, h.mine⟩
theorem Live.lt (h : Live w0 D w B F R) (hr : r ∈ R) : ∀ q, r.1.ownBlock = some q → B ≤ q ∧ q < w.heap.size := fun q hq => World.ownsRow.lt (h.own r hr) q hq
theorem Live.add (h : Live w0 D w B F R) (v : Value) (L : List ByteArray) (ho : OwnS w B v L) (hq : ∀ q, v.ownBlock = some q → (w0.heap.size ≤ q ∧ ∀ r ∈ R, r.1.ownBlock ≠ some q)) : Live w0 D w B F (R ++ [(v, L)]) := by
 refine ⟨h.fix, fun r hr => ?_, ?_, h.low, h.mv, fun r hr q hq' => ?_⟩
 ·rcases List.mem_append.1 hr with hr | hr
  ·exact h.own r hr
  ·rw [List.mem_singleton.1 hr]; exact ho
 ·rw [List.pairwise_append]
  exact ⟨h.apart, List.pairwise_singleton _ _, fun a ha b hb q hqa hqb => by rw [List.mem_singleton.1 hb] at hqb; exact (hq q hqb).2 a ha hqa⟩
 ·rcases List.mem_append.1 hr with hr | hr
  ·exact h.mine r hr q hq'
  ·rw [List.mem_singleton.1 hr] at hq'; exact .inr (hq q hq').1
theorem Live.text (h : Live w0 D w B F R) (s : ByteArray) : Live w0 D (w.alloc (.cells #[.string s] 9)) B F (R ++ [(.slice (some ⟨w.heap.size, 0, none⟩) 1 1, [s])]) := by
 refine (h.below ((Below.refl _ w).alloc (Nat.le_refl _) _)).add _ _ ?_ (fun q hq => ?_)
 ·exact World.ownsRow_lit (base := B) (e := 9) (size := 1) w #[.string s] 1 h.low (by simp [maxLen]) rfl
 ·obtain rfl : w.heap.size = q := Option.some.inj hq
  exact ⟨h.mv.size, fun r hr e => by have := h.lt hr _ e; omega⟩
theorem Live.empty (h : Live w0 D w B F R) : Live w0 D (w.alloc (.cells #[] 9)) B F (R ++ [(.slice (some ⟨w.heap.size, 0, none⟩) 0 0, [])]) := by
 refine (h.below ((Below.refl _ w).alloc (Nat.le_refl _) _)).add _ _ ?_ (fun q hq => ?_)
 ·exact World.ownsRow_made (base := B) (e := 9) (size := 1) w #[] 0 h.low (by simp [maxLen]) rfl
 ·obtain rfl : w.heap.size = q := Option.some.inj hq
  exact ⟨h.mv.size, fun r hr e => by have := h.lt hr _ e; omega⟩
theorem Live.grow (h : Live w0 D w B F (A ++ r :: C)) (v' : Value) (L' : List ByteArray) (ho : OwnS w' B v' L') (hg : w.grownBy w' r.1.ownBlock) (hq : ∀ q, v'.ownBlock = some q → r.1.ownBlock = some q ∨ w.heap.size ≤ q) : Live w0 D w' B F (A ++ (v', L') :: C) := by
 have hm : Moved (fun q => r.1.ownBlock = some q) w w' := (Moved.refl _ w).grown hg (fun k hk => .inl hk)
 have hmem : r ∈ A ++ r :: C := by simp
 have hap := h.apart
 rw [List.pairwise_append] at hap
 obtain ⟨a1, a2, a3⟩ := hap
 obtain ⟨b1, b2⟩ := List.pairwise_cons.1 a2
 have hoth : ∀ u, u ∈ A ∨ u ∈ C → (∀ q, u.1.ownBlock = some q → r.1.ownBlock ≠ some q) ∧ u ∈ A ++ r :: C := fun u hu => by
  rcases hu with hu | hu
  ·exact ⟨fun q hq e => a3 u hu r (List.mem_cons_self ..) q hq e, by simp [hu]⟩
  ·exact ⟨fun q hq e => b1 u hu q e hq, by simp [hu]⟩
 have hnew : ∀ u, u ∈ A ∨ u ∈ C → ∀ q, v'.ownBlock = some q → u.1.ownBlock ≠ some q := fun u hu q hv e => by
  rcases hq q hv with e' | e'
  ·exact (hoth u hu).1 q e e'
  ·have := h.lt (hoth u hu).2 q e; omega
 refine ⟨fun x hx => ⟨(h.fix x hx).1.moved hm (fun e => by have := (h.fix x hx).2; have := h.lt hmem _ e; omega), (h.fix x hx).2⟩, fun u hu => ?_, ?_, Nat.le_trans h.low hg.size, ?_, fun u hu q hq' => ?_⟩
 ·rcases List.mem_append.1 hu with hu | hu
  ·exact owns_moved (h.own u (hoth u (.inl hu)).2) hm (fun q hq e => (hoth u (.inl hu)).1 q hq e)
  ·rcases List.mem_cons.1 hu with rfl | hu
   ·exact ho
   ·exact owns_moved (h.own u (hoth u (.inr hu)).2) hm (fun q hq e => (hoth u (.inr hu)).1 q hq e)
 ·rw [List.pairwise_append, List.pairwise_cons]
  refine ⟨a1, ⟨fun u hu q hv => hnew u (.inr hu) q hv, b2⟩, fun u hu x hx => ?_⟩
  rcases List.mem_cons.1 hx with rfl | hx
  ·exact fun q hq e => hnew u (.inl hu) q e hq
  ·exact a3 u hu x (List.mem_cons_of_mem _ hx)
 ·exact h.mv.trans hm (fun q hq => h.mine r hmem q hq)
 ·have old : ∀ u, u ∈ A ++ r :: C → ∀ q, u.1.ownBlock = some q → D q ∨ w0.heap.size ≤ q := h.mine
  rcases List.mem_append.1 hu with hu | hu
  ·exact old u (by simp [hu]) q hq'
  ·rcases List.mem_cons.1 hu with rfl | hu
   ·rcases hq q hq' with e | e
    ·exact old r hmem q e
    ·exact .inr (Nat.le_trans h.mv.size e)
   ·exact old u (by simp [hu]) q hq'
theorem Live.grow1 (h : Live w0 D w B F (r1 :: C)) (v' : Value) (L' : List ByteArray) (ho : OwnS w' B v' L') (hg : w.grownBy w' r1.1.ownBlock) (hq : ∀ q, v'.ownBlock = some q → r1.1.ownBlock = some q ∨ w.heap.size ≤ q) : Live w0 D w' B F ((v', L') :: C) := Live.grow (A := []) h v' L' ho hg hq
theorem Live.grow2 (h : Live w0 D w B F (r1 :: r2 :: C)) (v' : Value) (L' : List ByteArray) (ho : OwnS w' B v' L') (hg : w.grownBy w' r2.1.ownBlock) (hq : ∀ q, v'.ownBlock = some q → r2.1.ownBlock = some q ∨ w.heap.size ≤ q) : Live w0 D w' B F (r1 :: (v', L') :: C) := Live.grow (A := [r1]) h v' L' ho hg hq
theorem Live.grow3 (h : Live w0 D w B F (r1 :: r2 :: r3 :: C)) (v' : Value) (L' : List ByteArray) (ho : OwnS w' B v' L') (hg : w.grownBy w' r3.1.ownBlock) (hq : ∀ q, v'.ownBlock = some q → r3.1.ownBlock = some q ∨ w.heap.size ≤ q) : Live w0 D w' B F (r1 :: r2 :: (v', L') :: C) := Live.grow (A := [r1, r2]) h v' L' ho hg hq
theorem Live.grow4 (h : Live w0 D w B F (r1 :: r2 :: r3 :: r4 :: C)) (v' : Value) (L' : List ByteArray) (ho : OwnS w' B v' L') (hg : w.grownBy w' r4.1.ownBlock) (hq : ∀ q, v'.ownBlock = some q → r4.1.ownBlock = some q ∨ w.heap.size ≤ q) : Live w0 D w' B F (r1 :: r2 :: r3 :: (v', L') :: C) := Live.grow (A := [r1, r2, r3]) h v' L' ho hg hq
theorem Live.at1 (h : Live w0 D w B F (r1 :: C)) : OwnS w B r1.1 r1.2 := h.own _ (by simp)
theorem Live.at2 (h : Live w0 D w B F (r1 :: r2 :: C)) : OwnS w B r2.1 r2.2 := h.own _ (by simp)
theorem Live.at3 (h : Live w0 D w B F (r1 :: r2 :: r3 :: C)) : OwnS w B r3.1 r3.2 := h.own _ (by simp)
theorem Live.at4 (h : Live w0 D w B F (r1 :: r2 :: r3 :: r4 :: C)) : OwnS w B r4.1 r4.2 := h.own _ (by simp)
theorem Live.sub (h : Live w0 D w B F R) {R' : List (Value × List ByteArray)} (hs : R'.Sublist R) : Live w0 D w B F R' :=
 ⟨h.fix, fun r hr => h.own r (hs.subset hr), h.apart.sublist hs, h.low, h.mv, fun r hr => h.mine r (hs.subset hr)⟩
/-- What is written is reckoned from here on. -/
theorem Live.rebase (h : Live w0 D w B F R) : Live w (fun q => ∃ r ∈ R, r.1.ownBlock = some q) w B F R := ⟨h.fix, h.own, h.apart, h.low, Moved.refl _ _, fun r hr q hq => .inl ⟨r, hr, hq⟩⟩
theorem Live.back {F' : List (Nat × Array Value × TypeId)} {R' : List (Value × List ByteArray)} (h : Live w0 D w B F R) (k : Live w (fun q => ∃ r ∈ R, r.1.ownBlock = some q) w' B F' R') : Live w0 D w' B F' R' := by
 have hm : ∀ q, (∃ r ∈ R, r.1.ownBlock = some q) → D q ∨ w0.heap.size ≤ q := fun q ⟨r, hr, hq⟩ => h.mine r hr q hq
 refine ⟨k.fix, k.own, k.apart, k.low, h.mv.trans k.mv hm, fun r hr q hq => ?_⟩
 rcases k.mine r hr q hq with e | e
 ·exact hm q e
 ·exact .inr (Nat.le_trans h.mv.size e)
/-- A fixed block's cell is written. -/
theorem Live.put (h : Live w0 D w B F R) (b : Nat) (j : Nat) (u : Value) (hb : b < B) (hD : D b) : Live w0 D (w.setCell ⟨b, j, none⟩ u) B (F.map (fun x => if x.1 = b then (x.1, x.2.1.setIfInBounds j u, x.2.2) else x)) R := by
 have hm : Moved (· = b) w (w.setCell ⟨b, j, none⟩ u) := (Moved.refl _ w).setCell _ _ (.inl rfl)
 refine ⟨fun x hx => ?_, fun r hr => owns_moved (h.own r hr) hm (fun q hq e => by have := h.lt hr q hq; omega), h.apart, Nat.le_trans h.low hm.size, h.mv.trans hm (fun q e => .inl (by rw [e]; exact hD)), h.mine⟩
 obtain ⟨y, hy, rfl⟩ := List.mem_map.1 hx
 have hyf := h.fix y hy
 by_cases e : y.1 = b
 ·rw [if_pos e]
  subst e
  exact ⟨hyf.1.set j u, hyf.2⟩
 ·rw [if_neg e]
  exact ⟨hyf.1.other ⟨b, j, none⟩ u e, hyf.2⟩
end
end Go.Proofs.Ytpfjbcfnpfgidaa
