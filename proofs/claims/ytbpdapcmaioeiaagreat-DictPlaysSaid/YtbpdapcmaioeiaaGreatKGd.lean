/- Gd -/
import Derived.Test.YtbpdapcmaioeiaaGreatKGc
namespace Go.Proofs.YtbpdapcmaioeiaaGreat
open Go.RowKit
set_option maxRecDepth 100000
section
theorem Bs.moved0 {P : Nat → Prop} {w w' : World} {v : Value} {l : List UInt8} (h : Bs w v l) (hm : Moved P w w') (hP : 0 < l.length → ∀ k, v.ownBlock = some k → ¬ P k) : Bs w' v l := by
 by_cases h0 : 0 < l.length
 ·exact h.moved hm (hP h0)
 ·obtain rfl : l = [] := List.eq_nil_of_length_eq_zero (by omega)
  obtain ⟨ao, cap, rfl, h1, h2, h3, h4⟩ := h
  exact ⟨ao, cap, rfl, h1, h2, h3, fun ad had j u hu => by simp [vbs] at hu⟩
/-- A page's two cells, and what its slice reads as; its blocks are of S. -/
def PuAt (w : World) (S : Nat → Prop) (b o : Nat) (p : Int × List UInt8) : Prop :=
 w.cell? ⟨b, o, none⟩ = some (.int .i64 p.1) ∧ ∃ u, w.cell? ⟨b, o + 1, none⟩ = some u ∧ Bs w u p.2 ∧ (0 < p.2.length → ∀ g, u.ownBlock = some g → S g)
/-- A slice of pages that reads as l; all its blocks are of S. -/
def Pus (w : World) (S : Nat → Prop) (v : Value) (l : Pages) : Prop :=
 ∃ ao cap, v = .slice ao l.length cap ∧ l.length ≤ cap ∧ cap ≤ maxLen ∧ ∀ k (hk : k < l.length), ∃ b off, ao = some ⟨b, off, none⟩ ∧ S b ∧ PuAt w S b (off + k * 2) l[k]
theorem PuAt.moved {w w' : World} {S P : Nat → Prop} {b o : Nat} {p : Int × List UInt8} (h : PuAt w S b o p) (hb : S b) (hm : Moved P w w') (hS : ∀ g, S g → ¬ P g) : PuAt w' S b o p := by
 obtain ⟨h0, u, h1, h2, h3⟩ := h
 have hlt : b < w.heap.size := World.block_lt_of_cell? w _ h0
 have hc : ∀ j, w'.cell? ⟨b, j, none⟩ = w.cell? ⟨b, j, none⟩ := fun j => World.cell?_of_block (a := ⟨b, j, none⟩) (hm.block b hlt (hS b hb))
 exact ⟨(hc _).trans h0, u, (hc _).trans h1, h2.moved0 hm (fun h0 k hk => hS k (h3 h0 k hk)), h3⟩
theorem Pus.moved {w w' : World} {S P : Nat → Prop} {v : Value} {l : Pages} (h : Pus w S v l) (hm : Moved P w w') (hS : ∀ g, S g → ¬ P g) : Pus w' S v l := by
 obtain ⟨ao, cap, e, h1, h2, hE⟩ := h
 refine ⟨ao, cap, e, h1, h2, fun k hk => ?_⟩
 obtain ⟨b, off, e', hb, hA⟩ := hE k hk
 exact ⟨b, off, e', hb, hA.moved hb hm hS⟩
theorem Pus.below {w w' : World} {S : Nat → Prop} {v : Value} {l : Pages} (h : Pus w S v l) (hb : Below w.heap.size w w') : Pus w' S v l := h.moved (Moved.of_below hb (fun _ => False)) (fun _ _ h => h)
end
section
end
section
theorem draws {B : Nat} {a w : World} (h : Below B a w) (n : Nat) : Below B a (w.drewN n) := ⟨h.os, h.tape, h.output, h.size, h.block⟩
end
section
def Wops (ws : List (Nat × List UInt8)) : List Dop := ws.map fun p => Dop.W p.1 p.2
theorem run_take_ok {A Ak : Ab} {ws : List (Nat × List UInt8)} {k : Nat} (hk : k < ws.length) (h : A.run (Wops (ws.take k)) = (0, Ak)) (he : Ak.writeErr ws[k].1 ws[k].2 = 0) : A.run (Wops (ws.take (k + 1))) = (0, Ak.write ws[k].1 ws[k].2) := by
 unfold Wops at h ⊢
 rw [List.take_succ_eq_append_getElem hk, List.map_append, run_append, h, if_pos rfl]
 show (if Ak.writeErr ws[k].1 ws[k].2 = 0 then _ else _) = _
 rw [if_pos he]
 rfl
theorem run_take_all {A Ak : Ab} {ws : List (Nat × List UInt8)} {k : Nat} (hk : ws.length ≤ k) (h : A.run (Wops (ws.take k)) = (0, Ak)) (rest : List Dop) : A.run (Wops ws ++ rest) = Ak.run rest := by
 rw [List.take_of_length_le hk] at h
 rw [run_append, h, if_pos rfl]
theorem run_take_bad {A Ak : Ab} {ws : List (Nat × List UInt8)} {k : Nat} (hk : k < ws.length) (h : A.run (Wops (ws.take k)) = (0, Ak)) (he : Ak.writeErr ws[k].1 ws[k].2 ≠ 0) (rest : List Dop) : A.run (Wops ws ++ rest) = (Ak.writeErr ws[k].1 ws[k].2, Ak.write ws[k].1 ws[k].2) := by
 have e : Wops ws = Wops (ws.take k) ++ (Dop.W ws[k].1 ws[k].2 :: Wops (ws.drop (k + 1))) := by
  unfold Wops
  have e1 := List.take_append_drop k ws
  rw [List.drop_eq_getElem_cons hk] at e1
  rw [← List.map_cons (f := fun p : Nat × List UInt8 => Dop.W p.1 p.2), ← List.map_append, e1]
 rw [e, List.append_assoc, run_append, h, if_pos rfl]
 show (if Ak.writeErr ws[k].1 ws[k].2 = 0 then _ else _) = _
 rw [if_neg he]
theorem Small.mono {A : Ab} {k m : Nat} (h : Small A k) (hk : k ≤ m) : Small A m := ⟨Nat.le_trans h.1 hk, Nat.le_trans h.2.1 hk, h.2.2⟩
theorem Small.step {A : Ab} {k : Nat} (h : Small A k) : Small A.step (k + 1) := ⟨Nat.succ_le_succ h.1, Nat.le_succ_of_le h.2.1, Nat.le_trans (Nat.sub_le _ _) h.2.2⟩
theorem Small.write {A : Ab} {k : Nat} (h : Small A k) (i : Int) (b : List UInt8) : Small (A.write i b) (k + 1) := by
 unfold Ab.write
 split
 ·refine ⟨Nat.succ_le_succ h.1, ?_, Nat.le_trans (Nat.sub_le _ _) h.2.2⟩
  show (A.since ++ [_]).length ≤ _
  rw [List.length_append]
  exact Nat.succ_le_succ h.2.1
 ·exact h.mono (Nat.le_succ _)
theorem Small.sync {A : Ab} {k : Nat} (h : Small A k) : Small A.sync (k + 1) := by
 unfold Ab.sync
 split
 ·exact h.mono (Nat.le_succ _)
 ·split
  ·exact h.step
  ·exact ⟨h.step.1, Nat.zero_le _, h.step.2.2⟩
theorem homeWs_get (l : Pages) (k : Nat) (h : k < l.length) : (homeWs l)[k]'(by simpa [homeWs] using h) = (l[k].1.toNat, page l[k].2) := by simp [homeWs]
end
section
theorem home_any (w w1 : World) (P : Nat → Prop) (r : Nat) (A : Ab) (at1 : Int) (h : DkTo w P w1 r A) :
 Calls Tryz.prog 122 #[.pointer (some ⟨r, 0, none⟩), .int .i64 at1] w1 fun e w' => e = .returned (.bool (decide (401 ≤ at1 ∧ at1 < A.now.length))) ∧ w' = w1 := by
 have hsz := to_size h
 obtain ⟨N, hN⟩ : ∃ N, N = A.now.length := ⟨_, rfl⟩
 rw [← hN] at hsz ⊢
 clear hN h
 by_cases h1 : 401 ≤ at1
 ·rw [show decide (401 ≤ at1 ∧ at1 < (N : Int)) = decide (at1 < (N : Int)) by simp [h1]]
  go_enter Tryz.func122, Tryz.ntmps122
  go_wp2_with (go_at_call 33; refine hsz.mono ?_; rintro e w' ⟨rfl, hw⟩; replace hw := hw.symm; subst hw)
  go_ret
  exact ⟨rfl, rfl⟩
 ·rw [show decide (401 ≤ at1 ∧ at1 < (N : Int)) = false by simp [h1]]
  clear hsz
  go_enter Tryz.func122, Tryz.ntmps122
  go_wp2_with fail
  go_ret
  exact ⟨rfl, rfl⟩
end
section
end
section
theorem Tryz.infoPu : (Tryz.prog.info? 150).map (fun i => (i.zero, i.size, i.bytes)) = some (some (.agg #[.int .i64 0, .slice none 0 0]), 2, 32) := by kernel_rfl
def pcells (l : Pages) (vs : List Value) : List Value := (l.zip vs).flatMap fun p => [.int .i64 p.1.1, p.2]
theorem pcells_at : ∀ (l : Pages) (vs : List Value) (_ : vs.length = l.length) (i : Nat) (hi : i < l.length) (hj : i < vs.length), (pcells l vs)[i * 2]? = some (.int .i64 l[i].1) ∧ (pcells l vs)[i * 2 + 1]? = some vs[i]
 | [], _, _, i, hi, _ => by simp at hi
 | p :: t, [], h, _, _, _ => by simp at h
 | p :: t, v :: vt, h, 0, _, _ => by simp [pcells]
 | p :: t, v :: vt, h, i + 1, hi, hj => by
  have e : pcells (p :: t) (v :: vt) = .int .i64 p.1 :: v :: pcells t vt := rfl
  have := pcells_at t vt (by simpa using h) i (by simpa using hi) (by simpa using hj)
  rw [e, show (i + 1) * 2 = i * 2 + 1 + 1 from by omega]
  simpa using this
theorem pcells_snoc (l : Pages) (vs : List Value) (h : vs.length = l.length) (p : Int × List UInt8) (v : Value) : pcells (l ++ [p]) (vs ++ [v]) = pcells l vs ++ [.int .i64 p.1, v] := by
 unfold pcells
 rw [List.zip_append h.symm]
 simp
/-- A row of the call's own (blocks from w0 on) that reads as l; the pages' bytes lie in blocks from w0 on, or of T. -/
def PRow (T : Nat → Prop) (w0 : Nat) (w : World) (lv : Value) (l : Pages) : Prop :=
 ∃ vs : List Value, vs.length = l.length ∧ w.ownsRow w0 150 2 lv l.length (pcells l vs) ∧ ∀ j (hj : j < l.length) (hv : j < vs.length), Bs w vs[j] l[j].2 ∧ (0 < l[j].2.length → ∀ g, vs[j].ownBlock = some g → T g ∨ (w0 ≤ g ∧ g < w.heap.size ∧ lv.ownBlock ≠ some g))
theorem PRow.nil (T : Nat → Prop) (w0 : Nat) (w : World) : PRow T w0 w (.slice none 0 0) [] := ⟨[], rfl, World.ownsRow_nil _ _ _ _, fun j hj => by simp at hj⟩
theorem PRow.below {T : Nat → Prop} {w0 : Nat} {w w' : World} {lv : Value} {l : Pages} (h : PRow T w0 w lv l) (hb : Below w.heap.size w w') : PRow T w0 w' lv l := by
 obtain ⟨vs, h1, h2, h3⟩ := h
 exact ⟨vs, h1, owns_moved h2 (Moved.of_below hb (fun _ => False)) (fun _ _ h => h), fun j hj hv => ⟨(h3 j hj hv).1.below hb, fun h0 g hg => ((h3 j hj hv).2 h0 g hg).imp_right fun e => ⟨e.1, Nat.lt_of_lt_of_le e.2.1 hb.size, e.2.2⟩⟩⟩
theorem PRow.form {T : Nat → Prop} {w0 : Nat} {w : World} {lv : Value} {l : Pages} (h : PRow T w0 w lv l) : ∃ so cap, lv = .slice so l.length cap ∧ l.length ≤ cap ∧ cap ≤ maxLen := by
 obtain ⟨vs, h1, h2, h3⟩ := h
 exact owns_form h2
theorem PRow.lt {T : Nat → Prop} {w0 : Nat} {w : World} {lv : Value} {l : Pages} (h : PRow T w0 w lv l) : ∀ q, lv.ownBlock = some q → w0 ≤ q ∧ q < w.heap.size := by
 obtain ⟨vs, h1, h2, h3⟩ := h
 exact fun q hq => h2.lt q hq
theorem PRow.pus {T : Nat → Prop} {w0 : Nat} {w : World} {lv : Value} {l : Pages} (h : PRow T w0 w lv l) : Pus w (fun g => T g ∨ (w0 ≤ g ∧ g < w.heap.size)) lv l := by
 obtain ⟨vs, h1, h2, h3⟩ := h
 by_cases h0 : l.length = 0
 ·obtain ⟨so, cap, rfl, k1, k2⟩ := owns_form h2
  exact ⟨so, cap, rfl, k1, k2, fun k hk => by omega⟩
 ·obtain ⟨g, cap, hsv, -, -⟩ := h2.form (by omega)
  obtain ⟨so, c', e, k1, k2⟩ := owns_form h2
  rw [hsv] at e
  simp only [Value.slice.injEq, true_and] at e
  obtain ⟨rfl, rfl⟩ := e
  subst hsv
  refine ⟨_, cap, rfl, k1, k2, fun k hk => ?_⟩
  have hv : k < vs.length := by omega
  have hlt := h2.lt g rfl
  have c1 := h2.cells (g := g) rfl (k * 2) _ (pcells_at l vs h1 k hk hv).1
  have c2 := h2.cells (g := g) rfl (k * 2 + 1) _ (pcells_at l vs h1 k hk hv).2
  simp only [Addr.add_lit, Nat.zero_add] at c1 c2
  refine ⟨g, 0, rfl, .inr ⟨hlt.1, hlt.2⟩, ?_, vs[k], ?_, (h3 k hk hv).1, fun h0 q hq => ((h3 k hk hv).2 h0 q hq).imp_right fun e => ⟨e.1, e.2.1⟩⟩
  ·rw [Nat.zero_add]; exact c1
  ·rw [Nat.zero_add]; exact c2
theorem PRow.appended {T : Nat → Prop} {w0 : Nat} {w1 w2 : World} {lv : Value} {l : Pages} {vs : List Value} (h1 : vs.length = l.length)
 (h3 : ∀ j (hj : j < l.length) (hv : j < vs.length), Bs w1 vs[j] l[j].2 ∧ (0 < l[j].2.length → ∀ g, vs[j].ownBlock = some g → T g ∨ (w0 ≤ g ∧ g < w1.heap.size ∧ lv.ownBlock ≠ some g))) (hT : ∀ g, T g → g < w0) (hL : ∀ q, lv.ownBlock = some q → w0 ≤ q)
 (a : Int) (b : List UInt8) (v : Value) (hb : Bs w1 v b) (hv : 0 < b.length → ∀ g, v.ownBlock = some g → T g ∨ (w0 ≤ g ∧ g < w1.heap.size ∧ lv.ownBlock ≠ some g)) (g cap : Nat)
 (k1 : w2.ownsRow w0 150 2 (.slice (some ⟨g, 0, none⟩) (l.length + 1) cap) (l.length + 1) (pcells l vs ++ [.int .i64 a, v])) (k2 : w1.grownBy w2 lv.ownBlock) (k3 : lv.ownBlock = some g ∨ w1.heap.size ≤ g) :
 PRow T w0 w2 (.slice (some ⟨g, 0, none⟩) (l.length + 1) cap) (l ++ [(a, b)]) := by
 have hm : Moved (fun j => lv.ownBlock = some j) w1 w2 := ⟨k2.os, k2.tape, k2.output, k2.size, fun k hk hne => k2.block k hk (fun e => hne e.symm)⟩
 have key : ∀ (u : Value) (c : List UInt8), Bs w1 u c → (0 < c.length → ∀ q, u.ownBlock = some q → T q ∨ (w0 ≤ q ∧ q < w1.heap.size ∧ lv.ownBlock ≠ some q)) → Bs w2 u c ∧ (0 < c.length → ∀ q, u.ownBlock = some q → T q ∨ (w0 ≤ q ∧ q < w2.heap.size ∧ (Value.slice (some ⟨g, 0, none⟩) (l.length + 1) cap).ownBlock ≠ some q)) := by
  intro u c hu hq
  refine ⟨hu.moved0 hm (fun h0 k hk e => ?_), fun h0 q hqq => (hq h0 q hqq).imp_right fun hr => ⟨hr.1, Nat.lt_of_lt_of_le hr.2.1 k2.size, fun e => ?_⟩⟩
  ·rcases hq h0 k hk with ht | hr
   ·have := hT k ht
    have := hL k e
    omega
   ·exact hr.2.2 e
  ·simp only [Value.ownBlock, Option.some.injEq] at e
   subst e
   rcases k3 with k3 | k3
   ·exact hr.2.2 k3
   ·omega
 refine ⟨vs ++ [v], by simp [h1], ?_, fun j hj hv' => ?_⟩
 ·rw [pcells_snoc _ _ h1]; simpa using k1
 ·by_cases e : j < l.length
  ·have hjv : j < vs.length := by omega
   simp only [List.getElem_append_left hjv, List.getElem_append_left e]
   exact key _ _ (h3 j e hjv).1 (h3 j e hjv).2
  ·have hj' : j = l.length := by rw [List.length_append] at hj; simp at hj; omega
   subst hj'
   have e1 : (vs ++ [v])[l.length]'hv' = v := by
    rw [List.getElem_append_right (by omega)]; simp [h1]
   have e2 : (l ++ [(a, b)])[l.length]'hj = (a, b) := by
    rw [List.getElem_append_right (Nat.le_refl _)]; simp
   simp only [e1, e2]
   exact key _ _ hb hv
/-- l = append(l, api.Put{a, v}) -/
theorem wpList_append_pu {w : World} {ops : Array Oper} {rest : List Oper} {o : Oper} {a : Act} {Q : Exit → Act → World → Prop} (hgd : o.guard = none) (s x : Operand)
 (ho : o.op = .call { callee := .builtin .append, args := #[s, x], argTypes := #[101, 101] }) (T : Nat → Prop) (w0 : Nat) (hT : ∀ g, T g → g < w0) (hw0 : w0 ≤ w.heap.size)
 (lv : Value) (l : Pages) (hs : a.eval s = lv) (hown : PRow T w0 w lv l)
 (g0 : Nat) (hx : a.eval x = .slice (some ⟨g0, 0, none⟩) 1 1) (at1 : Int) (v : Value) (b : List UInt8) (hb : Bs w v b) (hv : 0 < b.length → ∀ g, v.ownBlock = some g → T g ∨ (w0 ≤ g ∧ g < w.heap.size ∧ lv.ownBlock ≠ some g))
 (hg : Blk w g0 #[.int .i64 at1, v] 150) (hl : l.length ≤ 1073741824)
 (h : ∀ v' w', PRow T w0 w' v' (l ++ [(at1, b)]) → w.grownBy w' lv.ownBlock → (∀ g, lv.ownBlock = some g → w0 ≤ g) → wpList Tryz.prog ops Q rest (a.put o.dst v') w') :
 wpList Tryz.prog ops Q (o :: rest) a w := by
 obtain ⟨i0, hi, hz0, hz1, hz2⟩ := info_parts Tryz.infoPu
 obtain ⟨vs, h1, h2, h3⟩ := hown
 have hv1 : v.oneCell' = true := by
  obtain ⟨ao, c, rfl, -⟩ := hb
  rfl
 refine wpList_append_lies w hgd s x _ ho w0 150 i0 _ 2 32 Tryz.underlying101 hi hz0 hz1 hz2 rfl (by decide) lv l.length (pcells l vs) hs h2 ⟨g0, 0, none⟩ 1 1 [.int .i64 at1, v] hx rfl ?_ ?_ (by decide) (by simp [maxLen]; omega) (by omega) hw0 _ rfl ?_
 ·intro j u hj
  rw [show (⟨g0, 0, none⟩ : Addr).add j = ⟨g0, j, none⟩ from by unfold Addr.add; split <;> simp_all, hg.cell]
  simpa using hj
 ·intro u hu
  simp at hu
  rcases hu with rfl | rfl
  ·rfl
  ·exact hv1
 ·intro g cap w' k1 k2 k3 _
  exact h _ w' (PRow.appended h1 h3 hT (fun q hq => (h2.lt q hq).1) at1 b v hb hv g cap k1 k2 (by rcases k3 with k3 | k3; exact .inl k3; exact .inr (by omega))) k2 (fun q hq => (h2.lt q hq).1)
/-- Each sector has 512 bytes. -/
def Full (A : Ab) : Prop := ∀ i : Int, A.fault i = 0 → (A.read i).length = 512
theorem Full.of {s : Dsk} (h : ∀ x ∈ s.now, x.size ≤ 512) : Full (abs s) := by
 intro i hi
 unfold Ab.read
 rw [if_pos hi]
 have hr : 0 ≤ i ∧ i < s.now.length := by
  unfold Ab.fault at hi
  rw [abs_len] at hi
  split at hi
  ·simp at hi
  ·split at hi
   ·assumption
   ·simp at hi
 have hlt : i.toNat < (s.now.map pad).length := by rw [List.length_map]; omega
 show ((s.now.map pad).getD i.toNat []).length = 512
 rw [List.getD_eq_getElem?_getD, List.getElem?_eq_getElem hlt]
 show ((s.now.map pad)[i.toNat]).length = 512
 rw [List.getElem_map]
 exact pad_length _ (h _ (List.getElem_mem _))
end
section
end
section
theorem pagesOf_none {K : List (List UInt8)} {i : Nat} (h : pagesOf K i = none) : ∀ m, i ≤ m → pagesOf K m = none := by
 intro m hm
 induction m with
 | zero => obtain rfl : i = 0 := by omega
           exact h
 | succ m ih =>
  by_cases e : i = m + 1
  ·subst e; exact h
  ·unfold pagesOf
   rw [ih (by omega)]
theorem pagesOf_length {K : List (List UInt8)} : ∀ (i : Nat) (l : Pages), pagesOf K i = some l → l.length = i ∧ ∀ p ∈ l, 401 ≤ p.1 ∧ p.1 < K.length
 | 0, l, h => by simp [pagesOf] at h; subst h; simp
 | i + 1, l, h => by
  unfold pagesOf at h
  split at h
  ·simp at h
  ·rename_i l' h'
   have ih := pagesOf_length i l' h'
   split at h
   ·rename_i hc
    simp only [Option.some.injEq] at h
    subst h
    refine ⟨by simp [ih.1], fun p hp => ?_⟩
    rcases List.mem_append.1 hp with hp | hp
    ·exact ih.2 p hp
    ·simp at hp; subst hp; exact hc
   ·simp at h
def recOf (A : Ab) (n : Int) : Option Pages → Int × Int × Ab
 | none => (0, 9, A)
 | some l => if (A.run (homesOps l)).1 = 0 then (n, 0, (A.run (homesOps l)).2) else (0, (A.run (homesOps l)).1, (A.run (homesOps l)).2)
end
section
theorem zeros_add (a b : Nat) : zeros a ++ zeros b = zeros (a + b) := by simp [zeros]
theorem sec_page (b : List UInt8) (h : b.length ≤ 504) : sec (page b) = sec b := by
 unfold sec
 rw [page_length b h, page, List.append_assoc, zeros_add]
 congr 2
 omega
/-- The first closure of settle: a home. -/
theorem homeClo_any (lv : Value) (l : Pages) (S : Nat → Prop) (tb i : Nat) (hi : i < l.length) (w : World) (hp : Pus w S lv l) (hc : w.cell? ⟨tb, 0, none⟩ = some lv) :
 Calls Tryz.prog 104 #[.int .i64 i, .pointer (some ⟨tb, 0, none⟩)] w fun e w' => ∃ v, e = .returned (.tuple #[.int .i64 l[i].1, v]) ∧ Bs w' v l[i].2 ∧ Below w.heap.size w w' := by
 obtain ⟨ao, cap, rfl, hc1, hc2, hE⟩ := hp
 have hc2' : cap ≤ 9223372036854775807 := hc2
 obtain ⟨b, off, rfl, hSb, c0, u, c1, hbs, -⟩ := hE i hi
 have HBS := Lib.hid hbs
 obtain ⟨bo, bc, rfl, -⟩ := hbs
 obtain ⟨n, hn⟩ : ∃ n, n = l.length := ⟨_, rfl⟩
 obtain ⟨at1, hat⟩ : ∃ m : Int, m = l[i].1 := ⟨_, rfl⟩
 obtain ⟨bs, hbb⟩ : ∃ m, m = l[i].2 := ⟨_, rfl⟩
 obtain ⟨m1, hm1⟩ : ∃ m, m = bs.length := ⟨_, rfl⟩
 rw [← hat] at c0 ⊢
 rw [← hbb] at c1 HBS ⊢
 rw [← hm1] at c1 HBS
 rw [← hn] at hc hc1 hi
 clear hE hn hat hbb hm1 hSb hc2
 go_enter Tryz.func104, Tryz.ntmps104
 go_wp2_with fail
 go_quiet (fail)
 go_wp2_with fail
 go_ret2
 exact ⟨_, rfl, HBS.out, draws (Below.refl _ _) _⟩
/-- The second: the head, made noughts. -/
theorem noHeadClo_any (w : World) (i : Int) :
 Calls Tryz.prog 105 #[.int .i64 i] w fun e w' => ∃ v, e = .returned (.tuple #[.int .i64 0, v]) ∧ Bs w' v [] ∧ Below w.heap.size w w' := by
 go_enter Tryz.func105, Tryz.ntmps105
 go_wp2_with fail
 go_ret2
 exact ⟨_, rfl, Bs.nil _, Below.refl _ _⟩
end
section
/-- The frame of synced at its label. -/
def SyncedOut (e : Int) (a' : Act) : Prop := ∃ u0 u1 u2 u3 u4 u5 u6 u8 u9 u10 u11 u12 u13 u14 u15 u16 u17 u18 u19 u20 u21 u22 u23 u24 u25 u26 u27 u28 u29 u30 : Value, a' = { tmps := #[u0, u1, u2, u3, u4, u5, u6, .int .i64 e, u8, u9, u10, u11, u12, u13, u14, u15, u16, u17, u18, u19, u20, u21, u22, u23, u24, u25, u26, u27, u28, u29, u30], defers := [] }
theorem write_alike {A : Ab} {i : Int} {b b' : List UInt8} (h : sec b = sec b') (h1 : b.length ≤ 512) (h2 : b'.length ≤ 512) : A.write i b = A.write i b' ∧ A.writeErr i b = A.writeErr i b' := by
 unfold Ab.write Ab.writeErr
 rw [h]
 have e1 : (512 < b.length) = False := by simp; omega
 have e2 : (512 < b'.length) = False := by simp; omega
 have e3 : (b.length ≤ 512) = True := by simp [h1]
 have e4 : (b'.length ≤ 512) = True := by simp [h2]
 simp only [e1, e2, e3, e4]
 exact ⟨trivial, trivial⟩
set_option maxHeartbeats 1000000 in
theorem synced_body (cp : Value) (w : World) (P : Nat → Prop) (r : Nat) (A : Ab) (h : DkA w P r A) (ws : List (Nat × List UInt8)) (m : Int) (hm : m = ws.length) (hln : ws.length ≤ 400) (hs : Small A 1000000) (hw : ∀ p ∈ ws, p.2.length ≤ 512)
 (hf : ∀ i (hi : i < ws.length) w', Moved P w w' → Calls Tryz.prog 83 #[.int .i64 i, cp] w' fun e w'' => ∃ v b, e = .returned (.tuple #[.int .i64 (ws[i].1 : Nat), v]) ∧ Bs w'' v b ∧ b.length ≤ 512 ∧ sec b = sec ws[i].2 ∧ Below w'.heap.size w' w'') :
 Calls Tryz.prog 82 #[.pointer (some ⟨r, 0, none⟩), .int .i64 m, .func (.func 83) #[] #[cp]] w fun e w' => e = .returned (.int .i64 (A.run (ph ws)).1) ∧ DkTo w P w' r (A.run (ph ws)).2 := by
 subst hm
 obtain ⟨n, hn⟩ : ∃ n, n = ws.length := ⟨_, rfl⟩
 have HN := Lib.hid hn
 have H0 : Hid (DkTo w P w r A) := DkTo.refl h
 have HS := Lib.hid hs
 have HW := Lib.hid hw
 have HF := Lib.hid hf
 have HPH := Lib.hid (show ph ws = Wops ws ++ [Dop.S] from rfl)
 rw [← hn] at hln ⊢
 clear hn h hs hw hf
 go_enter Tryz.func82, Tryz.ntmps82
 go_wp2_with fail
 refine wp_scope_jumps 0 (fun a' w' => SyncedOut (A.run (ph ws)).1 a' ∧ DkTo w P w' r (A.run (ph ws)).2) (fun _ _ => 0) rfl ?_ ?_
 ·go_wp2_with fail
  go_loopw [7, 8, 9, 10, 12] (fun e _ _ _ i wr => ∃ k : Nat, k ≤ n ∧ i = .int .i64 k ∧ e = .int .i64 0 ∧ ∃ Ak, A.run (Wops (ws.take k)) = (0, Ak) ∧ DkTo w P wr r Ak ∧ Small Ak (1000000 + k)) (fun _ _ _ _ i _ => n - (intOf i).toNat)
  case atStart => exact ⟨0, Nat.zero_le _, rfl, rfl, A, rfl, H0.out, HS.out⟩
  case round =>
   obtain ⟨k, hk, rfl, rfl, Ak, hrun, hR, hsm⟩ := hrel
   have HRun := Lib.hid hrun
   have HA := Lib.hid hR
   have HSM := Lib.hid hsm
   clear hrun hR hsm
   by_cases hlt : k < n
   ·have hkl : k < ws.length := by rw [← HN.out]; exact hlt
    obtain ⟨Pk, -, hM, -⟩ := id HA.out
    have hcl := HF.out k hkl _ hM
    have hl := HW.out _ (List.getElem_mem hkl)
    have ok := run_take_ok hkl HRun.out
    have bad := fun he => run_take_bad hkl HRun.out he [Dop.S]
    rw [← HPH.out] at bad
    obtain ⟨at1, hat⟩ : ∃ m : Nat, m = ws[k].1 := ⟨_, rfl⟩
    obtain ⟨bs, hbb⟩ : ∃ m, m = ws[k].2 := ⟨_, rfl⟩
    rw [← hbb] at hcl hl
    rw [← hat] at hcl
    rw [← hat, ← hbb] at ok bad
    have HCL := Lib.hid hcl
    have OK := Lib.hid ok
    have BAD := Lib.hid bad
    have HL := Lib.hid hl
    clear ok bad hcl hl hat hbb hM
    go_wp2_with fail
    refine HCL.out.mono ?_
    rintro e w2 ⟨v, b, rfl, hb, hbl, hsec, hbw⟩
    have HA2 := Lib.hid (HA.out.grow hbw)
    have HB := Lib.hid hb
    obtain ⟨al1, al2⟩ := write_alike (A := Ak) (i := (at1 : Int)) hsec hbl HL.out
    have hwr := to_write (at1 : Int) v b HA2.out hb (HSM.out.mono (by omega))
    rw [al1, al2] at hwr
    obtain ⟨er, her⟩ : ∃ er, er = Ak.writeErr at1 bs := ⟨_, rfl⟩
    rw [← her] at hwr
    have HWR := Lib.hid hwr
    have HER := Lib.hid her
    clear hb hbl hsec hbw al1 al2 hwr her HCL
    go_wp2_with fail
    refine HWR.out.mono ?_
    rintro e w3 ⟨rfl, hw3⟩
    have HW3 := Lib.hid hw3
    clear hw3 HWR
    cases he : er == 0
    ·have hne : (er != 0) = true := by rw [bne, he]; rfl
     go_wp2_with fail
     have hb := BAD.out (by rw [← HER.out]; simpa using he)
     rw [← HER.out] at hb
     have HBB := Lib.hid hb
     clear hb
     go_step3
     refine ⟨rfl, ?_, ?_⟩
     ·rw [HBB.out]; exact ⟨_, _, _, _, _, _, _, _, _, _, _, _, _, _, _, _, _, _, _, _, _, _, _, _, _, _, _, _, _, _, rfl⟩
     ·rw [HBB.out]; exact HW3.out
    ·have hne : (er != 0) = false := by rw [bne, he]; rfl
     obtain rfl : er = 0 := by simpa using he
     go_wp2_with fail
     go_roundw
     case rel => exact ⟨k + 1, by omega, by go_num, rfl, _, OK.out HER.out.symm, HW3.out, HSM.out.write _ _⟩
     case measure => simp [intOf]; omega
   ·obtain rfl : k = n := by omega
    have hrest := run_take_all (by rw [HN.out]; exact Nat.le_refl _) HRun.out [Dop.S]
    rw [← HPH.out] at hrest
    have hsy := to_sync HA.out (HSM.out.mono (by omega))
    obtain ⟨er, her⟩ : ∃ er, er = Ak.syncErr := ⟨_, rfl⟩
    rw [← her] at hsy
    have HSY := Lib.hid hsy
    have hfin : A.run (ph ws) = (er, Ak.sync) := by
     rw [hrest, her]
     show (if Ak.syncErr = 0 then _ else _) = _
     split
     ·rename_i h; rw [h]; rfl
     ·rfl
    have HFIN := Lib.hid hfin
    clear hrest hsy her hfin
    go_wp2_with fail
    refine HSY.out.mono ?_
    rintro e w3 ⟨rfl, hw3⟩
    go_wp2_with fail
    go_step3
    go_wp2
    simp only [Exit.jump]
    go_ret
    rw [HFIN.out]
    exact ⟨rfl, hw3⟩
 ·rintro a' w' ⟨⟨u0, u1, u2, u3, u4, u5, u6, u8, u9, u10, u11, u12, u13, u14, u15, u16, u17, u18, u19, u20, u21, u22, u23, u24, u25, u26, u27, u28, u29, u30, rfl⟩, hw3⟩
  go_wp2
  simp only [Exit.jump]
  go_ret
  exact ⟨rfl, hw3⟩
set_option maxHeartbeats 1000000 in
theorem synced_home (cp : Value) (w : World) (P : Nat → Prop) (r : Nat) (A : Ab) (h : DkA w P r A) (ws : List (Nat × List UInt8)) (m : Int) (hm : m = ws.length) (hln : ws.length ≤ 400) (hs : Small A 1000000) (hw : ∀ p ∈ ws, p.2.length ≤ 512)
 (hf : ∀ i (hi : i < ws.length) w', Moved P w w' → Calls Tryz.prog 104 #[.int .i64 i, cp] w' fun e w'' => ∃ v b, e = .returned (.tuple #[.int .i64 (ws[i].1 : Nat), v]) ∧ Bs w'' v b ∧ b.length ≤ 512 ∧ sec b = sec ws[i].2 ∧ Below w'.heap.size w' w'') :
 Calls Tryz.prog 82 #[.pointer (some ⟨r, 0, none⟩), .int .i64 m, .func (.func 104) #[] #[cp]] w fun e w' => e = .returned (.int .i64 (A.run (ph ws)).1) ∧ DkTo w P w' r (A.run (ph ws)).2 := by
 subst hm
 obtain ⟨n, hn⟩ : ∃ n, n = ws.length := ⟨_, rfl⟩
 have HN := Lib.hid hn
 have H0 : Hid (DkTo w P w r A) := DkTo.refl h
 have HS := Lib.hid hs
 have HW := Lib.hid hw
 have HF := Lib.hid hf
 have HPH := Lib.hid (show ph ws = Wops ws ++ [Dop.S] from rfl)
 rw [← hn] at hln ⊢
 clear hn h hs hw hf
 go_enter Tryz.func82, Tryz.ntmps82
 go_wp2_with fail
 refine wp_scope_jumps 0 (fun a' w' => SyncedOut (A.run (ph ws)).1 a' ∧ DkTo w P w' r (A.run (ph ws)).2) (fun _ _ => 0) rfl ?_ ?_
 ·go_wp2_with fail
  go_loopw [7, 8, 9, 10, 12] (fun e _ _ _ i wr => ∃ k : Nat, k ≤ n ∧ i = .int .i64 k ∧ e = .int .i64 0 ∧ ∃ Ak, A.run (Wops (ws.take k)) = (0, Ak) ∧ DkTo w P wr r Ak ∧ Small Ak (1000000 + k)) (fun _ _ _ _ i _ => n - (intOf i).toNat)
  case atStart => exact ⟨0, Nat.zero_le _, rfl, rfl, A, rfl, H0.out, HS.out⟩
  case round =>
   obtain ⟨k, hk, rfl, rfl, Ak, hrun, hR, hsm⟩ := hrel
   have HRun := Lib.hid hrun
   have HA := Lib.hid hR
   have HSM := Lib.hid hsm
   clear hrun hR hsm
   by_cases hlt : k < n
   ·have hkl : k < ws.length := by rw [← HN.out]; exact hlt
    obtain ⟨Pk, -, hM, -⟩ := id HA.out
    have hcl := HF.out k hkl _ hM
    have hl := HW.out _ (List.getElem_mem hkl)
    have ok := run_take_ok hkl HRun.out
    have bad := fun he => run_take_bad hkl HRun.out he [Dop.S]
    rw [← HPH.out] at bad
    obtain ⟨at1, hat⟩ : ∃ m : Nat, m = ws[k].1 := ⟨_, rfl⟩
    obtain ⟨bs, hbb⟩ : ∃ m, m = ws[k].2 := ⟨_, rfl⟩
    rw [← hbb] at hcl hl
    rw [← hat] at hcl
    rw [← hat, ← hbb] at ok bad
    have HCL := Lib.hid hcl
    have OK := Lib.hid ok
    have BAD := Lib.hid bad
    have HL := Lib.hid hl
    clear ok bad hcl hl hat hbb hM
    go_wp2_with fail
    refine HCL.out.mono ?_
    rintro e w2 ⟨v, b, rfl, hb, hbl, hsec, hbw⟩
    have HA2 := Lib.hid (HA.out.grow hbw)
    have HB := Lib.hid hb
    obtain ⟨al1, al2⟩ := write_alike (A := Ak) (i := (at1 : Int)) hsec hbl HL.out
    have hwr := to_write (at1 : Int) v b HA2.out hb (HSM.out.mono (by omega))
    rw [al1, al2] at hwr
    obtain ⟨er, her⟩ : ∃ er, er = Ak.writeErr at1 bs := ⟨_, rfl⟩
    rw [← her] at hwr
    have HWR := Lib.hid hwr
    have HER := Lib.hid her
    clear hb hbl hsec hbw al1 al2 hwr her HCL
    go_wp2_with fail
    refine HWR.out.mono ?_
    rintro e w3 ⟨rfl, hw3⟩
    have HW3 := Lib.hid hw3
    clear hw3 HWR
    cases he : er == 0
    ·have hne : (er != 0) = true := by rw [bne, he]; rfl
     go_wp2_with fail
     have hb := BAD.out (by rw [← HER.out]; simpa using he)
     rw [← HER.out] at hb
     have HBB := Lib.hid hb
     clear hb
     go_step3
     refine ⟨rfl, ?_, ?_⟩
     ·rw [HBB.out]; exact ⟨_, _, _, _, _, _, _, _, _, _, _, _, _, _, _, _, _, _, _, _, _, _, _, _, _, _, _, _, _, _, rfl⟩
     ·rw [HBB.out]; exact HW3.out
    ·have hne : (er != 0) = false := by rw [bne, he]; rfl
     obtain rfl : er = 0 := by simpa using he
     go_wp2_with fail
     go_roundw
     case rel => exact ⟨k + 1, by omega, by go_num, rfl, _, OK.out HER.out.symm, HW3.out, HSM.out.write _ _⟩
     case measure => simp [intOf]; omega
   ·obtain rfl : k = n := by omega
    have hrest := run_take_all (by rw [HN.out]; exact Nat.le_refl _) HRun.out [Dop.S]
    rw [← HPH.out] at hrest
    have hsy := to_sync HA.out (HSM.out.mono (by omega))
    obtain ⟨er, her⟩ : ∃ er, er = Ak.syncErr := ⟨_, rfl⟩
    rw [← her] at hsy
    have HSY := Lib.hid hsy
    have hfin : A.run (ph ws) = (er, Ak.sync) := by
     rw [hrest, her]
     show (if Ak.syncErr = 0 then _ else _) = _
     split
     ·rename_i h; rw [h]; rfl
     ·rfl
    have HFIN := Lib.hid hfin
    clear hrest hsy her hfin
    go_wp2_with fail
    refine HSY.out.mono ?_
    rintro e w3 ⟨rfl, hw3⟩
    go_wp2_with fail
    go_step3
    go_wp2
    simp only [Exit.jump]
    go_ret
    rw [HFIN.out]
    exact ⟨rfl, hw3⟩
 ·rintro a' w' ⟨⟨u0, u1, u2, u3, u4, u5, u6, u8, u9, u10, u11, u12, u13, u14, u15, u16, u17, u18, u19, u20, u21, u22, u23, u24, u25, u26, u27, u28, u29, u30, rfl⟩, hw3⟩
  go_wp2
  simp only [Exit.jump]
  go_ret
  exact ⟨rfl, hw3⟩
set_option maxHeartbeats 1000000 in
theorem synced_bare (w : World) (P : Nat → Prop) (r : Nat) (A : Ab) (h : DkA w P r A) (ws : List (Nat × List UInt8)) (m : Int) (hm : m = ws.length) (hln : ws.length ≤ 400) (hs : Small A 1000000) (hw : ∀ p ∈ ws, p.2.length ≤ 512)
 (hf : ∀ i (hi : i < ws.length) w', Moved P w w' → Calls Tryz.prog 105 #[.int .i64 i] w' fun e w'' => ∃ v b, e = .returned (.tuple #[.int .i64 (ws[i].1 : Nat), v]) ∧ Bs w'' v b ∧ b.length ≤ 512 ∧ sec b = sec ws[i].2 ∧ Below w'.heap.size w' w'') :
 Calls Tryz.prog 82 #[.pointer (some ⟨r, 0, none⟩), .int .i64 m, .func (.func 105) #[] #[]] w fun e w' => e = .returned (.int .i64 (A.run (ph ws)).1) ∧ DkTo w P w' r (A.run (ph ws)).2 := by
 subst hm
 obtain ⟨n, hn⟩ : ∃ n, n = ws.length := ⟨_, rfl⟩
 have HN := Lib.hid hn
 have H0 : Hid (DkTo w P w r A) := DkTo.refl h
 have HS := Lib.hid hs
 have HW := Lib.hid hw
 have HF := Lib.hid hf
 have HPH := Lib.hid (show ph ws = Wops ws ++ [Dop.S] from rfl)
 rw [← hn] at hln ⊢
 clear hn h hs hw hf
 go_enter Tryz.func82, Tryz.ntmps82
 go_wp2_with fail
 refine wp_scope_jumps 0 (fun a' w' => SyncedOut (A.run (ph ws)).1 a' ∧ DkTo w P w' r (A.run (ph ws)).2) (fun _ _ => 0) rfl ?_ ?_
 ·go_wp2_with fail
  go_loopw [7, 8, 9, 10, 12] (fun e _ _ _ i wr => ∃ k : Nat, k ≤ n ∧ i = .int .i64 k ∧ e = .int .i64 0 ∧ ∃ Ak, A.run (Wops (ws.take k)) = (0, Ak) ∧ DkTo w P wr r Ak ∧ Small Ak (1000000 + k)) (fun _ _ _ _ i _ => n - (intOf i).toNat)
  case atStart => exact ⟨0, Nat.zero_le _, rfl, rfl, A, rfl, H0.out, HS.out⟩
  case round =>
   obtain ⟨k, hk, rfl, rfl, Ak, hrun, hR, hsm⟩ := hrel
   have HRun := Lib.hid hrun
   have HA := Lib.hid hR
   have HSM := Lib.hid hsm
   clear hrun hR hsm
   by_cases hlt : k < n
   ·have hkl : k < ws.length := by rw [← HN.out]; exact hlt
    obtain ⟨Pk, -, hM, -⟩ := id HA.out
    have hcl := HF.out k hkl _ hM
    have hl := HW.out _ (List.getElem_mem hkl)
    have ok := run_take_ok hkl HRun.out
    have bad := fun he => run_take_bad hkl HRun.out he [Dop.S]
    rw [← HPH.out] at bad
    obtain ⟨at1, hat⟩ : ∃ m : Nat, m = ws[k].1 := ⟨_, rfl⟩
    obtain ⟨bs, hbb⟩ : ∃ m, m = ws[k].2 := ⟨_, rfl⟩
    rw [← hbb] at hcl hl
    rw [← hat] at hcl
    rw [← hat, ← hbb] at ok bad
    have HCL := Lib.hid hcl
    have OK := Lib.hid ok
    have BAD := Lib.hid bad
    have HL := Lib.hid hl
    clear ok bad hcl hl hat hbb hM
    go_wp2_with fail
    refine HCL.out.mono ?_
    rintro e w2 ⟨v, b, rfl, hb, hbl, hsec, hbw⟩
    have HA2 := Lib.hid (HA.out.grow hbw)
    have HB := Lib.hid hb
    obtain ⟨al1, al2⟩ := write_alike (A := Ak) (i := (at1 : Int)) hsec hbl HL.out
    have hwr := to_write (at1 : Int) v b HA2.out hb (HSM.out.mono (by omega))
    rw [al1, al2] at hwr
    obtain ⟨er, her⟩ : ∃ er, er = Ak.writeErr at1 bs := ⟨_, rfl⟩
    rw [← her] at hwr
    have HWR := Lib.hid hwr
    have HER := Lib.hid her
    clear hb hbl hsec hbw al1 al2 hwr her HCL
    go_wp2_with fail
    refine HWR.out.mono ?_
    rintro e w3 ⟨rfl, hw3⟩
    have HW3 := Lib.hid hw3
    clear hw3 HWR
    cases he : er == 0
    ·have hne : (er != 0) = true := by rw [bne, he]; rfl
     go_wp2_with fail
     have hb := BAD.out (by rw [← HER.out]; simpa using he)
     rw [← HER.out] at hb
     have HBB := Lib.hid hb
     clear hb
     go_step3
     refine ⟨rfl, ?_, ?_⟩
     ·rw [HBB.out]; exact ⟨_, _, _, _, _, _, _, _, _, _, _, _, _, _, _, _, _, _, _, _, _, _, _, _, _, _, _, _, _, _, rfl⟩
     ·rw [HBB.out]; exact HW3.out
    ·have hne : (er != 0) = false := by rw [bne, he]; rfl
     obtain rfl : er = 0 := by simpa using he
     go_wp2_with fail
     go_roundw
     case rel => exact ⟨k + 1, by omega, by go_num, rfl, _, OK.out HER.out.symm, HW3.out, HSM.out.write _ _⟩
     case measure => simp [intOf]; omega
   ·obtain rfl : k = n := by omega
    have hrest := run_take_all (by rw [HN.out]; exact Nat.le_refl _) HRun.out [Dop.S]
    rw [← HPH.out] at hrest
    have hsy := to_sync HA.out (HSM.out.mono (by omega))
    obtain ⟨er, her⟩ : ∃ er, er = Ak.syncErr := ⟨_, rfl⟩
    rw [← her] at hsy
    have HSY := Lib.hid hsy
    have hfin : A.run (ph ws) = (er, Ak.sync) := by
     rw [hrest, her]
     show (if Ak.syncErr = 0 then _ else _) = _
     split
     ·rename_i h; rw [h]; rfl
     ·rfl
    have HFIN := Lib.hid hfin
    clear hrest hsy her hfin
    go_wp2_with fail
    refine HSY.out.mono ?_
    rintro e w3 ⟨rfl, hw3⟩
    go_wp2_with fail
    go_step3
    go_wp2
    simp only [Exit.jump]
    go_ret
    rw [HFIN.out]
    exact ⟨rfl, hw3⟩
 ·rintro a' w' ⟨⟨u0, u1, u2, u3, u4, u5, u6, u8, u9, u10, u11, u12, u13, u14, u15, u16, u17, u18, u19, u20, u21, u22, u23, u24, u25, u26, u27, u28, u29, u30, rfl⟩, hw3⟩
  go_wp2
  simp only [Exit.jump]
  go_ret
  exact ⟨rfl, hw3⟩
end
end Go.Proofs.YtbpdapcmaioeiaaGreat
