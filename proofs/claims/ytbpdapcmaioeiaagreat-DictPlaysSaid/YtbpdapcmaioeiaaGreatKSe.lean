/- Sa; Se -/
import Derived.Test.YtbpdapcmaioeiaaGreatKGm
import Derived.Test.YtbpdapcmaioeiaaGreatKTq
import Derived.Laws.Cover1
import Derived.ScopeJumps
import Derived.OrdersHeld
import Derived.Deep.RegionHeld
namespace Go.Proofs.YtbpdapcmaioeiaaGreat
open Go.RowKit Go.Maps Go.ChangeShapes Go.WideShapes
set_option maxRecDepth 100000
set_option linter.unusedVariables false
instance : Inhabited Tm := ⟨⟨0, ⟨#[]⟩, ⟨#[]⟩, ⟨#[]⟩⟩⟩
def TmAt (w : World) (b o : Nat) (q : Tm) : Prop :=
 w.cell? ⟨b, o, none⟩ = some (.int .i64 q.k) ∧ w.cell? ⟨b, o + 1, none⟩ = some (.string q.s) ∧ w.cell? ⟨b, o + 2, none⟩ = some (.string q.l) ∧ w.cell? ⟨b, o + 3, none⟩ = some (.string q.t) ∧ q.Ok
def Tms (w : World) (v : Value) (l : (List Tm)) : Prop :=
 ∃ ao cap, v = .slice ao l.length cap ∧ l.length ≤ cap ∧ cap ≤ maxLen ∧ ∀ k (hk : k < l.length), ∃ b off, ao = some ⟨b, off, none⟩ ∧ b < w.heap.size ∧ TmAt w b (off + k * 4) l[k]
theorem TmAt.below {w w' : World} {b o : Nat} {q : Tm} (h : TmAt w b o q) (hb : b < w.heap.size) (hm : Below w.heap.size w w') : TmAt w' b o q := by
 have hc : ∀ j, w'.cell? ⟨b, j, none⟩ = w.cell? ⟨b, j, none⟩ := fun j => hm.cell (show (⟨b, j, none⟩ : Addr).block < _ from hb)
 exact ⟨(hc _).trans h.1, (hc _).trans h.2.1, (hc _).trans h.2.2.1, (hc _).trans h.2.2.2.1, h.2.2.2.2⟩
theorem Tms.below {w w' : World} {v : Value} {l : (List Tm)} (h : Tms w v l) (hm : Below w.heap.size w w') : Tms w' v l := by
 obtain ⟨ao, cap, e, h1, h2, hE⟩ := h
 refine ⟨ao, cap, e, h1, h2, fun k hk => ?_⟩
 obtain ⟨b, off, e', hb, hA⟩ := hE k hk
 exact ⟨b, off, e', Nat.lt_of_lt_of_le hb hm.size, hA.below hb hm⟩
theorem term5_fields : ∃ fs : Array Field, Tryz.prog.underlying 59 = some (.struct fs) ∧ fs.toList.map (fun f => (f.type, f.offset)) = [(3, 0), (9, 1), (9, 2), (9, 3)] := ⟨_, Tryz.underlying59, by kernel_rfl⟩
theorem term5_open {H : Type} {enc : TypeId × Value → H} {W : World} {fuel : Nat} {cs : List Value} {y : DataW H × List MemPlace} {b o : Nat} (hlen : cs.length = 4) (hcell : ∀ j, j < 4 → W.cell? ⟨b, o + j, none⟩ = cs[j]?)
 (h : DataW.trod enc Tryz.prog W 0 (fun _ => true) true fuel 59 cs = some y) : ∃ q : Tm, TmAt W b o q := by
 obtain ⟨fs, hfs, hm⟩ := term5_fields
 obtain ⟨xs, k, -, -, -, hxl, hf⟩ := DataW.trod_struct hfs h
 have c3 : Tryz.prog.cellsOf 3 = 1 := by kernel_rfl
 have c9 : Tryz.prog.cellsOf 9 = 1 := by kernel_rfl
 have hfl : fs.size = 4 := by
  have := congrArg List.length hm
  simpa using this
 have hgt : ∀ j (hj : j < 4), ∃ f, fs[j]? = some f ∧ (f.type, f.offset) = ([(3, 0), (9, 1), (9, 2), (9, 3)] : List (TypeId × Nat))[j]'(by simpa using hj) := by
  intro j hj
  have hjs : j < fs.size := by omega
  refine ⟨fs[j], by simp [hjs], ?_⟩
  have : (fs.toList.map (fun f => (f.type, f.offset)))[j]? = some (fs[j].type, fs[j].offset) := by simp [hjs]
  rw [hm, List.getElem?_eq_getElem (by simpa using hj)] at this
  exact (Option.some.inj this).symm
 match cs, hlen with
 | [v0, v1, v2, v3], _ =>
  match xs, (by omega : xs.length = 4) with
  | [y0, y1, y2, y3], _ =>
   obtain ⟨f0, e0, t0⟩ := hgt 0 (by decide)
   obtain ⟨f1, e1, t1⟩ := hgt 1 (by decide)
   obtain ⟨f2, e2, t2⟩ := hgt 2 (by decide)
   obtain ⟨f3, e3, t3⟩ := hgt 3 (by decide)
   have g0 := hf 0 f0 e0
   have g1 := hf 1 f1 e1
   have g2 := hf 2 f2 e2
   have g3 := hf 3 f3 e3
   simp only [List.getElem_cons_zero, List.getElem_cons_succ, Prod.mk.injEq] at t0 t1 t2 t3
   rw [t0.1, t0.2, c3] at g0
   rw [t1.1, t1.2, c9] at g1
   rw [t2.1, t2.2, c9] at g2
   rw [t3.1, t3.2, c9] at g3
   simp only [List.drop_zero, List.drop_succ_cons, List.take_succ_cons, List.take_zero, List.getElem?_cons_zero, List.getElem?_cons_succ] at g0 g1 g2 g3
   obtain ⟨n0, q0, -, w0⟩ := DataW.trod_int Tryz.underlying3 g0
   obtain ⟨s1, q1, -, w1⟩ := DataW.trod_string Tryz.underlying9 g1
   obtain ⟨s2, q2, -, w2⟩ := DataW.trod_string Tryz.underlying9 g2
   obtain ⟨s3, q3, -, w3⟩ := DataW.trod_string Tryz.underlying9 g3
   simp only [List.cons.injEq, and_true] at q0 q1 q2 q3
   refine ⟨⟨n0, s1, s2, s3⟩, ?_, ?_, ?_, ?_, ⟨w0, w1, w2, w3⟩⟩
   ·rw [← q0]; exact hcell 0 (by decide)
   ·rw [← q1]; exact hcell 1 (by decide)
   ·rw [← q2]; exact hcell 2 (by decide)
   ·rw [← q3]; exact hcell 3 (by decide)
theorem terms_open {H : Type} {enc : TypeId × Value → H} {W : World} {fuel : Nat} {ao : Option Addr} {len cap : Nat} {y : DataW H × List MemPlace}
 (h : DataW.trod enc Tryz.prog W 0 (fun _ => true) true fuel 46 [.slice ao len cap] = some y) : ∃ l : (List Tm), l.length = len ∧ Tms W (.slice ao len cap) l := by
 have c5 : Tryz.prog.cellsOf 59 = 4 := by kernel_rfl
 rcases Go.Deep.open_slice Tryz.underlying46 h with ⟨hcs, _⟩ | ⟨a, len', cap', m, n, D, Pl, hcs, -, hl, hm, hmm, -, hx⟩
 ·simp only [List.cons.injEq, and_true, Value.slice.injEq] at hcs
  obtain ⟨rfl, rfl, rfl⟩ := hcs
  exact ⟨[], rfl, none, 0, rfl, Nat.le_refl _, by simp [maxLen], fun k hk => by simp at hk⟩
 ·simp only [List.cons.injEq, and_true, Value.slice.injEq] at hcs
  obtain ⟨rfl, rfl, rfl⟩ := hcs
  simp only [if_true] at hmm
  subst hmm
  obtain ⟨b, off, spot⟩ := a
  have each : ∀ i, i < len → ∃ q : Tm, spot = none ∧ TmAt W b (off + i * 4) q := by
   intro i hi
   have hs : spot = none := by
    obtain ⟨cs', h1, -⟩ := hx 0 (by omega)
    rw [c5] at h1
    obtain ⟨_, hlen, hcell⟩ := World.cells?_some h1
    have h0 := hcell 0 (by decide)
    rw [List.getElem?_eq_getElem (by omega)] at h0
    simpa [Addr.add] using World.cell?_spot h0
   subst hs
   obtain ⟨cs', h1, h2⟩ := hx i (by omega)
   rw [c5] at h1
   obtain ⟨_, hlen, hcell⟩ := World.cells?_some h1
   obtain ⟨q, hq⟩ := term5_open (b := b) (o := off + i * 4) hlen (fun j hj => by
    have := hcell j hj
    rw [add_add, Addr.add_lit, ← Nat.add_assoc] at this
    exact this) h2
   exact ⟨q, rfl, hq⟩
  obtain ⟨f, hf⟩ := Go.Deep.choose_lt each
  refine ⟨(List.range len).map f, by simp, some ⟨b, off, spot⟩, m, by simp, by simpa using hl, hm, fun k hk => ?_⟩
  have hk' : k < len := by simpa using hk
  obtain ⟨rfl, hq⟩ := hf k hk'
  exact ⟨b, off, rfl, World.block_lt_of_cell? _ _ hq.1, by simpa using hq⟩
end Go.Proofs.YtbpdapcmaioeiaaGreat
namespace Go.Proofs.YtbpdapcmaioeiaaGreat
open Go.RowKit Go.Maps
set_option maxRecDepth 100000
set_option linter.unusedVariables false
def Tm.cells (x : Tm) : List Value := [.int .i64 x.k, .string x.s, .string x.l, .string x.t]
def tcells (l : List Tm) : List Value := l.flatMap Tm.cells
theorem tcells_cons (x : Tm) (l : List Tm) : tcells (x :: l) = .int .i64 x.k :: .string x.s :: .string x.l :: .string x.t :: tcells l := rfl
theorem tcells_append (a b : List Tm) : tcells (a ++ b) = tcells a ++ tcells b := by unfold tcells; rw [List.flatMap_append]
theorem tcells_at : ∀ (l : List Tm) (k : Nat) (hk : k < l.length), (tcells l)[k * 4]? = some (.int .i64 l[k].k) ∧ (tcells l)[k * 4 + 1]? = some (.string l[k].s) ∧ (tcells l)[k * 4 + 2]? = some (.string l[k].l) ∧ (tcells l)[k * 4 + 3]? = some (.string l[k].t)
 | e :: t, 0, _ => ⟨rfl, rfl, rfl, rfl⟩
 | e :: t, k + 1, hk => by
  have ih := tcells_at t k (by simpa using hk)
  rw [tcells_cons, show (k + 1) * 4 = k * 4 + 4 by omega, show k * 4 + 4 + 1 = k * 4 + 1 + 4 by omega, show k * 4 + 4 + 2 = k * 4 + 2 + 4 by omega, show k * 4 + 4 + 3 = k * 4 + 3 + 4 by omega]
  simpa using ih
/-- The slice v reads as the terms l. -/
def Tml (w : World) (v : Value) (l : List Tm) : Prop := Rw 4 w v l.length (tcells l)
section
variable {w w' : World} {v : Value} {l : List Tm}
theorem Tml.form (h : Tml w v l) : ∃ ao cap, v = .slice ao l.length cap ∧ l.length ≤ cap ∧ cap ≤ 9223372036854775807 := Rw.form h
theorem Tml.at (h : Tml w v l) (hn : 0 < l.length) : ∃ b off cap, v = .slice (some ⟨b, off, none⟩) l.length cap ∧ l.length ≤ cap ∧ cap ≤ 9223372036854775807 ∧ b < w.heap.size ∧
 ∀ k (hk : k < l.length), w.cell? ⟨b, off + k * 4, none⟩ = some (.int .i64 l[k].k) ∧ w.cell? ⟨b, off + k * 4 + 1, none⟩ = some (.string l[k].s) ∧ w.cell? ⟨b, off + k * 4 + 2, none⟩ = some (.string l[k].l) ∧ w.cell? ⟨b, off + k * 4 + 3, none⟩ = some (.string l[k].t) := by
 obtain ⟨b, off, cap, e, h1, h2, h3, h4⟩ := Rw.at h hn (by decide)
 refine ⟨b, off, cap, e, h1, h2, h3, fun k hk => ?_⟩
 obtain ⟨c0, c1, c2, c3⟩ := tcells_at l k hk
 exact ⟨h4 _ _ c0, by rw [Nat.add_assoc]; exact h4 _ _ c1, by rw [Nat.add_assoc]; exact h4 _ _ c2, by rw [Nat.add_assoc]; exact h4 _ _ c3⟩
theorem Tml.below (h : Tml w v l) (hb : Below w.heap.size w w') : Tml w' v l := Rw.below h hb
end
theorem Tryz.infoTm : (Tryz.prog.info? 59).map (fun i => (i.zero, i.size, i.bytes)) = some (some (.agg #[.int .i64 0, .string ⟨#[]⟩, .string ⟨#[]⟩, .string ⟨#[]⟩]), 4, 56) := by kernel_rfl
def OwT (w : World) (base : Nat) (v : Value) (l : List Tm) : Prop := w.ownsRow base 59 4 v l.length (tcells l)
theorem OwT.out {w : World} {base : Nat} {v : Value} {l : List Tm} (h : OwT w base v l) : w.ownsRow base 59 4 v l.length (tcells l) := h
theorem OwT.tml {w : World} {base : Nat} {v : Value} {l : List Tm} (h : OwT w base v l) : Tml w v l := Rw.of_own h.out
theorem OwT.nil (w : World) (base : Nat) : OwT w base (.slice none 0 0) [] := World.ownsRow_nil _ _ _ _
theorem OwT.lt {w : World} {base : Nat} {v : Value} {l : List Tm} (h : OwT w base v l) : ∀ q, v.ownBlock = some q → base ≤ q ∧ q < w.heap.size := h.out.lt
theorem OwT.moved {P : Nat → Prop} {w w' : World} {base : Nat} {v : Value} {l : List Tm} (h : OwT w base v l) (hm : Moved P w w') (hP : ∀ q, v.ownBlock = some q → ¬ P q) : OwT w' base v l := owns_moved h hm hP
theorem OwT.below {w w' : World} {base : Nat} {v : Value} {l : List Tm} (h : OwT w base v l) (hb : Below w.heap.size w w') : OwT w' base v l := h.moved (Moved.of_below hb (fun _ => False)) (fun _ _ h => h)
theorem OwT.form {w : World} {base : Nat} {v : Value} {l : List Tm} (h : OwT w base v l) : ∃ ao cap, v = .slice ao l.length cap ∧ l.length ≤ cap ∧ cap ≤ 9223372036854775807 := h.tml.form
/-- append(s, x) -/
theorem wpList_append_tm {w : World} {ops : Array Oper} {rest : List Oper} {o : Oper} {a : Act} {Q : Exit → Act → World → Prop} (hgd : o.guard = none) (s x : Operand)
 (ho : o.op = .call { callee := .builtin .append, args := #[s, x], argTypes := #[46, 46] }) (base : Nat) (hbase : base ≤ w.heap.size)
 (v : Value) (l : List Tm) (hs : a.eval s = v) (hown : OwT w base v l) (g0 : Nat) (hx : a.eval x = .slice (some ⟨g0, 0, none⟩) 1 1) (e : Tm) (hg : Box w g0 e) (n : Nat) (hn : n = l.length + 1) (hl : n ≤ 1000000)
 (h : ∀ ao cap w', OwT w' base (.slice ao n cap) (l ++ [e]) → n ≤ cap → cap ≤ 9223372036854775807 → w.grownBy w' v.ownBlock → (∀ q, (Value.slice ao n cap).ownBlock = some q → v.ownBlock = some q ∨ w.heap.size ≤ q) → wpList Tryz.prog ops Q rest (a.put o.dst (.slice ao n cap)) w') :
 wpList Tryz.prog ops Q (o :: rest) a w := by
 obtain ⟨i0, hi, hz0, hz1, hz2⟩ := info_parts Tryz.infoTm
 refine wpList_append_lies w hgd s x _ ho base 59 i0 _ 4 56 Tryz.underlying46 hi hz0 hz1 hz2 rfl (by decide) v l.length (tcells l) hs hown ⟨g0, 0, none⟩ 1 1 (Tm.cells e) hx rfl ?_ ?_ (by decide) (by simp [maxLen]; omega) (by omega) hbase _ rfl ?_
 ·intro j u hj
  rw [show (⟨g0, 0, none⟩ : Addr).add j = ⟨g0, j, none⟩ from by unfold Addr.add; split <;> simp_all]
  obtain ⟨h0, h1, h2, h3⟩ := hg
  match j, hj with
  | 0, hu => rw [← hu]; exact h0
  | 1, hu => rw [← hu]; exact h1
  | 2, hu => rw [← hu]; exact h2
  | 3, hu => rw [← hu]; exact h3
  | j + 4, hu => simp [Tm.cells] at hu
 ·intro u hu
  simp [Tm.cells] at hu
  rcases hu with rfl | rfl | rfl | rfl <;> rfl
 ·intro g cap w' k1 k2 k3 k4
  subst hn
  obtain ⟨aox, capx, ex, hx1, hx2⟩ := owns_form k1
  simp only [Value.slice.injEq] at ex
  obtain ⟨-, -, rfl⟩ := ex
  refine h _ _ w' ?_ hx1 hx2 k2 (fun q hq => ?_)
  ·unfold OwT
   rw [tcells_append, List.length_append]
   simpa [tcells] using k1
  ·have : g = q := Option.some.inj hq
   subst this
   rcases k3 with k3 | k3
   ·exact .inl k3
   ·exact .inr (by omega)
theorem step_append_tm {w : World} {ops : Array Oper} {o : Oper} {a : Act} {K : Act → World → Prop} {Q : Exit → Act → World → Prop} {E : Prop} (hgd : o.guard = none) (s x : Operand)
 (ho : o.op = .call { callee := .builtin .append, args := #[s, x], argTypes := #[46, 46] }) (base : Nat) (hbase : base ≤ w.heap.size)
 (v : Value) (l : List Tm) (hs : a.eval s = v) (hown : OwT w base v l) (g0 : Nat) (hx : a.eval x = .slice (some ⟨g0, 0, none⟩) 1 1) (e : Tm) (hg : Box w g0 e) (n : Nat) (hn : n = l.length + 1) (hl : n ≤ 1000000)
 (h : ∀ ao cap w', OwT w' base (.slice ao n cap) (l ++ [e]) → n ≤ cap → cap ≤ 9223372036854775807 → w.grownBy w' v.ownBlock → (∀ q, (Value.slice ao n cap).ownBlock = some q → v.ownBlock = some q ∨ w.heap.size ≤ q) → K (a.put o.dst (.slice ao n cap)) w') :
 if Region.wanted o (yielded ops a.tmps) = true then Oper.wp Tryz.prog o a w K Q else E := by
 obtain ⟨i0, hi, hz0, hz1, hz2⟩ := info_parts Tryz.infoTm
 refine step_append_lies w hgd s x _ ho base 59 i0 _ 4 56 Tryz.underlying46 hi hz0 hz1 hz2 rfl (by decide) v l.length (tcells l) hs hown ⟨g0, 0, none⟩ 1 1 (Tm.cells e) hx rfl ?_ ?_ (by decide) (by simp [maxLen]; omega) (by omega) hbase _ rfl ?_
 ·intro j u hj
  rw [show (⟨g0, 0, none⟩ : Addr).add j = ⟨g0, j, none⟩ from by unfold Addr.add; split <;> simp_all]
  obtain ⟨h0, h1, h2, h3⟩ := hg
  match j, hj with
  | 0, hu => rw [← hu]; exact h0
  | 1, hu => rw [← hu]; exact h1
  | 2, hu => rw [← hu]; exact h2
  | 3, hu => rw [← hu]; exact h3
  | j + 4, hu => simp [Tm.cells] at hu
 ·intro u hu
  simp [Tm.cells] at hu
  rcases hu with rfl | rfl | rfl | rfl <;> rfl
 ·intro g cap w' k1 k2 k3 k4
  subst hn
  obtain ⟨aox, capx, ex, hx1, hx2⟩ := owns_form k1
  simp only [Value.slice.injEq] at ex
  obtain ⟨-, -, rfl⟩ := ex
  refine h _ _ w' ?_ hx1 hx2 k2 (fun q hq => ?_)
  ·unfold OwT
   rw [tcells_append, List.length_append]
   simpa [tcells] using k1
  ·have : g = q := Option.some.inj hq
   subst this
   rcases k3 with k3 | k3
   ·exact .inl k3
   ·exact .inr (by omega)
end Go.Proofs.YtbpdapcmaioeiaaGreat
