/- Triples as text: the reader in memory. -/
import Derived.Test.YtefkppeicmipbaaGreatDoorUb
import Derived.Test.YtefkppeicmipbaaGreatDoorLk
import Derived.Test.YtefkppeicmipbaaGreatDoorUc
import Derived.Maps.OwnSet
import Derived.Maps.StringElems
import Derived.Maps.Views
import Derived.Maps.Own
import Derived.StringKeys
import Derived.Lib.LaidTab
import Derived.Lib.ItoaMem
import Derived.Lib.AppendIntMem
namespace Go.Proofs.YtefkppeicmipbaaGreatDoor
open Go.RowKit Go.Shelf Go.Maps
set_option maxRecDepth 100000
set_option linter.unusedVariables false
set_option linter.unusedSimpArgs false
/-- A prefix as an element of a map. -/
def strOf : Value → Option ByteArray
  | .string s => some s
  | _ => none
def pfxR : Value → Option (DataW Unit × List MemPlace)
  | .agg a => if a.size = 1 then (a[0]?.bind strOf).map fun s => (.lit (.string s.data.toList), []) else none
  | _ => none
theorem pfxR_mk (s : ByteArray) : pfxR (.agg #[.string s]) = some (.lit (.string s.data.toList), []) := rfl
theorem pfxR_inv {v : Value} {d : DataW Unit} {ps : List MemPlace} (h : pfxR v = some (d, ps)) : ∃ s, v = .agg #[.string s] ∧ d = .lit (.string s.data.toList) := by
  cases v with
  | agg a =>
    unfold pfxR at h
    dsimp only at h
    by_cases h1 : a.size = 1
    · rw [if_pos h1] at h
      obtain ⟨s, h2, h3⟩ := Option.map_eq_some_iff.1 h
      obtain ⟨x, h4, h5⟩ := Option.bind_eq_some_iff.1 h2
      simp only [Prod.mk.injEq] at h3
      have hx : x = .string s := by
        cases x <;> first | (simp [strOf] at h5; done) | (simp only [strOf, Option.some.injEq] at h5; rw [h5])
      refine ⟨s, ?_, h3.1.symm⟩
      congr 1
      apply Array.ext'
      obtain ⟨l⟩ := a
      match l, h1, h4 with
      | [y], _, h4 =>
        simp at h4
        rw [h4, hx]
    · rw [if_neg h1] at h
      cases h
  | _ => simp [pfxR] at h
theorem owns_fit12 {P : Program} {k : TypeId} {w : World} {b N : Nat} {D : DataW Unit} {R : Value → Option (DataW Unit × List MemPlace)} (h : w.ownsMap P k R b N D) : w.ownsMap P k R b (Maps.size D) D := by
  obtain ⟨es, clock, hb, F, hs, rfl⟩ := h
  refine ⟨es, clock, hb, F, ?_, rfl⟩
  rw [Maps.size_eq, length_read]
  exact Nat.le_refl _
theorem bytes_inj12 {a b : ByteArray} (h : a.data.toList = b.data.toList) : a = b := by
  cases a; cases b
  simpa using h
/-- Block b of w is a map from texts to prefixes that reads as f, with at most n entries. -/
def Sm (P : Program) (k : TypeId) (w : World) (b : Nat) (f : List UInt8 → Option ByteArray) (n : Nat) : Prop :=
  ∃ D : DataW Unit, w.ownsMap P k pfxR b n D ∧ ∀ i : List UInt8, Maps.has D (.string i) = (f i).isSome ∧ ∀ s, f i = some s → ∀ z, D.atKey (.string i) z = .lit (.string s.data.toList)
section
variable {P : Program} {t k e : TypeId} {w : World} {b n : Nat} {f : List UInt8 → Option ByteArray}
theorem Sm.lt (h : Sm P k w b f n) : b < w.heap.size := by
  obtain ⟨D, h1, -⟩ := h
  exact h1.lt
theorem Sm.made (w : World) : Sm P k (w.alloc (.map #[] 0)) w.heap.size (fun _ => none) 0 :=
  ⟨.map [], World.ownsMap_made w P k _, fun i => ⟨rfl, fun s hs => by cases hs⟩⟩
theorem Sm.moved {Q : Nat → Prop} {w' : World} (h : Sm P k w b f n) (hm : Moved Q w w') (hQ : ¬ Q b) : Sm P k w' b f n := by
  obtain ⟨D, ⟨es, clock, hb, F, hs, rfl⟩, h2⟩ := h
  refine ⟨_, ⟨es, clock, ?_, F, hs, rfl⟩, h2⟩
  have hlt : b < w.heap.size := (Array.getElem?_eq_some_iff.1 hb).1
  exact (hm.block b hlt hQ).trans hb
theorem Sm.more (h : Sm P k w b f n) {m : Nat} (hm : n ≤ m) : Sm P k w b f m := by
  obtain ⟨D, ⟨es, clock, hb, F, hs, rfl⟩, h2⟩ := h
  exact ⟨_, ⟨es, clock, hb, F, Nat.le_trans hs hm, rfl⟩, h2⟩
theorem turned_moved12 {w' : World} (h : w.mapTurned w' b) : Moved (· = b) w w' := by
  have g := h.grown
  exact ⟨g.os, g.tape, g.output, g.size, fun j hj hn => g.block j hj (fun e => hn (by simpa using e))⟩
/-- 'x, is := m[i]'. -/
theorem Sm.look (h : Sm P k w b f n) (hk : P.underlying k = some .string) (ht : P.underlying t = some (.map k e)) (hz : (zeroValue e).run P w = .ok (.agg #[.string ⟨#[]⟩]) w) (i : ByteArray) (hi : i.size ≤ maxLen) :
    (Instr.lookup t (.map (some b)) (.string i) true).run P w = .ok (.tuple #[.agg #[.string ((f i.data.toList).getD ⟨#[]⟩)], .bool (f i.data.toList).isSome]) w := by
  obtain ⟨D, h1, h2⟩ := h
  obtain ⟨q1, q2⟩ := h2 i.data.toList
  obtain ⟨v, ps, hr, hv⟩ := h1.look_ok (string_keyed hk) ht hz (pfxR_mk _) (WideMaps.keyOf_string_mk hk hi)
  obtain ⟨s, rfl, hs⟩ := pfxR_inv hv
  rw [hr, q1]
  have e1 : s = (f i.data.toList).getD ⟨#[]⟩ := by
    cases hf : f i.data.toList with
    | none =>
      rw [hf] at q1
      rw [Maps.atKey_of_not_has (by simpa using q1)] at hs
      simp only [DataW.lit.injEq, Lit.string.injEq] at hs
      exact (bytes_inj12 hs).symm
    | some x =>
      rw [q2 x hf] at hs
      simp only [DataW.lit.injEq, Lit.string.injEq] at hs
      exact (bytes_inj12 hs).symm
  rw [e1]
theorem slit_ne {i j : List UInt8} (h : j ≠ i) : (Lit.string j) ≠ (Lit.string i) := by
  intro e
  cases e
  exact h rfl
/-- 'm[i] = s'. -/
theorem Sm.store (h : Sm P k w b f n) (hk : P.underlying k = some .string) (ht : P.underlying t = some (.map k e)) (i : ByteArray) (hi : i.size ≤ maxLen) (s : ByteArray) (hn : n < maxLen) :
    ∃ w', (Instr.mapUpdate t (.map (some b)) (.string i) (.agg #[.string s])).run P w = .ok () w' ∧ Sm P k w' b (fun j => if i.data.toList = j then some s else f j) (n + 1) ∧ w.mapTurned w' b := by
  obtain ⟨D, h1, h2⟩ := h
  have hkl : WideAt.IsKeyLit (Lit.string i.data.toList) := by trivial
  obtain ⟨w', r1, r2, r3⟩ := h1.store (string_keyed hk) ht hn (WideMaps.keyOf_string_mk hk hi) (pfxR_mk s)
  refine ⟨w', r1, ⟨D.put (.string i.data.toList) (.lit (.string s.data.toList)), r2, fun j => ?_⟩, r3⟩
  by_cases hji : j = i.data.toList
  · subst hji
    simp only [if_true]
    refine ⟨Maps.has_put_same h1.isMap hkl _, fun x hx z => ?_⟩
    cases hx
    exact Maps.atKey_put_same h1.isMap hkl _ z
  · simp only [if_neg (Ne.symm hji)]
    refine ⟨(Maps.has_put_other (slit_ne hji) _).trans (h2 j).1, fun x hx z => ?_⟩
    exact (Maps.atKey_put_other (slit_ne hji) _ z).trans ((h2 j).2 x hx z)
end
/-- Where a document's parts lie, and its label. -/
structure Pl where
  r : Nat
  nb : Nat
  lb : Nat
  pm : Nat
  tk : Nat
  B : Nat
  lab : ByteArray
def freshV (P : Pl) : Value := .func (.func 15) #[] #[.pointer (some ⟨P.nb, 0, none⟩), .pointer (some ⟨P.lb, 0, none⟩)]
def tokV (t : Tok) : Value := .agg #[.int .i64 t.1, .string ⟨t.2.toArray⟩]
/-- A slice of tokens that is only read. -/
def TkAt (w : World) (b : Nat) (v : Value) (l : List Tok) : Prop :=
  ∃ ao cap, v = .slice ao l.length cap ∧ l.length ≤ cap ∧ cap ≤ maxLen ∧ (l = [] ∨ ∃ o, ao = some ⟨b, o, none⟩ ∧ ∀ k (hk : k < l.length), w.cell? ⟨b, o + 2 * k, none⟩ = some (.int .i64 (l[k]'hk).1) ∧ w.cell? ⟨b, o + 2 * k + 1, none⟩ = some (.string ⟨(l[k]'hk).2.toArray⟩))
theorem TkAt.moved {P : Nat → Prop} {w w' : World} {b : Nat} {v : Value} {l : List Tok} (h : TkAt w b v l) (hm : Moved P w w') (hP : ¬ P b) : TkAt w' b v l := by
  obtain ⟨ao, cap, rfl, h1, h2, h3⟩ := h
  refine ⟨ao, cap, rfl, h1, h2, h3.imp id fun ⟨o, e, h4⟩ => ⟨o, e, fun k hk => ?_⟩⟩
  obtain ⟨c1, c2⟩ := h4 k hk
  have hlt : b < w.heap.size := World.block_lt_of_cell? w _ c1
  have hb := hm.block b hlt hP
  exact ⟨by rw [← c1]; unfold World.cell?; rw [hb], by rw [← c2]; unfold World.cell?; rw [hb]⟩
theorem TkAt.nil (w : World) (b : Nat) : TkAt w b (.slice none 0 0) [] := ⟨none, 0, rfl, Nat.le_refl _, by decide, .inl rfl⟩
/-- The table that strconv.Itoa reads. -/
def TabP (w : World) : Prop := Lib.TabIs Tryz.prog w "internal/strconv.uint64pow10" .u64 Lib.pow10Tab
theorem gTabP : Tryz.prog.globalNamed "internal/strconv.uint64pow10" = some 4 := by kernel_rfl
theorem TabP.lt {w : World} (h : TabP w) : 4 < w.heap.size := by
  unfold TabP Lib.TabIs World.var? at h
  rw [gTabP] at h
  simp only [Option.bind_some] at h
  rcases Nat.lt_or_ge 4 w.heap.size with h' | h'
  · exact h'
  · rw [Array.getElem?_eq_none h'] at h; cases h
theorem TabP.moved {P : Nat → Prop} {w w' : World} (h : TabP w) (hm : Moved P w w') (hP : ¬ P 4) : TabP w' := by
  have hl := h.lt
  have hb := hm.block _ hl hP
  unfold TabP Lib.TabIs World.var? at h ⊢
  rw [gTabP] at h ⊢
  simp only [Option.bind_some] at h ⊢
  rw [hb]
  exact h
/-- The reader in its block, with all that it leads to; tv: its triples. -/
structure RdT (w : World) (P : Pl) (tv : Value) (s : St) : Prop where
  cells : ∃ rv, TkAt w P.tk rv s.rest ∧ Blk w P.r #[rv, .string s.base, .map (some P.pm), freshV P, .int .i64 s.deep, tv, .int .i64 s.e] 44
  n : Blk w P.nb #[.int .i64 s.n] 3
  lb : Blk w P.lb #[.string P.lab] 9
  pm : Sm Tryz.prog 9 w P.pm (fun k => lookP k s.pre) s.pre.length
  told : OwR w P.B tv s.told
  inv : Inv s
  lts : P.r < P.B ∧ P.nb < P.B ∧ P.lb < P.B ∧ P.pm < P.B ∧ P.tk < P.B
  B : P.B ≤ w.heap.size
  ne : P.r ≠ P.nb ∧ P.r ≠ P.lb ∧ P.r ≠ P.pm ∧ P.r ≠ P.tk ∧ P.nb ≠ P.lb ∧ P.nb ≠ P.pm ∧ P.nb ≠ P.tk ∧ P.lb ≠ P.pm ∧ P.tk ≠ P.pm
  lab : P.lab.size ≤ 1000
  tab : TabP w
  low : 5 ≤ P.r ∧ 5 ≤ P.nb ∧ 5 ≤ P.pm
/-- What the reader's calls may write. -/
def Wr (P : Pl) (tv : Value) : Nat → Prop := fun b => b = P.r ∨ b = P.nb ∨ b = P.pm ∨ tv.ownBlock = some b
/-- From w on the reader came to s in w'. -/
structure Go12 (P : Pl) (w : World) (tv : Value) (w' : World) (tv' : Value) (s' : St) : Prop where
  rd : RdT w' P tv' s'
  mv : Moved (Wr P tv) w w'
  own : ∀ q, tv'.ownBlock = some q → tv.ownBlock = some q ∨ w.heap.size ≤ q
theorem Go12.refl {P : Pl} {w : World} {tv : Value} {s : St} (h : RdT w P tv s) : Go12 P w tv w tv s := ⟨h, Moved.refl _ _, fun _ h => .inl h⟩
theorem Go12.trans {P : Pl} {w w1 w2 : World} {tv tv1 tv2 : Value} {s1 s2 : St} (h : Go12 P w tv w1 tv1 s1) (k : Go12 P w1 tv1 w2 tv2 s2) : Go12 P w tv w2 tv2 s2 :=
  ⟨k.rd, h.mv.trans k.mv (fun j hj => by
    rcases hj with h1 | h1 | h1 | h1
    · exact .inl (.inl h1)
    · exact .inl (.inr (.inl h1))
    · exact .inl (.inr (.inr (.inl h1)))
    · rcases h.own j h1 with h2 | h2
      · exact .inl (.inr (.inr (.inr h2)))
      · exact .inr h2), fun q hq => by
    rcases k.own q hq with h1 | h1
    · exact h.own q h1
    · exact .inr (Nat.le_trans h.mv.size h1)⟩
theorem RdT.below {w w' : World} {P : Pl} {tv : Value} {s : St} (h : RdT w P tv s) (hb : Below w.heap.size w w') : RdT w' P tv s := by
  have m := Moved.of_below hb (fun _ => False)
  obtain ⟨rv, h1, h2⟩ := h.cells
  exact ⟨⟨rv, h1.moved m id, h2.moved m id⟩, h.n.moved m id, h.lb.moved m id, h.pm.moved m id, h.told.below hb, h.inv, h.lts, Nat.le_trans h.B hb.size, h.ne, h.lab, h.tab.moved m id, h.low⟩
theorem Go12.below {P : Pl} {w w1 w2 : World} {tv tv1 : Value} {s1 : St} (h : Go12 P w tv w1 tv1 s1) (hb : Below w1.heap.size w1 w2) : Go12 P w tv w2 tv1 s1 :=
  h.trans ⟨h.rd.below hb, Moved.of_below hb _, fun _ h => .inl h⟩
theorem Go12.alloc {P : Pl} {w w1 : World} {tv tv1 : Value} {s1 : St} (h : Go12 P w tv w1 tv1 s1) (o : Obj) : Go12 P w tv (w1.alloc o) tv1 s1 := h.below ((Below.refl _ _).alloc (Nat.le_refl _) o)
theorem below_draws (w : World) (n : Nat) : Below w.heap.size w (w.drewN n) := ⟨rfl, rfl, rfl, Nat.le_refl _, fun _ _ => rfl⟩
theorem Go12.draws {P : Pl} {w w1 : World} {tv tv1 : Value} {s1 : St} (h : Go12 P w tv w1 tv1 s1) (n : Nat) : Go12 P w tv (w1.drewN n) tv1 s1 := h.below (below_draws _ _)
theorem RdT.rlt {w : World} {P : Pl} {tv : Value} {s : St} (h : RdT w P tv s) : P.r < w.heap.size := Nat.lt_of_lt_of_le h.lts.1 h.B
/-- Its cells. -/
theorem RdT.open {w : World} {P : Pl} {tv : Value} {s : St} (h : RdT w P tv s) : ∃ rv, TkAt w P.tk rv s.rest ∧ w.cell? ⟨P.r, 0, none⟩ = some rv ∧ w.cell? ⟨P.r, 1, none⟩ = some (.string s.base) ∧ w.cell? ⟨P.r, 2, none⟩ = some (.map (some P.pm)) ∧ w.cell? ⟨P.r, 3, none⟩ = some (freshV P) ∧ w.cell? ⟨P.r, 4, none⟩ = some (.int .i64 s.deep) ∧ w.cell? ⟨P.r, 5, none⟩ = some tv ∧ w.cell? ⟨P.r, 6, none⟩ = some (.int .i64 s.e) := by
  obtain ⟨rv, h1, h2⟩ := h.cells
  exact ⟨rv, h1, h2.cell 0, h2.cell 1, h2.cell 2, h2.cell 3, h2.cell 4, h2.cell 5, h2.cell 6⟩
theorem RdT.frozen {w : World} {P : Pl} {tv : Value} {s : St} (h : RdT w P tv s) (j : Nat) : w.frozen? ⟨P.r, j, none⟩ = false := by
  obtain ⟨rv, h1, h2⟩ := h.cells
  exact h2.frozen j
/-- All seven cells, turned: the reader of another state that has the same prefixes and blanks. -/
theorem Go12.turn {P : Pl} {w w1 w2 : World} {tv tv1 tv2 : Value} {s1 s2 : St} (h : Go12 P w tv w1 tv1 s1) (m : Moved (· = P.r) w1 w2) (rv : Value) (hr : TkAt w1 P.tk rv s2.rest)
    (hb : Blk w2 P.r #[rv, .string s2.base, .map (some P.pm), freshV P, .int .i64 s2.deep, tv2, .int .i64 s2.e] 44) (hp : s2.pre = s1.pre) (hn : s2.n = s1.n) (ht : OwR w1 P.B tv2 s2.told) (hi : Inv s2) (ho : ∀ q, tv2.ownBlock = some q → tv1.ownBlock = some q) : Go12 P w tv w2 tv2 s2 := by
  have r := h.rd
  obtain ⟨n1, n2, n3, n4, n5, n6, n7, n8, n9⟩ := r.ne
  have hlow := r.low
  refine h.trans ⟨⟨⟨rv, hr.moved m (fun e => n4 e.symm), hb⟩, ?_, r.lb.moved m (fun e => n2 e.symm), ?_, ht.moved m (fun q hq e => ?_), hi, r.lts, Nat.le_trans r.B m.size, r.ne, r.lab, r.tab.moved m (by omega), r.low⟩, m.mono (fun j hj => .inl hj), fun q hq => .inl (ho q hq)⟩
  · rw [hn]; exact r.n.moved m (fun e => n1 e.symm)
  · rw [hp]; exact r.pm.moved m (fun e => n3 e.symm)
  · have := (ht.lt q hq).1
    have := r.lts.1
    omega
/-- A block of a caller's own, beside the reader. -/
structure Tp (w : World) (P : Pl) (tv : Value) (T : Nat) (cs : Array Value) (t : TypeId) : Prop where
  blk : Blk w T cs t
  ge : P.B ≤ T
  own : tv.ownBlock ≠ some T
theorem Tp.go {w w' : World} {P : Pl} {tv tv' : Value} {s' : St} {T : Nat} {cs : Array Value} {t : TypeId} (h : Tp w P tv T cs t) (g : Go12 P w tv w' tv' s') : Tp w' P tv' T cs t := by
  have l := g.rd.lts
  have hg := h.ge
  refine ⟨h.blk.moved g.mv ?_, h.ge, fun e => ?_⟩
  · rintro (h1 | h1 | h1 | h1)
    · omega
    · omega
    · omega
    · exact h.own h1
  · rcases g.own T e with h1 | h1
    · exact h.own h1
    · have := h.blk.lt; omega
theorem Tp.new {w : World} {P : Pl} {tv : Value} {s : St} (h : RdT w P tv s) (cs : Array Value) (t : TypeId) : Tp (w.alloc (.cells cs t)) P tv w.heap.size cs t :=
  ⟨Blk.new _ _ _, h.B, fun e => by have := (h.told.lt _ e).2; omega⟩
theorem Tp.alloc {w : World} {P : Pl} {tv : Value} {T : Nat} {cs : Array Value} {t : TypeId} (h : Tp w P tv T cs t) (o : Obj) : Tp (w.alloc o) P tv T cs t := ⟨h.blk.alloc o, h.ge, h.own⟩
/-- A store into such a block. -/
theorem Go12.temp {P : Pl} {w w1 : World} {tv tv1 : Value} {s1 : St} {T : Nat} {cs : Array Value} {t : TypeId} (h : Go12 P w tv w1 tv1 s1) (k : Tp w1 P tv1 T cs t) (j : Nat) (u : Value) (hT : w.heap.size ≤ T) : Go12 P w tv (w1.setCell ⟨T, j, none⟩ u) tv1 s1 ∧ Tp (w1.setCell ⟨T, j, none⟩ u) P tv1 T (cs.setIfInBounds j u) t := by
  have m : Moved (· = T) w1 (w1.setCell ⟨T, j, none⟩ u) := (Moved.refl (· = T) w1).setCell _ _ (.inl rfl)
  have r := h.rd
  have l := r.lts
  have hg := k.ge
  have hlow := r.low
  obtain ⟨rv, h1, h2⟩ := r.cells
  refine ⟨⟨⟨⟨rv, h1.moved m (by omega), h2.moved m (by omega)⟩, r.n.moved m (by omega), r.lb.moved m (by omega), r.pm.moved m (by omega), r.told.moved m (fun q hq e => k.own (by rw [← e]; exact hq)), r.inv, r.lts, Nat.le_trans r.B m.size, r.ne, r.lab, r.tab.moved m (by omega), r.low⟩, ?_, h.own⟩, ⟨k.blk.set j u, k.ge, k.own⟩⟩
  exact h.mv.setCell _ _ (.inr hT)
/-- What a call answers, and what it leaves. -/
def To12 (P : Pl) (w : World) (tv : Value) (v : Value) (s' : St) : Ending → World → Prop := fun e w' => e = .returned v ∧ ∃ tv', Go12 P w tv w' tv' s'
def ToV12 (P : Pl) (w : World) (tv : Value) (s' : St) : Ending → World → Prop := fun e w' => (∃ v, e = .returned v) ∧ ∃ tv', Go12 P w tv w' tv' s'
end Go.Proofs.YtefkppeicmipbaaGreatDoor
