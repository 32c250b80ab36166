/- A row of pages that a call builds. -/
import Derived.Test.YtkhdahipnfloeaaCommit
import Derived.Test.YtkhdahipnfloeaaBase
namespace Go.Proofs.Ytkhdahipnfloeaa
open Go.RowKit
set_option maxRecDepth 100000

theorem Try.infoPu : (Try.prog.info? 56).map (fun i => (i.zero, i.size, i.bytes)) = some (some (.agg #[.int .i64 0, .slice none 0 0]), 2, 32) := by kernel_rfl

def pcells (l : Pages) (vs : List Value) : List Value := (l.zip vs).flatMap fun p => [.int .i64 p.1.1, p.2]
theorem pcells_at : ∀ (l : Pages) (vs : List Value) (_ : vs.length = l.length) (i : Nat) (hi : i < l.length) (hj : i < vs.length), (pcells l vs)[i * 2]? = some (.int .i64 l[i].1) ∧ (pcells l vs)[i * 2 + 1]? = some vs[i]
  | [], _, _, i, hi, _ => by simp at hi
  | p :: t, [], h, _, _, _ => by simp at h
  | p :: t, v :: vt, h, 0, _, _ => by simp [pcells]
  | p :: t, v :: vt, h, i + 1, hi, hj => by
    have e : pcells (p :: t) (v :: vt) = .int .i64 p.1 :: v :: pcells t vt := rfl
    have := pcells_at t vt (by simpa using h) i (by simpa using hi) (by simpa using hj)
    rw [e, show (i + 1) * 2 = i * 2 + 1 + 1 from by omega]
    simpa using this
theorem pcells_snoc (l : Pages) (vs : List Value) (h : vs.length = l.length) (p : Int × List UInt8) (v : Value) : pcells (l ++ [p]) (vs ++ [v]) = pcells l vs ++ [.int .i64 p.1, v] := by
  unfold pcells
  rw [List.zip_append h.symm]
  simp

/-- A row of the call's own (blocks from w0 on) that reads as l; the pages' bytes lie in blocks from w0 on, or of T. -/
def PRow (T : Nat → Prop) (w0 : Nat) (w : World) (lv : Value) (l : Pages) : Prop :=
  ∃ vs : List Value, vs.length = l.length ∧ w.ownsRow w0 56 2 lv l.length (pcells l vs) ∧ ∀ j (hj : j < l.length) (hv : j < vs.length), Bs w vs[j] l[j].2 ∧ (0 < l[j].2.length → ∀ g, vs[j].ownBlock = some g → T g ∨ (w0 ≤ g ∧ g < w.heap.size ∧ lv.ownBlock ≠ some g))

theorem PRow.nil (T : Nat → Prop) (w0 : Nat) (w : World) : PRow T w0 w (.slice none 0 0) [] := ⟨[], rfl, World.ownsRow_nil _ _ _ _, fun j hj => by simp at hj⟩
theorem PRow.below {T : Nat → Prop} {w0 : Nat} {w w' : World} {lv : Value} {l : Pages} (h : PRow T w0 w lv l) (hb : Below w.heap.size w w') : PRow T w0 w' lv l := by
  obtain ⟨vs, h1, h2, h3⟩ := h
  exact ⟨vs, h1, owns_moved h2 (Moved.of_below hb (fun _ => False)) (fun _ _ h => h), fun j hj hv => ⟨(h3 j hj hv).1.below hb, fun h0 g hg => ((h3 j hj hv).2 h0 g hg).imp_right fun e => ⟨e.1, Nat.lt_of_lt_of_le e.2.1 hb.size, e.2.2⟩⟩⟩
theorem PRow.form {T : Nat → Prop} {w0 : Nat} {w : World} {lv : Value} {l : Pages} (h : PRow T w0 w lv l) : ∃ so cap, lv = .slice so l.length cap ∧ l.length ≤ cap ∧ cap ≤ maxLen := by
  obtain ⟨vs, h1, h2, h3⟩ := h
  exact owns_form h2
theorem PRow.lt {T : Nat → Prop} {w0 : Nat} {w : World} {lv : Value} {l : Pages} (h : PRow T w0 w lv l) : ∀ q, lv.ownBlock = some q → w0 ≤ q ∧ q < w.heap.size := by
  obtain ⟨vs, h1, h2, h3⟩ := h
  exact fun q hq => h2.lt q hq
theorem PRow.pus {T : Nat → Prop} {w0 : Nat} {w : World} {lv : Value} {l : Pages} (h : PRow T w0 w lv l) : Pus w (fun g => T g ∨ (w0 ≤ g ∧ g < w.heap.size)) lv l := by
  obtain ⟨vs, h1, h2, h3⟩ := h
  by_cases h0 : l.length = 0
  · obtain ⟨so, cap, rfl, k1, k2⟩ := owns_form h2
    exact ⟨so, cap, rfl, k1, k2, fun k hk => by omega⟩
  · obtain ⟨g, cap, hsv, -, -⟩ := h2.form (by omega)
    obtain ⟨so, c', e, k1, k2⟩ := owns_form h2
    rw [hsv] at e
    simp only [Value.slice.injEq, true_and] at e
    obtain ⟨rfl, rfl⟩ := e
    subst hsv
    refine ⟨_, cap, rfl, k1, k2, fun k hk => ?_⟩
    have hv : k < vs.length := by omega
    have hlt := h2.lt g rfl
    have c1 := h2.cells (g := g) rfl (k * 2) _ (pcells_at l vs h1 k hk hv).1
    have c2 := h2.cells (g := g) rfl (k * 2 + 1) _ (pcells_at l vs h1 k hk hv).2
    simp only [Addr.add_lit, Nat.zero_add] at c1 c2
    refine ⟨g, 0, rfl, .inr ⟨hlt.1, hlt.2⟩, ?_, vs[k], ?_, (h3 k hk hv).1, fun h0 q hq => ((h3 k hk hv).2 h0 q hq).imp_right fun e => ⟨e.1, e.2.1⟩⟩
    · rw [Nat.zero_add]; exact c1
    · rw [Nat.zero_add]; exact c2

theorem PRow.appended {T : Nat → Prop} {w0 : Nat} {w1 w2 : World} {lv : Value} {l : Pages} {vs : List Value} (h1 : vs.length = l.length)
    (h3 : ∀ j (hj : j < l.length) (hv : j < vs.length), Bs w1 vs[j] l[j].2 ∧ (0 < l[j].2.length → ∀ g, vs[j].ownBlock = some g → T g ∨ (w0 ≤ g ∧ g < w1.heap.size ∧ lv.ownBlock ≠ some g))) (hT : ∀ g, T g → g < w0) (hL : ∀ q, lv.ownBlock = some q → w0 ≤ q)
    (a : Int) (b : List UInt8) (v : Value) (hb : Bs w1 v b) (hv : 0 < b.length → ∀ g, v.ownBlock = some g → T g ∨ (w0 ≤ g ∧ g < w1.heap.size ∧ lv.ownBlock ≠ some g)) (g cap : Nat)
    (k1 : w2.ownsRow w0 56 2 (.slice (some ⟨g, 0, none⟩) (l.length + 1) cap) (l.length + 1) (pcells l vs ++ [.int .i64 a, v])) (k2 : w1.grownBy w2 lv.ownBlock) (k3 : lv.ownBlock = some g ∨ w1.heap.size ≤ g) :
    PRow T w0 w2 (.slice (some ⟨g, 0, none⟩) (l.length + 1) cap) (l ++ [(a, b)]) := by
  have hm : Moved (fun j => lv.ownBlock = some j) w1 w2 := ⟨k2.os, k2.tape, k2.output, k2.size, fun k hk hne => k2.block k hk (fun e => hne e.symm)⟩
  have key : ∀ (u : Value) (c : List UInt8), Bs w1 u c → (0 < c.length → ∀ q, u.ownBlock = some q → T q ∨ (w0 ≤ q ∧ q < w1.heap.size ∧ lv.ownBlock ≠ some q)) → Bs w2 u c ∧ (0 < c.length → ∀ q, u.ownBlock = some q → T q ∨ (w0 ≤ q ∧ q < w2.heap.size ∧ (Value.slice (some ⟨g, 0, none⟩) (l.length + 1) cap).ownBlock ≠ some q)) := by
    intro u c hu hq
    refine ⟨hu.moved0 hm (fun h0 k hk e => ?_), fun h0 q hqq => (hq h0 q hqq).imp_right fun hr => ⟨hr.1, Nat.lt_of_lt_of_le hr.2.1 k2.size, fun e => ?_⟩⟩
    · rcases hq h0 k hk with ht | hr
      · have := hT k ht
        have := hL k e
        omega
      · exact hr.2.2 e
    · simp only [Value.ownBlock, Option.some.injEq] at e
      subst e
      rcases k3 with k3 | k3
      · exact hr.2.2 k3
      · omega
  refine ⟨vs ++ [v], by simp [h1], ?_, fun j hj hv' => ?_⟩
  · rw [pcells_snoc _ _ h1]; simpa using k1
  · by_cases e : j < l.length
    · have hjv : j < vs.length := by omega
      simp only [List.getElem_append_left hjv, List.getElem_append_left e]
      exact key _ _ (h3 j e hjv).1 (h3 j e hjv).2
    · have hj' : j = l.length := by rw [List.length_append] at hj; simp at hj; omega
      subst hj'
      have e1 : (vs ++ [v])[l.length]'hv' = v := by
        rw [List.getElem_append_right (by omega)]; simp [h1]
      have e2 : (l ++ [(a, b)])[l.length]'hj = (a, b) := by
        rw [List.getElem_append_right (Nat.le_refl _)]; simp
      simp only [e1, e2]
      exact key _ _ hb hv

/-- l = append(l, api.Put{a, v}) -/
theorem wpList_append_pu {w : World} {ops : Array Oper} {rest : List Oper} {o : Oper} {a : Act} {Q : Exit → Act → World → Prop} (hgd : o.guard = none) (s x : Operand)
    (ho : o.op = .call { callee := .builtin .append, args := #[s, x], argTypes := #[22, 22] }) (T : Nat → Prop) (w0 : Nat) (hT : ∀ g, T g → g < w0) (hw0 : w0 ≤ w.heap.size)
    (lv : Value) (l : Pages) (hs : a.eval s = lv) (hown : PRow T w0 w lv l)
    (g0 : Nat) (hx : a.eval x = .slice (some ⟨g0, 0, none⟩) 1 1) (at1 : Int) (v : Value) (b : List UInt8) (hb : Bs w v b) (hv : 0 < b.length → ∀ g, v.ownBlock = some g → T g ∨ (w0 ≤ g ∧ g < w.heap.size ∧ lv.ownBlock ≠ some g))
    (hg : Blk w g0 #[.int .i64 at1, v] 56) (hl : l.length ≤ 1073741824)
    (h : ∀ v' w', PRow T w0 w' v' (l ++ [(at1, b)]) → w.grownBy w' lv.ownBlock → (∀ g, lv.ownBlock = some g → w0 ≤ g) → wpList Try.prog ops Q rest (a.put o.dst v') w') :
    wpList Try.prog ops Q (o :: rest) a w := by
  obtain ⟨i0, hi, hz0, hz1, hz2⟩ := info_parts Try.infoPu
  obtain ⟨vs, h1, h2, h3⟩ := hown
  have hv1 : v.oneCell' = true := by
    obtain ⟨ao, c, rfl, -⟩ := hb
    rfl
  refine wpList_append_lies w hgd s x _ ho w0 56 i0 _ 2 32 Try.underlying22 hi hz0 hz1 hz2 rfl (by decide) lv l.length (pcells l vs) hs h2 ⟨g0, 0, none⟩ 1 1 [.int .i64 at1, v] hx rfl ?_ ?_ (by decide) (by simp [maxLen]; omega) (by omega) hw0 _ rfl ?_
  · intro j u hj
    rw [show (⟨g0, 0, none⟩ : Addr).add j = ⟨g0, j, none⟩ from by unfold Addr.add; split <;> simp_all, hg.cell]
    simpa using hj
  · intro u hu
    simp at hu
    rcases hu with rfl | rfl
    · rfl
    · exact hv1
  · intro g cap w' k1 k2 k3 _
    exact h _ w' (PRow.appended h1 h3 hT (fun q hq => (h2.lt q hq).1) at1 b v hb hv g cap k1 k2 (by rcases k3 with k3 | k3; exact .inl k3; exact .inr (by omega))) k2 (fun q hq => (h2.lt q hq).1)

/-! ### The reference's disk, read only -/

theorem RkA.shrink {w : World} {Q : Nat → Prop} {x : Nat} {A : Ab} (h : RkA w Q x A) : RkA w (fun k => Q k ∧ k < w.heap.size) x A := by
  obtain ⟨s, h1, h2, h3⟩ := h
  exact ⟨s, h1.shrink, h2, h3⟩
theorem RkA.below {w w' : World} {Q : Nat → Prop} {x : Nat} {A : Ab} (h : RkA w Q x A) (hb : Below w.heap.size w w') : RkA w' Q x A := by
  obtain ⟨s, h1, h2, h3⟩ := h
  exact ⟨s, h1.moved (Moved.of_below hb (fun _ => False)) (fun _ _ h => h), h2, h3⟩
/-- Each sector has 512 bytes. -/
def Full (A : Ab) : Prop := ∀ i : Int, A.fault i = 0 → (A.read i).length = 512
theorem Full.of {s : Dsk} (h : ∀ x ∈ s.now, x.size ≤ 512) : Full (abs s) := by
  intro i hi
  unfold Ab.read
  rw [if_pos hi]
  have hr : 0 ≤ i ∧ i < s.now.length := by
    unfold Ab.fault at hi
    rw [abs_len] at hi
    split at hi
    · simp at hi
    · split at hi
      · assumption
      · simp at hi
  have hlt : i.toNat < (s.now.map pad).length := by rw [List.length_map]; omega
  show ((s.now.map pad).getD i.toNat []).length = 512
  rw [List.getD_eq_getElem?_getD, List.getElem?_eq_getElem hlt]
  show ((s.now.map pad)[i.toNat]).length = 512
  rw [List.getElem_map]
  exact pad_length _ (h _ (List.getElem_mem _))
theorem laidF_short {kept : List ByteArray} {l : List (Nat × ByteArray)} (h1 : ∀ x ∈ kept, x.size ≤ 512) (h2 : ∀ p ∈ l, p.2.size ≤ 512) (F : Nat → Bool) : ∀ i, i ≤ l.length → ∀ x ∈ laidF kept l F i, x.size ≤ 512
  | 0, _ => h1
  | i + 1, hi => by
    rw [laidF_step _ _ _ _ (by omega)]
    have ih := laidF_short h1 h2 F i (by omega)
    split
    · intro x hx
      rcases List.mem_or_eq_of_mem_set hx with hx | rfl
      · exact ih x hx
      · exact h2 _ (List.getElem_mem _)
    · exact ih
theorem RkA.full {w : World} {Q : Nat → Prop} {x : Nat} {A : Ab} (h : RkA w Q x A) : Full A := by
  obtain ⟨s, ⟨sS, sL, vS, vL, h1⟩, h2, rfl⟩ := h
  refine Full.of ?_
  rw [h2]
  exact laidF_short h1.short.1 h1.short.2 _ _ (Nat.le_refl _)
theorem RkA.most {w : World} {Q : Nat → Prop} {x : Nat} {A : Ab} (h : RkA w Q x A) : A.now.length ≤ 3000 := by
  obtain ⟨s, ⟨sS, sL, vS, vL, h1⟩, h2, rfl⟩ := h
  rw [abs_len, h2.len]
  exact h1.most
end Go.Proofs.Ytkhdahipnfloeaa
