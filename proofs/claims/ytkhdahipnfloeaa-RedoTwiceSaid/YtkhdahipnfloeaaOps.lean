/- Operations on slices of bytes as laws for the walk: append, conversion to a text, small literals. -/
import Derived.Test.YtkhdahipnfloeaaBytes
namespace Go.Proofs.Ytkhdahipnfloeaa
open Go.RowKit
set_option maxRecDepth 100000

theorem run_conv_bytes {w : World} {v : Value} {l : List UInt8} (h : Bs w v l) : (convert 41 9 v).run Try.prog w = .ok (.string ⟨l.toArray⟩) w := by
  obtain ⟨ao, cap, rfl, h1, h2, h3, h4⟩ := h
  cases ao with
  | none =>
    have h0 := h3 rfl
    obtain rfl : l = [] := List.eq_nil_of_length_eq_zero (by omega)
    exact run_convert_bytes_nil w 41 5 Try.underlying41 Try.underlying5 _ _ 9 Try.underlying9
  | some ad =>
    have e : vbs l = (l.map fun c => (c.toNat : Int)).map (Value.int .u8) := by simp [vbs, vb, Function.comp_def]
    have hl : (loadCells ad l.length).run Try.prog w = .ok ((l.map fun c => (c.toNat : Int)).map (Value.int .u8)).toArray w := by
      have := run_loadCells_list (P := Try.prog) w ad (vbs l) (h4 ad rfl)
      rw [vbs_length, e] at this
      exact this
    rw [run_convert_bytes_string w 41 9 5 _ _ cap Try.underlying41 Try.underlying5 Try.underlying9, run_bytesToString w _ _ cap _ hl, foldl_push_bytes]
    simp [Function.comp_def]

/-- string(b) -/
theorem wpList_conv {w : World} {ops : Array Oper} {rest : List Oper} {o : Oper} {a : Act} {Q : Exit → Act → World → Prop} (hgd : o.guard = none) (x : Operand) (hop : o.op = Op.convert 41 9 x)
    (v : Value) (l : List UInt8) (hx : a.eval x = v) (hbs : Bs w v l) (h : wpList Try.prog ops Q rest (a.put o.dst (.string ⟨l.toArray⟩)) w) : wpList Try.prog ops Q (o :: rest) a w := by
  refine wpList_plain hgd fun K hK => ?_
  unfold Oper.wp
  simp [execOp, hop, hx, run_conv_bytes hbs, Result.andThen]
  exact hK _ _ h

/-- append(x, y...) onto a slice of the call's own, y whatever. -/
theorem wpList_append_bytes {w : World} {ops : Array Oper} {rest : List Oper} {o : Oper} {a : Act} {Q : Exit → Act → World → Prop} (hgd : o.guard = none) (s x : Operand)
    (ho : o.op = .call { callee := .builtin .append, args := #[s, x], argTypes := #[41, 41] })
    (base : Nat) (v : Value) (l : List UInt8) (hs : a.eval s = v) (hown : Own w base v l) (y : Value) (m : List UInt8) (hx : a.eval x = y) (hbs : Bs w y m)
    (hl : l.length + m.length ≤ 140737488355328) (hbase : base ≤ w.heap.size)
    (h : ∀ v' w', Own w' base v' (l ++ m) → w.grownBy w' v.ownBlock → wpList Try.prog ops Q rest (a.put o.dst v') w') : wpList Try.prog ops Q (o :: rest) a w := by
  obtain ⟨i0, hi, hz0, hz1, hz2⟩ := info_parts Try.infoU8
  obtain ⟨ao, cap, rfl, h1, h2, h3, h4⟩ := hbs
  cases ao with
  | none =>
    have h0 := h3 rfl
    obtain rfl : m = [] := List.eq_nil_of_length_eq_zero (by omega)
    subst h0
    refine wpList_append_own_none hgd s x _ ho base 5 i0 1 Try.underlying41 hi v _ _ hs hown hx (h v w (by simpa using hown) (World.grownBy.refl _ _))
  | some ad =>
    refine wpList_append_own w hgd s x _ ho base 5 i0 (.int .u8 0) 1 1 Try.underlying41 hi hz0 hz1 hz2 rfl (by decide) v _ _ hs hown ad m.length cap (vbs m) hx (by simp [vbs]) (h4 ad rfl) (vbs_oneCell m) (by simp [maxLen]; omega) (by omega) hbase ?_
    intro v' w' ho' hg _
    exact h v' w' (Own.of ho' (by simp) (by rw [vbs_append])) hg

theorem Own.empty (w : World) (base : Nat) (hb : base ≤ w.heap.size) : Own (w.alloc (.cells #[] 5)) base (.slice (some ⟨w.heap.size, 0, none⟩) 0 0) [] :=
  World.ownsRow_lit w #[] 0 hb (by simp [maxLen]) rfl

theorem Own.one (w : World) (base : Nat) (hb : base ≤ w.heap.size) (c : UInt8) (v : Value) (hv : v = vb c) : Own (w.alloc (.cells #[v] 5)) base (.slice (some ⟨w.heap.size, 0, none⟩) 1 1) [c] := by
  subst hv
  exact World.ownsRow_lit w #[vb c] 1 hb (by simp [maxLen]) rfl
theorem Own.two (w : World) (base : Nat) (hb : base ≤ w.heap.size) (c d : UInt8) (v x : Value) (hv : v = vb c) (hx : x = vb d) : Own (w.alloc (.cells #[v, x] 5)) base (.slice (some ⟨w.heap.size, 0, none⟩) 2 2) [c, d] := by
  subst hv hx
  exact World.ownsRow_lit w #[vb c, vb d] 2 hb (by simp [maxLen]) rfl

theorem Bs.one (w : World) (c : UInt8) (v : Value) (hv : v = vb c) : Bs (w.alloc (.cells #[v] 5)) (.slice (some ⟨w.heap.size, 0, none⟩) 1 1) [c] := by
  subst hv
  refine ⟨some ⟨w.heap.size, 0, none⟩, 1, rfl, by simp, by simp [maxLen], (fun h => by cases h), fun ad had j u hu => ?_⟩
  cases had
  match j, hu with
  | 0, hu => simp [vbs] at hu; subst hu; simp [Addr.add]

theorem Bs.two (w : World) (c d : UInt8) (v x : Value) (hv : v = vb c) (hx : x = vb d) : Bs (w.alloc (.cells #[v, x] 5)) (.slice (some ⟨w.heap.size, 0, none⟩) 2 2) [c, d] := by
  subst hv hx
  refine ⟨some ⟨w.heap.size, 0, none⟩, 2, rfl, by simp, by simp [maxLen], (fun h => by cases h), fun ad had j u hu => ?_⟩
  cases had
  match j, hu with
  | 0, hu => simp [vbs] at hu; subst hu; simp [Addr.add]
  | 1, hu => simp [vbs] at hu; subst hu; simp [Addr.add]

theorem Own.mono {w : World} {base base' : Nat} {v : Value} {l : List UInt8} (h : Own w base v l) (hb : base' ≤ base) : Own w base' v l := by
  refine ⟨h.1, ?_⟩
  rcases h.2 with h2 | ⟨g, cap, cur, rfl, h1, h2⟩
  · exact .inl h2
  · exact .inr ⟨g, cap, cur, rfl, by omega, h2⟩
theorem Own.below {w w' : World} {base : Nat} {v : Value} {l : List UInt8} (h : Own w base v l) (hb : Below w.heap.size w w') : Own w' base v l :=
  World.ownsRow.kept h (Below.grownBy hb) (by cases hv : v.ownBlock <;> simp)
/-- what a step that writes to the slice's own row and to new blocks leaves of what was there -/
theorem Own.step {w0 w w' : World} {B base : Nat} {v : Value} {l : List UInt8} (h : Own w base v l) (hb : Below B w0 w) (hg : w.grownBy w' v.ownBlock) (h1 : B ≤ base) (h2 : B ≤ w.heap.size) : Below B w0 w' :=
  hb.grown hg h2 (fun q hq => Nat.le_trans h1 (h.out.lt q hq).1)

theorem Own.alloc {w : World} {base : Nat} {v : Value} {l : List UInt8} (h : Own w base v l) (o : Obj) : Own (w.alloc o) base v l := World.ownsRow.alloc h o

/-- What came in as a slice of bytes. -/
theorem Bs.of_row {w : World} {a : Option Addr} {len cap : Nat} {zs : List Int}
    (h : (a = none ∧ len = 0 ∧ cap = 0 ∧ zs = []) ∨ ∃ x, a = some x ∧ len ≤ cap ∧ cap ≤ maxLen ∧ zs.length = cap ∧ (∀ i, i < zs.length → w.cell? (x.add i) = some (.int .u8 (zs.getD i 0))) ∧ ∀ n ∈ zs, (Lit.int .u8 n).wf = true) :
    ∃ l : List UInt8, l.length = len ∧ Bs w (.slice a len cap) l := by
  rcases h with ⟨rfl, rfl, rfl, rfl⟩ | ⟨x, rfl, hl, hm, hz, hc, hw⟩
  · exact ⟨[], rfl, Bs.nil w⟩
  · have hlen : ((zs.take len).map fun z => UInt8.ofNat z.toNat).length = len := by simp; omega
    refine ⟨(zs.take len).map fun z => UInt8.ofNat z.toNat, hlen, some x, cap, by rw [hlen], by omega, hm, (fun h => by cases h), fun ad had j u hu => ?_⟩
    cases had
    have hj : j < len := by
      have := (List.getElem?_eq_some_iff.1 hu).1
      rw [vbs_length, hlen] at this; exact this
    rw [hc j (by omega)]
    have hjz : j < zs.length := by omega
    have hwf := hw zs[j] (List.getElem_mem _)
    have hr : 0 ≤ zs[j] ∧ zs[j] < 256 := by
      simp [Lit.wf, IntKind.min, IntKind.max, IntKind.signed, IntKind.bits] at hwf
      omega
    simp [vbs, hj, hjz] at hu
    rw [← hu]
    have : zs[j].toNat < 256 := by omega
    simp [vb, List.getD, hjz, UInt8.toNat_ofNat_of_lt' this]
    omega
end Go.Proofs.Ytkhdahipnfloeaa
