/- Code4 -/
import Derived.Test.YtecomfhbdonkbaaGreatDoorProg
import Derived.WalkKit
import Derived.WalkSpells
import Derived.IntWalk
import Derived.Laws.BytesArg
import Derived.Laws.AppendOwnNone
import Derived.Lib.Hide
import Derived.Lib.AppendStr
import Derived.Lib.Strings
import Derived.Laws.Bits64
import Derived.Laws.BitsLemmas
import Derived.RegionTactic
import Derived.BigRegion
import Derived.ChangeAlike
import Derived.Deep.RegionHeld3
import Derived.Lib.SlBytesConst
import Derived.Deep.QuietTactic
import Derived.BigQuiet
namespace Go.Proofs.YtecomfhbdonkbaaGreatDoor
open Go.RowKit
set_option maxRecDepth 100000
section
section
/-- A byte as a value. -/
def vb (c : UInt8) : Value := .int .u8 (c.toNat : Int)
def vbs (l : List UInt8) : List Value := l.map vb
theorem vbs_length (l : List UInt8) : (vbs l).length = l.length := by simp [vbs]
theorem vbs_append (a b : List UInt8) : vbs (a ++ b) = vbs a ++ vbs b := by simp [vbs]
/-- The byte of a number. -/
def byteOf (x : Int) : UInt8 := UInt8.ofNat (x % 256).toNat
theorem vb_byteOf (x : Int) : vb (byteOf x) = .int .u8 (x % 256) := by
  unfold vb byteOf
  congr 1
  have : (x % 256).toNat < 256 := by omega
  rw [UInt8.toNat_ofNat_of_lt' this]
  omega
/-- A slice of bytes that the call itself made, from block 'base' on: it reads as l. -/
def Own (w : World) (base : Nat) (v : Value) (l : List UInt8) : Prop := w.ownsRow base 5 1 v l.length (vbs l)
theorem Own.out {w : World} {base : Nat} {v : Value} {l : List UInt8} (h : Own w base v l) : w.ownsRow base 5 1 v l.length (vbs l) := h
theorem Own.of {w : World} {base : Nat} {v : Value} {l : List UInt8} {n : Nat} {xs : List Value} (h : w.ownsRow base 5 1 v n xs) (hn : n = l.length) (hx : xs = vbs l) : Own w base v l := by
  subst hn hx; exact h
theorem Tryz.infoU8 : (Tryz.prog.info? 5).map (fun i => (i.zero, i.size, i.bytes)) = some (some (.int .u8 0), 1, 1) := by kernel_rfl
/-- n lowest bytes of x, the lowest first. -/
def le (x : Int) (n : Nat) : List UInt8 := (List.range n).map fun i => byteOf (x / 2 ^ (8 * i))
theorem le_length (x : Int) (n : Nat) : (le x n).length = n := by simp [le]
theorem le_succ (x : Int) (n : Nat) : le x (n + 1) = le x n ++ [byteOf (x / 2 ^ (8 * n))] := by simp [le, List.range_succ]
/-- A slice of bytes that reads as l, wherever it lies. -/
def Bs (w : World) (v : Value) (l : List UInt8) : Prop :=
  ∃ ao cap, v = .slice ao l.length cap ∧ l.length ≤ cap ∧ cap ≤ maxLen ∧ (ao = none → cap = 0) ∧ ∀ ad, ao = some ad → ∀ j u, (vbs l)[j]? = some u → w.cell? (ad.add j) = some u
theorem block_add (ad : Addr) (j : Nat) : (ad.add j).block = ad.block := by
  unfold Addr.add; split <;> rfl
theorem add_add (ad : Addr) (n j : Nat) : (ad.add n).add j = ad.add (n + j) := by
  obtain ⟨b, o, s⟩ := ad
  unfold Addr.add
  by_cases hn : n = 0 <;> by_cases hj : j = 0 <;> simp [hn, hj, Nat.add_assoc]
theorem Bs.grown {w w' : World} {v : Value} {l : List UInt8} {row : Option Nat} (h : Bs w v l) (hg : w.grownBy w' row) (hne : l = [] ∨ row = none ∨ v.ownBlock ≠ row) : Bs w' v l := by
  obtain ⟨ao, cap, rfl, h1, h2, h3, h4⟩ := h
  refine ⟨ao, cap, rfl, h1, h2, h3, fun ad had j u hu => ?_⟩
  have hc := h4 ad had j u hu
  refine hg.cell hc ?_
  rw [block_add]
  rcases hne with rfl | rfl | hne
  · simp [vbs] at hu
  · simp
  · subst had; simpa [Value.ownBlock] using hne
theorem Below.grownBy {w w' : World} (h : Below w.heap.size w w') : w.grownBy w' none := ⟨h.os, h.tape, h.output, h.size, fun k hk _ => h.block k hk⟩
theorem Bs.below {w w' : World} {v : Value} {l : List UInt8} (h : Bs w v l) (hb : Below w.heap.size w w') : Bs w' v l := h.grown (Below.grownBy hb) (.inr (.inl rfl))
theorem grownBy_below {w w' : World} (h : w.grownBy w' none) : Below w.heap.size w w' := ⟨h.os, h.tape, h.output, h.size, fun k hk => h.block k hk (by simp)⟩
theorem Own.bs {w : World} {base : Nat} {v : Value} {l : List UInt8} (h : Own w base v l) : Bs w v l := by
  have hc := fun g (hg : v.ownBlock = some g) => h.out.cells hg
  rcases h.2 with ⟨rfl, hn⟩ | ⟨g, cap, cur, rfl, hb, hh, h1, h2, h3, h4⟩
  · obtain rfl : l = [] := List.eq_nil_of_length_eq_zero hn
    exact ⟨none, 0, rfl, by simp, by simp [maxLen], fun _ => rfl, fun ad h => by cases h⟩
  · refine ⟨some ⟨g, 0, none⟩, cap, rfl, h1, h2, (fun h => by cases h), fun ad had j u hu => ?_⟩
    cases had
    exact hc g rfl j u hu
theorem Own.at {w : World} {base : Nat} {v : Value} {l : List UInt8} (h : Own w base v l) (hl : 0 < l.length) :
    ∃ g cap, v = .slice (some ⟨g, 0, none⟩) l.length cap ∧ l.length ≤ cap ∧ cap ≤ maxLen ∧ base ≤ g ∧ g < w.heap.size ∧ ∀ j (hj : j < l.length), w.cell? ⟨g, j, none⟩ = some (vb l[j]) := by
  have hlt := h.out.lt
  rcases h.2 with ⟨rfl, hn⟩ | ⟨g, cap, cur, rfl, hb, hh, h1, h2, h3, h4⟩
  · omega
  · refine ⟨g, cap, rfl, h1, h2, hb, (hlt g rfl).2, fun j hj => ?_⟩
    rw [h.out.cellAt j (by omega)]
    simp [vbs, hj]
theorem Bs.at {w : World} {v : Value} {l : List UInt8} (h : Bs w v l) (hl : 0 < l.length) :
    ∃ b off cap, v = .slice (some ⟨b, off, none⟩) l.length cap ∧ l.length ≤ cap ∧ cap ≤ maxLen ∧ ∀ j (hj : j < l.length), w.cell? ⟨b, off + j, none⟩ = some (vb l[j]) := by
  obtain ⟨ao, cap, rfl, h1, h2, h3, h4⟩ := h
  cases ao with
  | none => have := h3 rfl; omega
  | some ad =>
    obtain ⟨b, off, spot⟩ := ad
    have key : ∀ j (hj : j < l.length), w.cell? ((⟨b, off, spot⟩ : Addr).add j) = some (vb l[j]) := fun j hj => h4 _ rfl j _ (by simp [vbs, hj])
    have hs : spot = none := by simpa [Addr.add] using World.cell?_spot (key 0 hl)
    subst hs
    refine ⟨b, off, cap, rfl, h1, h2, fun j hj => ?_⟩
    have := key j hj
    rwa [Addr.add_lit] at this
/-- The number that bytes say, the lowest first. -/
def num : List UInt8 → Nat
  | [] => 0
  | c :: t => c.toNat + 256 * num t
theorem gnum_lt : ∀ l : List UInt8, num l < 256 ^ l.length
  | [] => by simp [num]
  | c :: t => by
    have := gnum_lt t
    have hc : c.toNat < 256 := c.toNat_lt
    simp only [num, List.length_cons, Nat.pow_succ]
    omega
theorem num_snoc : ∀ (l : List UInt8) (c : UInt8), num (l ++ [c]) = num l + c.toNat * 256 ^ l.length
  | [], c => by simp [num]
  | d :: t, c => by
    have := num_snoc t c
    simp only [num, List.cons_append, List.length_cons, Nat.pow_succ, this, Nat.mul_add]
    rw [Nat.add_assoc]
    congr 2
    rw [Nat.mul_left_comm, Nat.mul_comm 256]
theorem wraps_u64 (n : Int) (h₀ : 0 ≤ n) (h₁ : n < 2 ^ 64) : IntKind.u64.wrap n = n := by rw [IntKind.wrap_u64]; omega
theorem or_byte (N c k : Nat) (hk : k < 8) (hN : N < 256 ^ k) (hc : c < 256) : bits .or .u64 (N : Int) (IntKind.u64.wrap ((c : Int) * 2 ^ (8 * k))) = ((N + c * 256 ^ k : Nat) : Int) := by
  have e : (256 : Nat) ^ k = 2 ^ (8 * k) := by rw [Nat.pow_mul]
  rw [e] at hN ⊢
  have h1 : c * 2 ^ (8 * k) < 2 ^ (8 + 8 * k) := by rw [Nat.pow_add]; exact Nat.mul_lt_mul_of_pos_right hc (Nat.two_pow_pos _)
  have h2 : 2 ^ (8 + 8 * k) ≤ 2 ^ 64 := Nat.pow_le_pow_right (by decide) (by omega)
  have h3 : 2 ^ (8 * k) ≤ 2 ^ 64 := Nat.pow_le_pow_right (by decide) (by omega)
  have hw : IntKind.u64.wrap ((c : Int) * 2 ^ (8 * k)) = ((c * 2 ^ (8 * k) : Nat) : Int) := by
    have : ((c : Int) * 2 ^ (8 * k)) = ((c * 2 ^ (8 * k) : Nat) : Int) := by simp
    rw [this]
    exact wraps_u64 _ (Int.natCast_nonneg _) (by exact_mod_cast Nat.lt_of_lt_of_le h1 h2)
  rw [hw, (bits_nat .u64 64 (Nat.le_refl _) wraps_u64 N _ (Nat.lt_of_lt_of_le hN h3) (Nat.lt_of_lt_of_le h1 h2)).2]
  rw [Nat.or_comm, Nat.mul_comm c, ← Nat.two_pow_add_eq_or_of_lt hN c, Nat.add_comm]
theorem Bs.nil (w : World) : Bs w (.slice none 0 0) [] := ⟨none, 0, rfl, by simp, by simp [maxLen], fun _ => rfl, fun ad h => by cases h⟩
theorem strCells_vbs (s : ByteArray) : Lib.strCells s = vbs s.data.toList := rfl
/-- A text as bytes: its length in two, and they; of a longer one the first 65535. -/
def tx (s : ByteArray) : List UInt8 := le (min s.size 65535) 2 ++ s.data.toList.take 65535
theorem vbs_oneCell (l : List UInt8) : ∀ u ∈ vbs l, u.oneCell' = true := by
  intro u hu
  obtain ⟨_, _, rfl⟩ := List.mem_map.1 hu
  rfl
end
section
theorem run_conv_bytes {w : World} {v : Value} {l : List UInt8} (h : Bs w v l) : (convert 111 9 v).run Tryz.prog w = .ok (.string ⟨l.toArray⟩) w := by
  obtain ⟨ao, cap, rfl, h1, h2, h3, h4⟩ := h
  cases ao with
  | none =>
    have h0 := h3 rfl
    obtain rfl : l = [] := List.eq_nil_of_length_eq_zero (by omega)
    exact run_convert_bytes_nil w 111 5 Tryz.underlying111 Tryz.underlying5 _ _ 9 Tryz.underlying9
  | some ad =>
    have e : vbs l = (l.map fun c => (c.toNat : Int)).map (Value.int .u8) := by simp [vbs, vb, Function.comp_def]
    have hl : (loadCells ad l.length).run Tryz.prog w = .ok ((l.map fun c => (c.toNat : Int)).map (Value.int .u8)).toArray w := by
      have := run_loadCells_list (P := Tryz.prog) w ad (vbs l) (h4 ad rfl)
      rw [vbs_length, e] at this
      exact this
    rw [run_convert_bytes_string w 111 9 5 _ _ cap Tryz.underlying111 Tryz.underlying5 Tryz.underlying9, run_bytesToString w _ _ cap _ hl, foldl_push_bytes]
    simp [Function.comp_def]
/-- string(b) -/
theorem wpList_conv {w : World} {ops : Array Oper} {rest : List Oper} {o : Oper} {a : Act} {Q : Exit → Act → World → Prop} (hgd : o.guard = none) (x : Operand) (hop : o.op = Op.convert 111 9 x)
    (v : Value) (l : List UInt8) (hx : a.eval x = v) (hbs : Bs w v l) (h : wpList Tryz.prog ops Q rest (a.put o.dst (.string ⟨l.toArray⟩)) w) : wpList Tryz.prog ops Q (o :: rest) a w := by
  refine wpList_plain hgd fun K hK => ?_
  unfold Oper.wp
  simp [execOp, hop, hx, run_conv_bytes hbs, Result.andThen]
  exact hK _ _ h
/-- append(x, y...) onto a slice of the call's own, y whatever. -/
theorem wpList_append_bytes {w : World} {ops : Array Oper} {rest : List Oper} {o : Oper} {a : Act} {Q : Exit → Act → World → Prop} (hgd : o.guard = none) (s x : Operand)
    (ho : o.op = .call { callee := .builtin .append, args := #[s, x], argTypes := #[111, 111] })
    (base : Nat) (v : Value) (l : List UInt8) (hs : a.eval s = v) (hown : Own w base v l) (y : Value) (m : List UInt8) (hx : a.eval x = y) (hbs : Bs w y m)
    (hl : l.length + m.length ≤ 140737488355328) (hbase : base ≤ w.heap.size)
    (h : ∀ v' w', Own w' base v' (l ++ m) → w.grownBy w' v.ownBlock → wpList Tryz.prog ops Q rest (a.put o.dst v') w') : wpList Tryz.prog ops Q (o :: rest) a w := by
  obtain ⟨i0, hi, hz0, hz1, hz2⟩ := info_parts Tryz.infoU8
  obtain ⟨ao, cap, rfl, h1, h2, h3, h4⟩ := hbs
  cases ao with
  | none =>
    have h0 := h3 rfl
    obtain rfl : m = [] := List.eq_nil_of_length_eq_zero (by omega)
    subst h0
    refine wpList_append_own_none hgd s x _ ho base 5 i0 1 Tryz.underlying111 hi v _ _ hs hown hx (h v w (by simpa using hown) (World.grownBy.refl _ _))
  | some ad =>
    refine wpList_append_own w hgd s x _ ho base 5 i0 (.int .u8 0) 1 1 Tryz.underlying111 hi hz0 hz1 hz2 rfl (by decide) v _ _ hs hown ad m.length cap (vbs m) hx (by simp [vbs]) (h4 ad rfl) (vbs_oneCell m) (by simp [maxLen]; omega) (by omega) hbase ?_
    intro v' w' ho' hg _
    exact h v' w' (Own.of ho' (by simp) (by rw [vbs_append])) hg
theorem Own.one (w : World) (base : Nat) (hb : base ≤ w.heap.size) (c : UInt8) (v : Value) (hv : v = vb c) : Own (w.alloc (.cells #[v] 5)) base (.slice (some ⟨w.heap.size, 0, none⟩) 1 1) [c] := by
  subst hv
  exact World.ownsRow_lit w #[vb c] 1 hb (by simp [maxLen]) rfl
theorem Bs.one (w : World) (c : UInt8) (v : Value) (hv : v = vb c) : Bs (w.alloc (.cells #[v] 5)) (.slice (some ⟨w.heap.size, 0, none⟩) 1 1) [c] := by
  subst hv
  refine ⟨some ⟨w.heap.size, 0, none⟩, 1, rfl, by simp, by simp [maxLen], (fun h => by cases h), fun ad had j u hu => ?_⟩
  cases had
  match j, hu with
  | 0, hu => simp [vbs] at hu; subst hu; simp [Addr.add]
theorem Own.mono {w : World} {base base' : Nat} {v : Value} {l : List UInt8} (h : Own w base v l) (hb : base' ≤ base) : Own w base' v l := by
  refine ⟨h.1, ?_⟩
  rcases h.2 with h2 | ⟨g, cap, cur, rfl, h1, h2⟩
  · exact .inl h2
  · exact .inr ⟨g, cap, cur, rfl, by omega, h2⟩
theorem Own.below {w w' : World} {base : Nat} {v : Value} {l : List UInt8} (h : Own w base v l) (hb : Below w.heap.size w w') : Own w' base v l :=
  World.ownsRow.kept h (Below.grownBy hb) (by cases hv : v.ownBlock <;> simp)
/-- what a step that writes to the slice's own row and to new blocks leaves of what was there -/
theorem Own.step {w0 w w' : World} {B base : Nat} {v : Value} {l : List UInt8} (h : Own w base v l) (hb : Below B w0 w) (hg : w.grownBy w' v.ownBlock) (h1 : B ≤ base) (h2 : B ≤ w.heap.size) : Below B w0 w' :=
  hb.grown hg h2 (fun q hq => Nat.le_trans h1 (h.out.lt q hq).1)
theorem Own.alloc {w : World} {base : Nat} {v : Value} {l : List UInt8} (h : Own w base v l) (o : Obj) : Own (w.alloc o) base v l := World.ownsRow.alloc h o
end
section
theorem byteOf_toNat (x : Int) : ((byteOf x).toNat : Int) = x % 256 := by
  have h := vb_byteOf x
  unfold vb at h
  simpa using h
theorem num_le (x : Int) : ∀ n : Nat, (num (le x n) : Int) = x % 256 ^ n
  | 0 => by simp [num, le, Int.emod_one]
  | n + 1 => by
    have ih := num_le x n
    have hp : (0 : Int) < 256 ^ n := Int.pow_pos (by decide)
    have e : (2 : Int) ^ (8 * n) = 256 ^ n := by rw [Int.pow_mul]; rfl
    rw [le_succ, num_snoc, le_length]
    rw [Int.natCast_add, Int.natCast_mul, Int.natCast_pow, ih, byteOf_toNat, e, Int.pow_succ]
    rw [show (((256 : Nat) : Int)) = 256 from rfl]
    generalize (256 : Int) ^ n = M at *
    have h1 := Int.mul_ediv_add_emod x M
    have h2 := Int.mul_ediv_add_emod (x / M) 256
    have h3 := Int.emod_nonneg x (show M ≠ 0 by omega)
    have h4 := Int.emod_lt_of_pos x hp
    have h5 := Int.emod_nonneg (x / M) (show (256 : Int) ≠ 0 by decide)
    have h6 := Int.emod_lt_of_pos (x / M) (show (0 : Int) < 256 by decide)
    generalize hq : x / M = q at *
    generalize hr : x % M = r at *
    generalize hs : q % 256 = s at *
    generalize ht : q / 256 = t at *
    have hb : M * s ≤ M * 255 := Int.mul_le_mul_of_nonneg_left (by omega) (by omega)
    have hb0 : 0 ≤ M * s := Int.mul_nonneg (by omega) h5
    have hx : x = (r + s * M) + M * 256 * t := by
      rw [← h1, ← h2, Int.mul_add, Int.mul_comm s M, Int.mul_assoc]
      omega
    rw [hx, Int.add_mul_emod_self_left, Int.emod_eq_of_lt]
    · rw [Int.mul_comm s M]; omega
    · rw [Int.mul_comm s M]; omega
theorem num_back (x : Int) (h : (Lit.int .i64 x).wf = true) : wrap64 (num (le x 8)) = x := by
  have hr : -9223372036854775808 ≤ x ∧ x ≤ 9223372036854775807 := by
    simpa [Lit.wf, IntKind.min, IntKind.max, IntKind.signed, IntKind.bits] using h
  rw [num_le]
  have e : (256 : Int) ^ 8 = 18446744073709551616 := by decide
  rw [e]
  simp only [wrap64]
  omega
end
section
end
section
/-- A block of cells, known whole. -/
def Blk (w : World) (b : Nat) (cur : Array Value) (t : TypeId) : Prop := w.heap[b]? = some (.cells cur t (0, 0))
theorem Blk.out {w : World} {b : Nat} {cur : Array Value} {t : TypeId} (h : Blk w b cur t) : w.heap[b]? = some (.cells cur t (0, 0)) := h
theorem Blk.lt {w : World} {b : Nat} {cur : Array Value} {t : TypeId} (h : Blk w b cur t) : b < w.heap.size := (Array.getElem?_eq_some_iff.1 h).1
theorem Blk.cell {w : World} {b : Nat} {cur : Array Value} {t : TypeId} (h : Blk w b cur t) (j : Nat) : w.cell? ⟨b, j, none⟩ = cur[j]? := cell_of_row w b j cur t (0, 0) h
theorem Blk.frozen {w : World} {b : Nat} {cur : Array Value} {t : TypeId} (h : Blk w b cur t) (j : Nat) : w.frozen? ⟨b, j, none⟩ = false := frozen_of_row w b j cur t h
theorem Blk.set {w : World} {b : Nat} {cur : Array Value} {t : TypeId} (h : Blk w b cur t) (j : Nat) (u : Value) : Blk (w.setCell ⟨b, j, none⟩ u) b (cur.setIfInBounds j u) t :=
  heap_setCell_same w b j cur t u h
theorem Blk.other {w : World} {b : Nat} {cur : Array Value} {t : TypeId} (h : Blk w b cur t) (a : Addr) (u : Value) (hne : b ≠ a.block) : Blk (w.setCell a u) b cur t :=
  (Below.heap_setCell w a u b hne).trans h
theorem Blk.drew {w : World} {b : Nat} {cur : Array Value} {t : TypeId} (h : Blk w b cur t) : Blk w.drew b cur t := h
theorem Blk.alloc {w : World} {b : Nat} {cur : Array Value} {t : TypeId} (h : Blk w b cur t) (o : Obj) : Blk (w.alloc o) b cur t :=
  (Below.heap_alloc w o b h.lt).trans h
theorem Blk.new (w : World) (cur : Array Value) (t : TypeId) : Blk (w.alloc (.cells cur t)) w.heap.size cur t := heap_alloc_new w _
/-- w' is w with new blocks, and with writes to blocks of P alone. -/
structure Moved (P : Nat → Prop) (w w' : World) : Prop where
  os : w'.os = w.os
  tape : w'.tape = w.tape
  output : w'.output = w.output
  size : w.heap.size ≤ w'.heap.size
  block : ∀ k, k < w.heap.size → ¬ P k → w'.heap[k]? = w.heap[k]?
theorem Moved.refl (P : Nat → Prop) (w : World) : Moved P w w := ⟨rfl, rfl, rfl, Nat.le_refl _, fun _ _ _ => rfl⟩
theorem Moved.trans {P P' : Nat → Prop} {a b c : World} (h : Moved P a b) (k : Moved P' b c) (hP : ∀ j, P' j → P j ∨ a.heap.size ≤ j) : Moved P a c :=
  ⟨k.os.trans h.os, k.tape.trans h.tape, k.output.trans h.output, Nat.le_trans h.size k.size, fun j hj hn =>
    (k.block j (Nat.lt_of_lt_of_le hj h.size) (fun hp => (hP j hp).elim hn (fun hs => by omega))).trans (h.block j hj hn)⟩
theorem Moved.mono {P P' : Nat → Prop} {a b : World} (h : Moved P a b) (hP : ∀ j, P j → P' j) : Moved P' a b := ⟨h.os, h.tape, h.output, h.size, fun j hj hn => h.block j hj (fun hp => hn (hP j hp))⟩
theorem Moved.setCell {P : Nat → Prop} {a b : World} (h : Moved P a b) (p : Addr) (u : Value) (hp : P p.block ∨ a.heap.size ≤ p.block) : Moved P a (b.setCell p u) :=
  h.trans (P' := fun j => j = p.block) ⟨rfl, rfl, rfl, by simp [World.setCell], fun k _ hk => Below.heap_setCell _ _ _ _ hk⟩ (fun j hj => by subst hj; exact hp)
theorem Moved.drew {P : Nat → Prop} {a b : World} (h : Moved P a b) : Moved P a b.drew := ⟨h.os, h.tape, h.output, h.size, h.block⟩
theorem Moved.alloc {P : Nat → Prop} {a b : World} (h : Moved P a b) (o : Obj) : Moved P a (b.alloc o) :=
  h.trans (P' := fun _ => False) ⟨rfl, rfl, rfl, by simp, fun k hk _ => Below.heap_alloc _ _ _ hk⟩ (fun _ hj => hj.elim)
theorem Moved.grown {P : Nat → Prop} {a b c : World} {row : Option Nat} (h : Moved P a b) (hg : b.grownBy c row) (hr : ∀ k, row = some k → P k ∨ a.heap.size ≤ k) : Moved P a c :=
  h.trans (P' := fun j => row = some j) ⟨hg.os, hg.tape, hg.output, hg.size, fun k hk hne => hg.block k hk (fun e => hne e.symm)⟩ hr
theorem Moved.below {P : Nat → Prop} {B : Nat} {a b : World} (h : Moved P a b) (hP : ∀ j, P j → B ≤ j) (hB : B ≤ a.heap.size) : Below B a b :=
  ⟨h.os, h.tape, h.output, h.size, fun k hk => h.block k (by omega) (fun hp => by have := hP k hp; omega)⟩
theorem Moved.of_below {a b : World} (h : Below a.heap.size a b) (P : Nat → Prop) : Moved P a b := ⟨h.os, h.tape, h.output, h.size, fun k hk _ => h.block k hk⟩
theorem Moved.grownBy {P : Nat → Prop} {a b : World} (h : Moved P a b) (hP : ∀ j, ¬ P j) : a.grownBy b none := ⟨h.os, h.tape, h.output, h.size, fun k hk _ => h.block k hk (hP k)⟩
theorem Blk.moved {P : Nat → Prop} {w w' : World} {b : Nat} {cur : Array Value} {t : TypeId} (h : Blk w b cur t) (hm : Moved P w w') (hP : ¬ P b) : Blk w' b cur t := (hm.block b h.lt hP).trans h
theorem owns_moved {P : Nat → Prop} {w w' : World} {base : Nat} {e : TypeId} {size : Nat} {v : Value} {n : Nat} {xs : List Value} (h : w.ownsRow base e size v n xs) (hm : Moved P w w') (hP : ∀ k, v.ownBlock = some k → ¬ P k) : w'.ownsRow base e size v n xs := by
  refine ⟨h.1, ?_⟩
  rcases h.2 with hn | ⟨g, cap, cur, rfl, hb, hgg, rest⟩
  · exact .inl hn
  · exact .inr ⟨g, cap, cur, rfl, hb, (hm.block g (Array.getElem?_eq_some_iff.1 hgg).1 (hP g rfl)).trans hgg, rest⟩
theorem Bs.moved {P : Nat → Prop} {w w' : World} {v : Value} {l : List UInt8} (h : Bs w v l) (hm : Moved P w w') (hP : ∀ k, v.ownBlock = some k → ¬ P k) : Bs w' v l := by
  obtain ⟨ao, cap, rfl, h1, h2, h3, h4⟩ := h
  refine ⟨ao, cap, rfl, h1, h2, h3, fun ad had j u hu => ?_⟩
  have hc := h4 ad had j u hu
  subst had
  have hlt := World.block_lt_of_cell? w _ hc
  rw [block_add] at hlt
  rw [World.cell?_of_block (w := w) (hm.block _ (by rw [block_add]; exact hlt) (by rw [block_add]; exact hP _ rfl))]
  exact hc
theorem Bs.drew {w : World} {v : Value} {l : List UInt8} (h : Bs w v l) : Bs w.drew v l := h
end
section
theorem grownBy_drew {w w' : World} {row : Option Nat} (h : w.grownBy w' row) : w.grownBy w'.drew row := ⟨h.os, h.tape, h.output, h.size, h.block⟩
theorem Bs.takes {w : World} {ao : Option Addr} {cap : Nat} {l : List UInt8} (h : Bs w (.slice ao l.length cap) l) (n : Nat) (hn : n ≤ l.length) : Bs w (.slice ao n cap) (l.take n) := by
  obtain ⟨a, c, e, h1, h2, h3, h4⟩ := h
  simp only [Value.slice.injEq, true_and] at e
  obtain ⟨rfl, rfl⟩ := e
  have hlen : (l.take n).length = n := by simp; omega
  refine ⟨ao, cap, by rw [hlen], by omega, h2, h3, fun ad had j u hu => h4 ad had j u ?_⟩
  have hj : j < n := by
    have := (List.getElem?_eq_some_iff.1 hu).1
    rw [vbs_length, hlen] at this; exact this
  unfold vbs at hu ⊢
  rw [List.map_take, List.getElem?_take, if_pos hj] at hu
  exact hu
theorem Bs.drops {w : World} {ao : Option Addr} {cap : Nat} {l : List UInt8} (h : Bs w (.slice ao l.length cap) l) (n : Nat) (hn : n ≤ l.length) :
    Bs w (.slice (if cap = n then ao else Option.map (fun x => x.add n) ao) (l.length - n) (cap - n)) (l.drop n) := by
  obtain ⟨a, c, e, h1, h2, h3, h4⟩ := h
  simp only [Value.slice.injEq, true_and] at e
  obtain ⟨rfl, rfl⟩ := e
  refine ⟨_, cap - n, by rw [List.length_drop], by simp; omega, by omega, ?_, fun ad had j u hu => ?_⟩
  · intro h
    split at h
    · omega
    · cases ao with
      | none => have := h3 rfl; omega
      | some x => simp at h
  · have hj : j < l.length - n := by
      have := (List.getElem?_eq_some_iff.1 hu).1
      rw [vbs_length, List.length_drop] at this; exact this
    rw [if_neg (by omega)] at had
    cases ao with
    | none => simp at had
    | some x =>
      simp at had
      subst had
      have := h4 x rfl (n + j) u (by unfold vbs at hu ⊢; rw [List.map_drop, List.getElem?_drop] at hu; exact hu)
      rw [add_add]
      exact this
theorem ownBlock_drops (ao : Option Addr) (a b c d n : Nat) (P : Prop) [Decidable P] : (Value.slice (if P then ao else Option.map (fun x => x.add n) ao) a b).ownBlock = (Value.slice ao c d).ownBlock := by
  split
  · cases ao <;> rfl
  · cases ao <;> simp [Value.ownBlock, block_add]
/-- What End answers. -/
def endOf (l : List UInt8) (e : Int) : Int := if e = 0 ∧ l ≠ [] then 8 else e
/-- The error behind Fail. -/
def failOf (e x : Int) : Int := if e = 0 then x else e
/-- What take answers, what it leaves, and the error behind it. -/
def tookOf (l : List UInt8) (e : Int) (n : Nat) : List UInt8 := if e = 0 ∧ n ≤ l.length then l.take n else []
def leftOf (l : List UInt8) (e : Int) (n : Nat) : List UInt8 := if e = 0 ∧ n ≤ l.length then l.drop n else l
def errOf (l : List UInt8) (e : Int) (n : Nat) : Int := if e = 0 ∧ l.length < n then 7 else e
theorem num_nil : wrap64 ((num [] : Nat) : Int) = 0 := by simp [num, wrap64]
theorem num_two (p : List UInt8) (h : p.length ≤ 2) : num p < 65536 := by
  have := gnum_lt p
  have h2 : (256 : Nat) ^ p.length ≤ 256 ^ 2 := Nat.pow_le_pow_right (by decide) h
  omega
theorem grownBy_trans {a b c : World} {row : Option Nat} (h : a.grownBy b row) (k : b.grownBy c row) : a.grownBy c row :=
  ⟨k.os.trans h.os, k.tape.trans h.tape, k.output.trans h.output, Nat.le_trans h.size k.size, fun i hi hne => (k.block i (Nat.lt_of_lt_of_le hi h.size) hne).trans (h.block i hi hne)⟩
theorem tookOf_le (l : List UInt8) (e : Int) (n : Nat) : (tookOf l e n).length ≤ n := by unfold tookOf; split <;> simp <;> omega
/-- What Text answers. -/
def textOf (l : List UInt8) (e : Int) : List UInt8 := tookOf (leftOf l e 2) (errOf l e 2) (num (tookOf l e 2))
def textLeft (l : List UInt8) (e : Int) : List UInt8 := leftOf (leftOf l e 2) (errOf l e 2) (num (tookOf l e 2))
def textErr (l : List UInt8) (e : Int) : Int := errOf (leftOf l e 2) (errOf l e 2) (num (tookOf l e 2))
theorem took_ok {l : List UInt8} {n : Nat} (h : n ≤ l.length) : tookOf l 0 n = l.take n := by simp [tookOf, h]
theorem left_ok {l : List UInt8} {n : Nat} (h : n ≤ l.length) : leftOf l 0 n = l.drop n := by simp [leftOf, h]
theorem err_ok {l : List UInt8} {n : Nat} (h : n ≤ l.length) : errOf l 0 n = 0 := by simp [errOf]; omega
theorem num_one (x : Int) : wrap64 (num (le x 1)) = x % 256 := by
  rw [num_le]
  simp only [wrap64]
  omega
/-- Reading what was written at the front. -/
theorem took_front (a t : List UInt8) (n : Nat) (h : a.length = n) : tookOf (a ++ t) 0 n = a ∧ leftOf (a ++ t) 0 n = t ∧ errOf (a ++ t) 0 n = 0 := by
  have hn : n ≤ (a ++ t).length := by simp; omega
  rw [took_ok hn, left_ok hn, err_ok hn]
  subst h
  exact ⟨List.take_left, List.drop_left, rfl⟩
end
section
/-- append onto a new row, as one step of a region that draws: the bytes lie in a new block. -/
theorem step_append_bytes {ops : Array Oper} {o : Oper} {a : Act} {w : World} {K : Act → World → Prop} {Q : Exit → Act → World → Prop} {E : Prop} (hgd : o.guard = none) (s x : Operand)
    (ho : o.op = .call { callee := .builtin .append, args := #[s, x], argTypes := #[111, 111] })
    (base : Nat) (v : Value) (l : List UInt8) (hs : a.eval s = v) (hown : Own w base v l) (y : Value) (m : List UInt8) (hx : a.eval x = y) (hbs : Bs w y m)
    (hl : l.length + m.length ≤ 140737488355328) (hbase : base ≤ w.heap.size)
    (h : ∀ v' w', Own w' base v' (l ++ m) → w.grownBy w' v.ownBlock → K (a.put o.dst v') w') : if Region.wanted o (yielded ops a.tmps) = true then Oper.wp Tryz.prog o a w K Q else E := by
  have hw : Region.wanted o (yielded ops a.tmps) = true := by simp [Region.wanted, hgd]
  rw [if_pos hw]
  obtain ⟨i0, hi, hz0, hz1, hz2⟩ := info_parts Tryz.infoU8
  obtain ⟨ao, cap, rfl, h1, h2, h3, h4⟩ := hbs
  cases ao with
  | none =>
    have h0 := h3 rfl
    obtain rfl : m = [] := List.eq_nil_of_length_eq_zero (by omega)
    subst h0
    have hrun := run_append_owned_none (P := Tryz.prog) (w := w) base 111 o.type 5 i0 1 Tryz.underlying111 hi v _ _ hown
    unfold Oper.wp
    simp [execOp, ho, resolve, invoke, builtin, hs, hx, hrun, Result.andThen]
    exact h _ _ (by simpa using hown) (World.grownBy.refl _ _)
  | some ad =>
    obtain ⟨v', w', hr, ho', hg, -⟩ := run_append_own (P := Tryz.prog) w base 111 o.type 5 i0 (.int .u8 0) 1 1 Tryz.underlying111 hi hz0 hz1 hz2 rfl (by decide) v _ _ hown ad m.length cap (vbs m) (by simp [vbs]) (h4 ad rfl) (vbs_oneCell m) (by simp [maxLen]; omega) (by omega) hbase
    unfold Oper.wp
    simp [execOp, ho, resolve, invoke, builtin, hs, hx, hr, Result.andThen]
    exact h v' w' (Own.of ho' (by simp) (by rw [vbs_append])) hg
end
section
end
section
end
section
end
section
/-- A reader in block r: what is left to read, and its error. -/
def Rd (w : World) (r : Nat) (l : List UInt8) (e : Int) : Prop :=
  ∃ sv, w.cell? ⟨r, 0, none⟩ = some sv ∧ w.cell? ⟨r, 1, none⟩ = some (.int .i64 e) ∧ w.frozen? ⟨r, 0, none⟩ = false ∧ w.frozen? ⟨r, 1, none⟩ = false ∧ Bs w sv l ∧ sv.ownBlock ≠ some r
theorem Rd.lt {w : World} {r : Nat} {l : List UInt8} {e : Int} (h : Rd w r l e) : r < w.heap.size := by
  obtain ⟨sv, h0, -⟩ := h
  exact World.block_lt_of_cell? w _ h0
theorem Rd.grown {w w' : World} {r : Nat} {l : List UInt8} {e : Int} {row : Option Nat} (h : Rd w r l e) (hg : w.grownBy w' row) (hr : row ≠ some r) (hs : ∀ sv, w.cell? ⟨r, 0, none⟩ = some sv → row = none ∨ sv.ownBlock ≠ row) : Rd w' r l e := by
  have hlt := h.lt
  obtain ⟨sv, h0, h1, h2, h3, h4, h5⟩ := h
  have hb := hg.block r hlt (Ne.symm hr)
  refine ⟨sv, ?_, ?_, ?_, ?_, h4.grown hg (.inr (hs sv h0)), h5⟩
  · rw [World.cell?_of_block (w := w) hb]; exact h0
  · rw [World.cell?_of_block (w := w) hb]; exact h1
  · rw [World.frozen?_of_block (w := w) hb]; exact h2
  · rw [World.frozen?_of_block (w := w) hb]; exact h3
theorem Rd.below {w w' : World} {r : Nat} {l : List UInt8} {e : Int} (h : Rd w r l e) (hb : Below w.heap.size w w') : Rd w' r l e :=
  h.grown (Below.grownBy hb) (by simp) (fun _ _ => .inl rfl)
theorem Rd.drew {w : World} {r : Nat} {l : List UInt8} {e : Int} (h : Rd w r l e) : Rd w.drew r l e := h
theorem Rd.fails {w : World} {r : Nat} {l : List UInt8} {e : Int} (h : Rd w r l e) (x : Int) : Rd (w.setCell ⟨r, 1, none⟩ (.int .i64 x)) r l x ∧ w.grownBy (w.setCell ⟨r, 1, none⟩ (.int .i64 x)) (some r) := by
  obtain ⟨sv, h0, h1, h2, h3, hbs, h5⟩ := h
  have hg : w.grownBy (w.setCell ⟨r, 1, none⟩ (.int .i64 x)) (some r) :=
    ⟨rfl, rfl, rfl, by simp [World.setCell], fun k _ hk => Below.heap_setCell _ _ _ _ (by simpa using hk)⟩
  refine ⟨⟨sv, ?_, ?_, ?_, ?_, hbs.grown hg (.inr (.inr h5)), h5⟩, hg⟩
  · exact (World.cell?_setCell_other w _ _ _ (by simp)).trans h0
  · exact World.cell?_setCell_same w _ _ h1
  · rw [World.frozen?_setCell]; exact h2
  · rw [World.frozen?_setCell]; exact h3
theorem Rd.lefts {w : World} {r : Nat} {l m : List UInt8} {e : Int} (h : Rd w r l e) (v : Value) (hv : Bs w v m) (hne : v.ownBlock ≠ some r) : Rd (w.setCell ⟨r, 0, none⟩ v) r m e ∧ w.grownBy (w.setCell ⟨r, 0, none⟩ v) (some r) := by
  obtain ⟨sv, h0, h1, h2, h3, hbs, h5⟩ := h
  have hg : w.grownBy (w.setCell ⟨r, 0, none⟩ v) (some r) :=
    ⟨rfl, rfl, rfl, by simp [World.setCell], fun k _ hk => Below.heap_setCell _ _ _ _ (by simpa using hk)⟩
  refine ⟨⟨v, ?_, ?_, ?_, ?_, hv.grown hg (.inr (.inr hne)), hne⟩, hg⟩
  · exact World.cell?_setCell_same w _ _ h0
  · exact (World.cell?_setCell_other w _ _ _ (by simp)).trans h1
  · rw [World.frozen?_setCell]; exact h2
  · rw [World.frozen?_setCell]; exact h3
/-- The frame of take at its label, where it jumped there. -/
def AtOut (r n : Nat) (a' : Act) : Prop :=
  ∃ u6 u7 u8 u9 u10 u11 u12 u13 u14 u15 u16 u17 u18 u19 : Value, a' = { tmps := #[.pointer (some ⟨r, 0, none⟩), .int .i64 n, undef, undef, .slice none 0 0, .slice none 0 0, u6, u7, u8, u9, u10, u11, u12, u13, u14, u15, u16, u17, u18, u19, undef, undef, undef, undef, undef, undef, undef, undef, undef, undef, undef, undef, undef, undef, undef, undef], defers := [] }
end
section
variable {mB : Nat}
theorem grownBy_drewN (w : World) (n : Nat) (row : Option Nat) : w.grownBy (w.drewN n) row := ⟨rfl, rfl, rfl, Nat.le_refl _, fun _ _ _ => rfl⟩
end
end
end Go.Proofs.YtecomfhbdonkbaaGreatDoor
