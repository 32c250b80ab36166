/- Bytes, Ops, Puts, Known, Reads, Fails, Less: packages code and triadref1. -/
import Derived.Test.YtpoacgnncinmiaaProg
import Derived.WalkKit
import Derived.WalkSpells
import Derived.IntWalk
import Derived.Laws.BytesArg
import Derived.Laws.AppendOwnNone
import Derived.Lib.Hide
import Derived.Lib.AppendStr
import Derived.Lib.Strings
import Derived.Laws.Bits64
import Derived.Laws.BitsLemmas
import Derived.RegionTactic
import Derived.BigRegion
import Derived.ChangeAlike
namespace Go.Proofs.Ytpoacgnncinmiaa
open Go.RowKit
set_option maxRecDepth 100000

section
/-- A byte as a value. -/
def vb (c : UInt8) : Value := .int .u8 (c.toNat : Int)
def vbs (l : List UInt8) : List Value := l.map vb
theorem vbs_length (l : List UInt8) : (vbs l).length = l.length := by simp [vbs]
theorem vbs_append (a b : List UInt8) : vbs (a ++ b) = vbs a ++ vbs b := by simp [vbs]

/-- The byte of a number. -/
def byteOf (x : Int) : UInt8 := UInt8.ofNat (x % 256).toNat
theorem vb_byteOf (x : Int) : vb (byteOf x) = .int .u8 (x % 256) := by
  unfold vb byteOf
  congr 1
  have : (x % 256).toNat < 256 := by omega
  rw [UInt8.toNat_ofNat_of_lt' this]
  omega

/-- A slice of bytes that the call itself made, from block 'base' on: it reads as l. -/
def Own (w : World) (base : Nat) (v : Value) (l : List UInt8) : Prop := w.ownsRow base 5 1 v l.length (vbs l)
theorem Own.out {w : World} {base : Nat} {v : Value} {l : List UInt8} (h : Own w base v l) : w.ownsRow base 5 1 v l.length (vbs l) := h

theorem Own.of {w : World} {base : Nat} {v : Value} {l : List UInt8} {n : Nat} {xs : List Value} (h : w.ownsRow base 5 1 v n xs) (hn : n = l.length) (hx : xs = vbs l) : Own w base v l := by
  subst hn hx; exact h

theorem Try.infoU8 : (Try.prog.info? 5).map (fun i => (i.zero, i.size, i.bytes)) = some (some (.int .u8 0), 1, 1) := by kernel_rfl

/-- n lowest bytes of x, the lowest first. -/
def le (x : Int) (n : Nat) : List UInt8 := (List.range n).map fun i => byteOf (x / 2 ^ (8 * i))
theorem le_length (x : Int) (n : Nat) : (le x n).length = n := by simp [le]
theorem le_succ (x : Int) (n : Nat) : le x (n + 1) = le x n ++ [byteOf (x / 2 ^ (8 * n))] := by simp [le, List.range_succ]

/-- A slice of bytes that reads as l, wherever it lies. -/
def Bs (w : World) (v : Value) (l : List UInt8) : Prop :=
  ∃ ao cap, v = .slice ao l.length cap ∧ l.length ≤ cap ∧ cap ≤ maxLen ∧ (ao = none → cap = 0) ∧ ∀ ad, ao = some ad → ∀ j u, (vbs l)[j]? = some u → w.cell? (ad.add j) = some u

theorem block_add (ad : Addr) (j : Nat) : (ad.add j).block = ad.block := by
  unfold Addr.add; split <;> rfl

theorem add_add (ad : Addr) (n j : Nat) : (ad.add n).add j = ad.add (n + j) := by
  obtain ⟨b, o, s⟩ := ad
  unfold Addr.add
  by_cases hn : n = 0 <;> by_cases hj : j = 0 <;> simp [hn, hj, Nat.add_assoc]

theorem Bs.grown {w w' : World} {v : Value} {l : List UInt8} {row : Option Nat} (h : Bs w v l) (hg : w.grownBy w' row) (hne : l = [] ∨ row = none ∨ v.ownBlock ≠ row) : Bs w' v l := by
  obtain ⟨ao, cap, rfl, h1, h2, h3, h4⟩ := h
  refine ⟨ao, cap, rfl, h1, h2, h3, fun ad had j u hu => ?_⟩
  have hc := h4 ad had j u hu
  refine hg.cell hc ?_
  rw [block_add]
  rcases hne with rfl | rfl | hne
  · simp [vbs] at hu
  · simp
  · subst had; simpa [Value.ownBlock] using hne

theorem Below.grownBy {w w' : World} (h : Below w.heap.size w w') : w.grownBy w' none := ⟨h.os, h.tape, h.output, h.size, fun k hk _ => h.block k hk⟩
theorem Bs.below {w w' : World} {v : Value} {l : List UInt8} (h : Bs w v l) (hb : Below w.heap.size w w') : Bs w' v l := h.grown (Below.grownBy hb) (.inr (.inl rfl))
theorem grownBy_below {w w' : World} (h : w.grownBy w' none) : Below w.heap.size w w' := ⟨h.os, h.tape, h.output, h.size, fun k hk => h.block k hk (by simp)⟩

theorem Own.bs {w : World} {base : Nat} {v : Value} {l : List UInt8} (h : Own w base v l) : Bs w v l := by
  have hc := fun g (hg : v.ownBlock = some g) => h.out.cells hg
  rcases h.2 with ⟨rfl, hn⟩ | ⟨g, cap, cur, rfl, hb, hh, h1, h2, h3, h4⟩
  · obtain rfl : l = [] := List.eq_nil_of_length_eq_zero hn
    exact ⟨none, 0, rfl, by simp, by simp [maxLen], fun _ => rfl, fun ad h => by cases h⟩
  · refine ⟨some ⟨g, 0, none⟩, cap, rfl, h1, h2, (fun h => by cases h), fun ad had j u hu => ?_⟩
    cases had
    exact hc g rfl j u hu

theorem Own.at {w : World} {base : Nat} {v : Value} {l : List UInt8} (h : Own w base v l) (hl : 0 < l.length) :
    ∃ g cap, v = .slice (some ⟨g, 0, none⟩) l.length cap ∧ l.length ≤ cap ∧ cap ≤ maxLen ∧ base ≤ g ∧ g < w.heap.size ∧ ∀ j (hj : j < l.length), w.cell? ⟨g, j, none⟩ = some (vb l[j]) := by
  have hlt := h.out.lt
  rcases h.2 with ⟨rfl, hn⟩ | ⟨g, cap, cur, rfl, hb, hh, h1, h2, h3, h4⟩
  · omega
  · refine ⟨g, cap, rfl, h1, h2, hb, (hlt g rfl).2, fun j hj => ?_⟩
    rw [h.out.cellAt j (by omega)]
    simp [vbs, hj]

theorem Bs.at {w : World} {v : Value} {l : List UInt8} (h : Bs w v l) (hl : 0 < l.length) :
    ∃ b off cap, v = .slice (some ⟨b, off, none⟩) l.length cap ∧ l.length ≤ cap ∧ cap ≤ maxLen ∧ ∀ j (hj : j < l.length), w.cell? ⟨b, off + j, none⟩ = some (vb l[j]) := by
  obtain ⟨ao, cap, rfl, h1, h2, h3, h4⟩ := h
  cases ao with
  | none => have := h3 rfl; omega
  | some ad =>
    obtain ⟨b, off, spot⟩ := ad
    have key : ∀ j (hj : j < l.length), w.cell? ((⟨b, off, spot⟩ : Addr).add j) = some (vb l[j]) := fun j hj => h4 _ rfl j _ (by simp [vbs, hj])
    have hs : spot = none := by simpa [Addr.add] using World.cell?_spot (key 0 hl)
    subst hs
    refine ⟨b, off, cap, rfl, h1, h2, fun j hj => ?_⟩
    have := key j hj
    rwa [Addr.add_lit] at this

/-- The number that bytes say, the lowest first. -/
def num : List UInt8 → Nat
  | [] => 0
  | c :: t => c.toNat + 256 * num t
theorem num_lt : ∀ l : List UInt8, num l < 256 ^ l.length
  | [] => by simp [num]
  | c :: t => by
    have := num_lt t
    have hc : c.toNat < 256 := c.toNat_lt
    simp only [num, List.length_cons, Nat.pow_succ]
    omega
theorem num_snoc : ∀ (l : List UInt8) (c : UInt8), num (l ++ [c]) = num l + c.toNat * 256 ^ l.length
  | [], c => by simp [num]
  | d :: t, c => by
    have := num_snoc t c
    simp only [num, List.cons_append, List.length_cons, Nat.pow_succ, this, Nat.mul_add]
    rw [Nat.add_assoc]
    congr 2
    rw [Nat.mul_left_comm, Nat.mul_comm 256]

theorem wraps_u64 (n : Int) (h₀ : 0 ≤ n) (h₁ : n < 2 ^ 64) : IntKind.u64.wrap n = n := by rw [IntKind.wrap_u64]; omega
theorem or_byte (N c k : Nat) (hk : k < 8) (hN : N < 256 ^ k) (hc : c < 256) : bits .or .u64 (N : Int) (IntKind.u64.wrap ((c : Int) * 2 ^ (8 * k))) = ((N + c * 256 ^ k : Nat) : Int) := by
  have e : (256 : Nat) ^ k = 2 ^ (8 * k) := by rw [Nat.pow_mul]
  rw [e] at hN ⊢
  have h1 : c * 2 ^ (8 * k) < 2 ^ (8 + 8 * k) := by rw [Nat.pow_add]; exact Nat.mul_lt_mul_of_pos_right hc (Nat.two_pow_pos _)
  have h2 : 2 ^ (8 + 8 * k) ≤ 2 ^ 64 := Nat.pow_le_pow_right (by decide) (by omega)
  have h3 : 2 ^ (8 * k) ≤ 2 ^ 64 := Nat.pow_le_pow_right (by decide) (by omega)
  have hw : IntKind.u64.wrap ((c : Int) * 2 ^ (8 * k)) = ((c * 2 ^ (8 * k) : Nat) : Int) := by
    have : ((c : Int) * 2 ^ (8 * k)) = ((c * 2 ^ (8 * k) : Nat) : Int) := by simp
    rw [this]
    exact wraps_u64 _ (Int.natCast_nonneg _) (by exact_mod_cast Nat.lt_of_lt_of_le h1 h2)
  rw [hw, (bits_nat .u64 64 (Nat.le_refl _) wraps_u64 N _ (Nat.lt_of_lt_of_le hN h3) (Nat.lt_of_lt_of_le h1 h2)).2]
  rw [Nat.or_comm, Nat.mul_comm c, ← Nat.two_pow_add_eq_or_of_lt hN c, Nat.add_comm]

theorem Bs.nil (w : World) : Bs w (.slice none 0 0) [] := ⟨none, 0, rfl, by simp, by simp [maxLen], fun _ => rfl, fun ad h => by cases h⟩

theorem strCells_vbs (s : ByteArray) : Lib.strCells s = vbs s.data.toList := rfl

/-- A text as bytes: its length in two, and they; of a longer one the first 65535. -/
def tx (s : ByteArray) : List UInt8 := le (min s.size 65535) 2 ++ s.data.toList.take 65535

theorem vbs_oneCell (l : List UInt8) : ∀ u ∈ vbs l, u.oneCell' = true := by
  intro u hu
  obtain ⟨_, _, rfl⟩ := List.mem_map.1 hu
  rfl
end

section
theorem run_conv_bytes {w : World} {v : Value} {l : List UInt8} (h : Bs w v l) : (convert 31 9 v).run Try.prog w = .ok (.string ⟨l.toArray⟩) w := by
  obtain ⟨ao, cap, rfl, h1, h2, h3, h4⟩ := h
  cases ao with
  | none =>
    have h0 := h3 rfl
    obtain rfl : l = [] := List.eq_nil_of_length_eq_zero (by omega)
    exact run_convert_bytes_nil w 31 5 Try.underlying31 Try.underlying5 _ _ 9 Try.underlying9
  | some ad =>
    have e : vbs l = (l.map fun c => (c.toNat : Int)).map (Value.int .u8) := by simp [vbs, vb, Function.comp_def]
    have hl : (loadCells ad l.length).run Try.prog w = .ok ((l.map fun c => (c.toNat : Int)).map (Value.int .u8)).toArray w := by
      have := run_loadCells_list (P := Try.prog) w ad (vbs l) (h4 ad rfl)
      rw [vbs_length, e] at this
      exact this
    rw [run_convert_bytes_string w 31 9 5 _ _ cap Try.underlying31 Try.underlying5 Try.underlying9, run_bytesToString w _ _ cap _ hl, foldl_push_bytes]
    simp [Function.comp_def]

/-- string(b) -/
theorem wpList_conv {w : World} {ops : Array Oper} {rest : List Oper} {o : Oper} {a : Act} {Q : Exit → Act → World → Prop} (hgd : o.guard = none) (x : Operand) (hop : o.op = Op.convert 31 9 x)
    (v : Value) (l : List UInt8) (hx : a.eval x = v) (hbs : Bs w v l) (h : wpList Try.prog ops Q rest (a.put o.dst (.string ⟨l.toArray⟩)) w) : wpList Try.prog ops Q (o :: rest) a w := by
  refine wpList_plain hgd fun K hK => ?_
  unfold Oper.wp
  simp [execOp, hop, hx, run_conv_bytes hbs, Result.andThen]
  exact hK _ _ h

/-- append(x, y...) onto a slice of the call's own, y whatever. -/
theorem wpList_append_bytes {w : World} {ops : Array Oper} {rest : List Oper} {o : Oper} {a : Act} {Q : Exit → Act → World → Prop} (hgd : o.guard = none) (s x : Operand)
    (ho : o.op = .call { callee := .builtin .append, args := #[s, x], argTypes := #[31, 31] })
    (base : Nat) (v : Value) (l : List UInt8) (hs : a.eval s = v) (hown : Own w base v l) (y : Value) (m : List UInt8) (hx : a.eval x = y) (hbs : Bs w y m)
    (hl : l.length + m.length ≤ 140737488355328) (hbase : base ≤ w.heap.size)
    (h : ∀ v' w', Own w' base v' (l ++ m) → w.grownBy w' v.ownBlock → wpList Try.prog ops Q rest (a.put o.dst v') w') : wpList Try.prog ops Q (o :: rest) a w := by
  obtain ⟨i0, hi, hz0, hz1, hz2⟩ := info_parts Try.infoU8
  obtain ⟨ao, cap, rfl, h1, h2, h3, h4⟩ := hbs
  cases ao with
  | none =>
    have h0 := h3 rfl
    obtain rfl : m = [] := List.eq_nil_of_length_eq_zero (by omega)
    subst h0
    refine wpList_append_own_none hgd s x _ ho base 5 i0 1 Try.underlying31 hi v _ _ hs hown hx (h v w (by simpa using hown) (World.grownBy.refl _ _))
  | some ad =>
    refine wpList_append_own w hgd s x _ ho base 5 i0 (.int .u8 0) 1 1 Try.underlying31 hi hz0 hz1 hz2 rfl (by decide) v _ _ hs hown ad m.length cap (vbs m) hx (by simp [vbs]) (h4 ad rfl) (vbs_oneCell m) (by simp [maxLen]; omega) (by omega) hbase ?_
    intro v' w' ho' hg _
    exact h v' w' (Own.of ho' (by simp) (by rw [vbs_append])) hg

theorem Own.empty (w : World) (base : Nat) (hb : base ≤ w.heap.size) : Own (w.alloc (.cells #[] 5)) base (.slice (some ⟨w.heap.size, 0, none⟩) 0 0) [] :=
  World.ownsRow_lit w #[] 0 hb (by simp [maxLen]) rfl

theorem Own.one (w : World) (base : Nat) (hb : base ≤ w.heap.size) (c : UInt8) (v : Value) (hv : v = vb c) : Own (w.alloc (.cells #[v] 5)) base (.slice (some ⟨w.heap.size, 0, none⟩) 1 1) [c] := by
  subst hv
  exact World.ownsRow_lit w #[vb c] 1 hb (by simp [maxLen]) rfl
theorem Own.two (w : World) (base : Nat) (hb : base ≤ w.heap.size) (c d : UInt8) (v x : Value) (hv : v = vb c) (hx : x = vb d) : Own (w.alloc (.cells #[v, x] 5)) base (.slice (some ⟨w.heap.size, 0, none⟩) 2 2) [c, d] := by
  subst hv hx
  exact World.ownsRow_lit w #[vb c, vb d] 2 hb (by simp [maxLen]) rfl

theorem Bs.one (w : World) (c : UInt8) (v : Value) (hv : v = vb c) : Bs (w.alloc (.cells #[v] 5)) (.slice (some ⟨w.heap.size, 0, none⟩) 1 1) [c] := by
  subst hv
  refine ⟨some ⟨w.heap.size, 0, none⟩, 1, rfl, by simp, by simp [maxLen], (fun h => by cases h), fun ad had j u hu => ?_⟩
  cases had
  match j, hu with
  | 0, hu => simp [vbs] at hu; subst hu; simp [Addr.add]

theorem Bs.two (w : World) (c d : UInt8) (v x : Value) (hv : v = vb c) (hx : x = vb d) : Bs (w.alloc (.cells #[v, x] 5)) (.slice (some ⟨w.heap.size, 0, none⟩) 2 2) [c, d] := by
  subst hv hx
  refine ⟨some ⟨w.heap.size, 0, none⟩, 2, rfl, by simp, by simp [maxLen], (fun h => by cases h), fun ad had j u hu => ?_⟩
  cases had
  match j, hu with
  | 0, hu => simp [vbs] at hu; subst hu; simp [Addr.add]
  | 1, hu => simp [vbs] at hu; subst hu; simp [Addr.add]

theorem Own.mono {w : World} {base base' : Nat} {v : Value} {l : List UInt8} (h : Own w base v l) (hb : base' ≤ base) : Own w base' v l := by
  refine ⟨h.1, ?_⟩
  rcases h.2 with h2 | ⟨g, cap, cur, rfl, h1, h2⟩
  · exact .inl h2
  · exact .inr ⟨g, cap, cur, rfl, by omega, h2⟩
theorem Own.below {w w' : World} {base : Nat} {v : Value} {l : List UInt8} (h : Own w base v l) (hb : Below w.heap.size w w') : Own w' base v l :=
  World.ownsRow.kept h (Below.grownBy hb) (by cases hv : v.ownBlock <;> simp)
/-- what a step that writes to the slice's own row and to new blocks leaves of what was there -/
theorem Own.step {w0 w w' : World} {B base : Nat} {v : Value} {l : List UInt8} (h : Own w base v l) (hb : Below B w0 w) (hg : w.grownBy w' v.ownBlock) (h1 : B ≤ base) (h2 : B ≤ w.heap.size) : Below B w0 w' :=
  hb.grown hg h2 (fun q hq => Nat.le_trans h1 (h.out.lt q hq).1)

theorem Own.alloc {w : World} {base : Nat} {v : Value} {l : List UInt8} (h : Own w base v l) (o : Obj) : Own (w.alloc o) base v l := World.ownsRow.alloc h o

/-- What came in as a slice of bytes. -/
theorem Bs.of_row {w : World} {a : Option Addr} {len cap : Nat} {zs : List Int}
    (h : (a = none ∧ len = 0 ∧ cap = 0 ∧ zs = []) ∨ ∃ x, a = some x ∧ len ≤ cap ∧ cap ≤ maxLen ∧ zs.length = cap ∧ (∀ i, i < zs.length → w.cell? (x.add i) = some (.int .u8 (zs.getD i 0))) ∧ ∀ n ∈ zs, (Lit.int .u8 n).wf = true) :
    ∃ l : List UInt8, l.length = len ∧ Bs w (.slice a len cap) l := by
  rcases h with ⟨rfl, rfl, rfl, rfl⟩ | ⟨x, rfl, hl, hm, hz, hc, hw⟩
  · exact ⟨[], rfl, Bs.nil w⟩
  · have hlen : ((zs.take len).map fun z => UInt8.ofNat z.toNat).length = len := by simp; omega
    refine ⟨(zs.take len).map fun z => UInt8.ofNat z.toNat, hlen, some x, cap, by rw [hlen], by omega, hm, (fun h => by cases h), fun ad had j u hu => ?_⟩
    cases had
    have hj : j < len := by
      have := (List.getElem?_eq_some_iff.1 hu).1
      rw [vbs_length, hlen] at this; exact this
    rw [hc j (by omega)]
    have hjz : j < zs.length := by omega
    have hwf := hw zs[j] (List.getElem_mem _)
    have hr : 0 ≤ zs[j] ∧ zs[j] < 256 := by
      simp [Lit.wf, IntKind.min, IntKind.max, IntKind.signed, IntKind.bits] at hwf
      omega
    simp [vbs, hj, hjz] at hu
    rw [← hu]
    have : zs[j].toNat < 256 := by omega
    simp [vb, List.getD, hjz, UInt8.toNat_ofNat_of_lt' this]
    omega
end

section
set_option maxHeartbeats 400000 in
theorem little_any (base : Nat) (v : Value) (l : List UInt8) (x : Int) (n : Nat) (hn : n ≤ 8) (hl : l.length ≤ 1099511627776) (w : World) (hb : base ≤ w.heap.size) (hown : Own w base v l) :
    Calls Try.prog 65 #[v, .int .i64 x, .int .i64 n] w fun e w' => ∃ v', e = .returned v' ∧ Own w' base v' (l ++ le x n) ∧ Below base w w' := by
  obtain ⟨i0, hi, hz0, hz1, hz2⟩ := info_parts Try.infoU8
  go_enter Try.func65, Try.ntmps65
  go_wp2
  go_loopw [0, 7, 9] (fun b _ i wr => ∃ k : Nat, k ≤ n ∧ i = .int .i64 k ∧ Own wr base b (l ++ le x k) ∧ Below base w wr) (fun _ _ i _ => n - (intOf i).toNat)
  case atStart => exact ⟨0, Nat.zero_le _, rfl, by simpa [le] using hown, Below.refl _ _⟩
  case round =>
    obtain ⟨k, hk, rfl, hown1, hbel⟩ := hrel
    have hsz := hbel.size
    by_cases hlt : k < n
    · go_wp2_with (at_builtin; refine wpList_append_own _ rfl _ _ 31 rfl base 5 i0 (.int .u8 0) 1 1 Try.underlying31 hi hz0 hz1 hz2 rfl (by decide) _ _ _ rfl (hown1.out.alloc _) ⟨wr.heap.size, 0, none⟩ 1 1 [.int .u8 (x / 2 ^ (8 * k) % 256)] rfl rfl ?c1 ?c2 ?c3 ?c4 ?c5 ?_)
      case c1 => intro j u hj; match j, hj with | 0, hj => simp at hj; subst hj; simp [Addr.add]
      case c2 => intro u hu; simp at hu; subst hu; rfl
      case c3 => have := le_length x k; simp [maxLen]; omega
      case c4 => have := le_length x k; simp; omega
      case c5 => simp; omega
      intro v' w1 hown' hgrow _
      have hb1 : Below base w w1 := (hbel.alloc (by omega) _).grown hgrow (by simp; omega) (fun q hq => (hown1.out.lt q hq).1)
      have ho1 : Own w1 base v' (l ++ le x (k + 1)) := by
        rw [le_succ, ← List.append_assoc]
        unfold Own
        rw [vbs_append, List.length_append]
        simpa [vbs, vb_byteOf] using hown'
      clear hown' hgrow hown1 hbel hown
      go_wp2
      go_roundw
      case rel => exact ⟨k + 1, by omega, by go_num, ho1, hb1⟩
      case measure => simp [intOf]; omega
    · obtain rfl : k = n := by omega
      go_wp2
      go_ret
      exact ⟨_, rfl, hown1, hbel⟩

set_option maxHeartbeats 400000 in
theorem behind_any (v : Value) (l : List UInt8) (x : Int) (hx : 0 ≤ x) (hx' : x ≤ 1099511627776) (hl : l.length ≤ 1099511627776) (w : World) (hbs : Bs w v l) :
    Calls Try.prog 66 #[v, .int .i64 x] w fun e w' => ∃ v', e = .returned v' ∧ Own w' w.heap.size v' l ∧ Below w.heap.size w w' := by
  obtain ⟨i0, hi, hz0, hz1, hz2⟩ := info_parts Try.infoU8
  obtain ⟨n, rfl⟩ := Int.eq_ofNat_of_zero_le hx
  obtain ⟨ao, cap, rfl, h1, h2, h3, h4⟩ := hbs
  go_enter Try.func66, Try.ntmps66
  go_wp2_with (at_make; refine wpList_make_own _ rfl _ _ 31 rfl w.heap.size 5 i0 (.int .u8 0) 1 Try.underlying31 hi hz0 hz1 _ _ _ (l.length + n) rfl rfl (by omega) ?b1 ?b2 ?b3 ?_)
  case b1 => rw [hz2]; omega
  case b2 => simp [maxLen]; omega
  case b3 => omega
  intro w1 hown hgrow
  have hc : ∀ ad, ao = some ad → ∀ j u, (vbs l)[j]? = some u → w1.cell? (ad.add j) = some u := fun ad had j u hu => hgrow.cell (h4 ad had j u hu) (by simp)
  go_wp2_with (at_builtin; refine wpList_append_fits_any _ rfl _ _ 31 rfl w.heap.size 5 i0 1 Try.underlying31 hi hz1 w.heap.size 0 (l.length + n) [] rfl hown ao l.length cap (vbs l) rfl (by simp [vbs]) ?d1 hc (vbs_oneCell l) (by omega) ?_)
  case d1 => intro h; have := h3 h; omega
  intro w2 hown2 hgrow2
  have hb : Below w.heap.size w w2 := (grownBy_below hgrow).grown hgrow2 hgrow.size (by simp)
  have ho : Own w2 w.heap.size (.slice (some ⟨w.heap.size, 0, none⟩) l.length (l.length + n)) l := by unfold Own; simpa using hown2
  clear hown hgrow hown2 hgrow2 hc h4
  go_wp2
  go_ret
  exact ⟨_, rfl, by simpa using ho, hb⟩

theorem little_at (base : Nat) (v : Value) (l : List UInt8) (x m : Int) (n : Nat) (hm : m = n) (hn : n ≤ 8) (hl : l.length ≤ 1099511627776) (w : World) (hb : base ≤ w.heap.size) (hown : Own w base v l) :
    Calls Try.prog 65 #[v, .int .i64 x, .int .i64 m] w fun e w' => ∃ v', e = .returned v' ∧ Own w' base v' (l ++ le x n) ∧ Below base w w' := by
  subst hm; exact little_any base v l x n hn hl w hb hown

theorem byte_any (v : Value) (l : List UInt8) (x : Int) (hl : l.length ≤ 1099511627776) (w : World) (hbs : Bs w v l) :
    Calls Try.prog 36 #[v, .int .i64 x] w fun e w' => ∃ v', e = .returned v' ∧ Own w' w.heap.size v' (l ++ le x 1) ∧ Below w.heap.size w w' := by
  go_enter Try.func36, Try.ntmps36
  go_wp2_with fail
  refine (behind_any v l 1 (by omega) (by omega) hl _ hbs).mono ?_
  rintro e w1 ⟨v1, rfl, ho1, hb1⟩
  have hs1 := hb1.size
  go_wp2_with fail
  refine (little_at w.heap.size v1 l x 1 1 rfl (by omega) hl w1 hs1 ho1).mono ?_
  rintro e w2 ⟨v2, rfl, ho2, hb2⟩
  go_wp2
  go_ret
  exact ⟨_, rfl, ho2, hb1.trans hb2⟩

theorem tx_length (s : ByteArray) : (tx s).length = 2 + min s.size 65535 := by
  have : s.data.toList.length = s.size := by rw [Array.length_toList]; rfl
  unfold tx
  rw [List.length_append, le_length, List.length_take, this]
  omega

theorem text_core (v : Value) (l : List UInt8) (s s' : ByteArray) (hs : s'.size ≤ 65535) (hl : l.length ≤ 1073741824) (w : World) (hbs : Bs w v l) (hcut : s'.size = min s.size 65535) (hext : s.extract 0 (min s.size 65535) = s') :
    Calls Try.prog 35 #[v, .string s] w fun e w' => ∃ v', e = .returned v' ∧ Own w' w.heap.size v' (l ++ (le s'.size 2 ++ s'.data.toList)) ∧ Below w.heap.size w w' := by
  obtain ⟨i0, hi, hz0, hz1, hz2⟩ := info_parts Try.infoU8
  by_cases hle : s.size ≤ 65535
  · have hm : min s.size 65535 = s.size := by omega
    rw [hm] at hcut hext
    have he : s.extract 0 s.size = s := by simp
    obtain rfl : s = s' := he.symm.trans hext
    clear he hext hcut hm
    go_enter Try.func35, Try.ntmps35
    go_wp2_with fail
    refine (behind_any v l _ (by omega) (by omega) (by omega) _ hbs).mono ?_
    rintro e w1 ⟨v1, rfl, ho1, hb1⟩
    have hs1 := hb1.size
    go_wp2_with fail
    refine (little_at w.heap.size v1 l _ 2 2 rfl (by omega) (by omega) w1 hs1 ho1).mono ?_
    rintro e w2 ⟨v2, rfl, ho2, hb2⟩
    have hs2 := hb2.size
    have hll := le_length s.size 2
    go_wp2_with (at_builtin; refine Lib.wpList_append_own_string _ rfl _ _ 31 9 rfl w.heap.size 5 i0 Try.underlying31 Try.underlying9 hi hz0 hz1 hz2 _ _ _ rfl ho2.out _ rfl ?c1 ?c2 ?c3 ?_)
    case c1 => simp [maxLen]; omega
    case c2 => simp; omega
    case c3 => omega
    intro v3 w3 ho3 hg3 _
    have hb3 : Below w.heap.size w w3 := (hb1.trans hb2).grown hg3 (by omega) (fun q hq => (ho2.out.lt q hq).1)
    have ho3' : Own w3 w.heap.size v3 (l ++ (le s.size 2 ++ s.data.toList)) := Own.of ho3 (by simp [le_length]; omega) (by rw [strCells_vbs, ← vbs_append, List.append_assoc])
    clear ho3 hg3 ho2 ho1 hb1 hb2
    go_wp2
    go_ret
    exact ⟨_, rfl, ho3', hb3⟩
  · have hm : min s.size 65535 = 65535 := by omega
    rw [hm] at hcut hext
    have hgt : (65535 : Int) < (s.size : Int) := by omega
    go_enter Try.func35, Try.ntmps35
    go_wp2_with fail
    refine (behind_any v l _ (by omega) (by omega) (by omega) _ hbs).mono ?_
    rintro e w1 ⟨v1, rfl, ho1, hb1⟩
    have hs1 := hb1.size
    go_wp2_with fail
    refine (little_at w.heap.size v1 l _ 2 2 rfl (by omega) (by omega) w1 hs1 ho1).mono ?_
    rintro e w2 ⟨v2, rfl, ho2, hb2⟩
    have hs2 := hb2.size
    have hll := le_length 65535 2
    go_wp2_with (at_builtin; refine Lib.wpList_append_own_string _ rfl _ _ 31 9 rfl w.heap.size 5 i0 Try.underlying31 Try.underlying9 hi hz0 hz1 hz2 _ _ _ rfl ho2.out _ rfl ?d1 ?d2 ?d3 ?_)
    case d1 => simp [maxLen]; omega
    case d2 => simp; omega
    case d3 => omega
    intro v3 w3 ho3 hg3 _
    have hb3 : Below w.heap.size w w3 := (hb1.trans hb2).grown hg3 (by omega) (fun q hq => (ho2.out.lt q hq).1)
    have ho3' : Own w3 w.heap.size v3 (l ++ (le s'.size 2 ++ s'.data.toList)) := Own.of ho3 (by simp [le_length]; omega) (by rw [strCells_vbs, ← vbs_append, List.append_assoc, hcut]; rfl)
    clear ho3 hg3 ho2 ho1 hb1 hb2
    go_wp2
    go_ret
    exact ⟨_, rfl, ho3', hb3⟩

theorem text_any (v : Value) (l : List UInt8) (s : ByteArray) (hl : l.length ≤ 1073741824) (w : World) (hbs : Bs w v l) :
    Calls Try.prog 35 #[v, .string s] w fun e w' => ∃ v', e = .returned v' ∧ Own w' w.heap.size v' (l ++ tx s) ∧ Below w.heap.size w w' := by
  have hsz : (s.extract 0 (min s.size 65535)).size = min s.size 65535 := by simp
  have h := text_core v l s _ (by omega) hl w hbs hsz rfl
  have e : le ((s.extract 0 (min s.size 65535)).size : Int) 2 ++ (s.extract 0 (min s.size 65535)).data.toList = tx s := by
    unfold tx
    rw [hsz]
    congr 1
    · congr 1; omega
    · rw [Lib.extract_data, List.drop_zero, List.take_eq_take_iff]
      have : s.data.toList.length = s.size := by rw [Array.length_toList]; rfl
      omega
  rw [e] at h
  exact h
end

section
theorem le_m2 : le (-2) 8 = [254, 255, 255, 255, 255, 255, 255, 255] := by decide

theorem tx_ab : tx ⟨#[97, 98]⟩ = [2, 0, 97, 98] := by decide

theorem ret_int {k : IntKind} {a b : Int} (h : a = b) : Ending.returned (.int k a) = .returned (.int k b) := by rw [h]
end

section
/-- A reader in block r: what is left to read, and its error. -/
def Rd (w : World) (r : Nat) (l : List UInt8) (e : Int) : Prop :=
  ∃ sv, w.cell? ⟨r, 0, none⟩ = some sv ∧ w.cell? ⟨r, 1, none⟩ = some (.int .i64 e) ∧ w.frozen? ⟨r, 0, none⟩ = false ∧ w.frozen? ⟨r, 1, none⟩ = false ∧ Bs w sv l ∧ sv.ownBlock ≠ some r

theorem Rd.lt {w : World} {r : Nat} {l : List UInt8} {e : Int} (h : Rd w r l e) : r < w.heap.size := by
  obtain ⟨sv, h0, -⟩ := h
  exact World.block_lt_of_cell? w _ h0

theorem Rd.grown {w w' : World} {r : Nat} {l : List UInt8} {e : Int} {row : Option Nat} (h : Rd w r l e) (hg : w.grownBy w' row) (hr : row ≠ some r) (hs : ∀ sv, w.cell? ⟨r, 0, none⟩ = some sv → row = none ∨ sv.ownBlock ≠ row) : Rd w' r l e := by
  have hlt := h.lt
  obtain ⟨sv, h0, h1, h2, h3, h4, h5⟩ := h
  have hb := hg.block r hlt (Ne.symm hr)
  refine ⟨sv, ?_, ?_, ?_, ?_, h4.grown hg (.inr (hs sv h0)), h5⟩
  · rw [World.cell?_of_block (w := w) hb]; exact h0
  · rw [World.cell?_of_block (w := w) hb]; exact h1
  · rw [World.frozen?_of_block (w := w) hb]; exact h2
  · rw [World.frozen?_of_block (w := w) hb]; exact h3
theorem Rd.below {w w' : World} {r : Nat} {l : List UInt8} {e : Int} (h : Rd w r l e) (hb : Below w.heap.size w w') : Rd w' r l e :=
  h.grown (Below.grownBy hb) (by simp) (fun _ _ => .inl rfl)

theorem Bs.drew {w : World} {v : Value} {l : List UInt8} (h : Bs w v l) : Bs w.drew v l := h
theorem Rd.drew {w : World} {r : Nat} {l : List UInt8} {e : Int} (h : Rd w r l e) : Rd w.drew r l e := h
theorem grownBy_drew {w w' : World} {row : Option Nat} (h : w.grownBy w' row) : w.grownBy w'.drew row := ⟨h.os, h.tape, h.output, h.size, h.block⟩

theorem Bs.takes {w : World} {ao : Option Addr} {cap : Nat} {l : List UInt8} (h : Bs w (.slice ao l.length cap) l) (n : Nat) (hn : n ≤ l.length) : Bs w (.slice ao n cap) (l.take n) := by
  obtain ⟨a, c, e, h1, h2, h3, h4⟩ := h
  simp only [Value.slice.injEq, true_and] at e
  obtain ⟨rfl, rfl⟩ := e
  have hlen : (l.take n).length = n := by simp; omega
  refine ⟨ao, cap, by rw [hlen], by omega, h2, h3, fun ad had j u hu => h4 ad had j u ?_⟩
  have hj : j < n := by
    have := (List.getElem?_eq_some_iff.1 hu).1
    rw [vbs_length, hlen] at this; exact this
  unfold vbs at hu ⊢
  rw [List.map_take, List.getElem?_take, if_pos hj] at hu
  exact hu

theorem Bs.drops {w : World} {ao : Option Addr} {cap : Nat} {l : List UInt8} (h : Bs w (.slice ao l.length cap) l) (n : Nat) (hn : n ≤ l.length) :
    Bs w (.slice (if cap = n then ao else Option.map (fun x => x.add n) ao) (l.length - n) (cap - n)) (l.drop n) := by
  obtain ⟨a, c, e, h1, h2, h3, h4⟩ := h
  simp only [Value.slice.injEq, true_and] at e
  obtain ⟨rfl, rfl⟩ := e
  refine ⟨_, cap - n, by rw [List.length_drop], by simp; omega, by omega, ?_, fun ad had j u hu => ?_⟩
  · intro h
    split at h
    · omega
    · cases ao with
      | none => have := h3 rfl; omega
      | some x => simp at h
  · have hj : j < l.length - n := by
      have := (List.getElem?_eq_some_iff.1 hu).1
      rw [vbs_length, List.length_drop] at this; exact this
    rw [if_neg (by omega)] at had
    cases ao with
    | none => simp at had
    | some x =>
      simp at had
      subst had
      have := h4 x rfl (n + j) u (by unfold vbs at hu ⊢; rw [List.map_drop, List.getElem?_drop] at hu; exact hu)
      rw [add_add]
      exact this

theorem ownBlock_drops (ao : Option Addr) (a b c d n : Nat) (P : Prop) [Decidable P] : (Value.slice (if P then ao else Option.map (fun x => x.add n) ao) a b).ownBlock = (Value.slice ao c d).ownBlock := by
  split
  · cases ao <;> rfl
  · cases ao <;> simp [Value.ownBlock, block_add]

theorem new_any (v : Value) (l : List UInt8) (hl : l.length ≤ 1099511627776) (w : World) (hbs : Bs w v l) :
    Calls Try.prog 37 #[v] w fun e w' => ∃ r, e = .returned (.pointer (some ⟨r, 0, none⟩)) ∧ Rd w' r l 0 ∧ w.heap.size ≤ r ∧ Below w.heap.size w w' := by
  go_enter Try.func37, Try.ntmps37
  go_wp2_with fail
  refine (behind_any v l 0 (by omega) (by omega) hl _ hbs).mono ?_
  rintro e w1 ⟨v1, rfl, ho1, hb1⟩
  have hs1 := hb1.size
  obtain ⟨ao1, cap1, hv1, -⟩ := ho1.bs
  subst hv1
  go_wp2
  go_ret
  have hne : (Value.slice ao1 l.length cap1).ownBlock ≠ some w1.heap.size := by
    intro h
    have := (ho1.out.lt _ h).2
    omega
  have hb2 : Below w1.heap.size w1 (w1.alloc (.cells #[.slice ao1 l.length cap1, .int .i64 0] 74)) := (Below.refl _ _).alloc (Nat.le_refl _) _
  refine ⟨w1.heap.size, rfl, ⟨_, ?_, ?_, ?_, ?_, ho1.bs.below hb2, hne⟩, hs1, hb1.alloc hs1 _⟩
  all_goals simp

/-- What End answers. -/
def endOf (l : List UInt8) (e : Int) : Int := if e = 0 ∧ l ≠ [] then 8 else e

theorem end_any (r : Nat) (l : List UInt8) (e : Int) (w : World) (h : Rd w r l e) :
    Calls Try.prog 40 #[.pointer (some ⟨r, 0, none⟩)] w fun en w' => en = .returned (.int .i64 (endOf l e)) ∧ w = w' := by
  obtain ⟨sv, h0, h1, h2, h3, ⟨ao, cap, rfl, g1, g2, g3, g4⟩, h5⟩ := h
  clear g4 g3
  by_cases he : e = 0
  · subst he
    by_cases hl : l = []
    · subst hl
      go_enter Try.func40, Try.ntmps40
      go_wp2
      go_ret
      exact ⟨by simp [endOf], rfl⟩
    · have hp : (0 : Int) < l.length := by have := List.length_pos_iff.2 hl; omega
      go_enter Try.func40, Try.ntmps40
      go_wp2
      go_ret
      exact ⟨by simp [endOf, hl], rfl⟩
  · have hb : (e == 0) = false := by simpa using he
    go_enter Try.func40, Try.ntmps40
    go_wp2
    go_ret
    exact ⟨by simp [endOf, he], rfl⟩

/-- The error behind Fail. -/
def failOf (e x : Int) : Int := if e = 0 then x else e

theorem Rd.fails {w : World} {r : Nat} {l : List UInt8} {e : Int} (h : Rd w r l e) (x : Int) : Rd (w.setCell ⟨r, 1, none⟩ (.int .i64 x)) r l x ∧ w.grownBy (w.setCell ⟨r, 1, none⟩ (.int .i64 x)) (some r) := by
  obtain ⟨sv, h0, h1, h2, h3, hbs, h5⟩ := h
  have hg : w.grownBy (w.setCell ⟨r, 1, none⟩ (.int .i64 x)) (some r) :=
    ⟨rfl, rfl, rfl, by simp [World.setCell], fun k _ hk => Below.heap_setCell _ _ _ _ (by simpa using hk)⟩
  refine ⟨⟨sv, ?_, ?_, ?_, ?_, hbs.grown hg (.inr (.inr h5)), h5⟩, hg⟩
  · exact (World.cell?_setCell_other w _ _ _ (by simp)).trans h0
  · exact World.cell?_setCell_same w _ _ h1
  · rw [World.frozen?_setCell]; exact h2
  · rw [World.frozen?_setCell]; exact h3

theorem Rd.lefts {w : World} {r : Nat} {l m : List UInt8} {e : Int} (h : Rd w r l e) (v : Value) (hv : Bs w v m) (hne : v.ownBlock ≠ some r) : Rd (w.setCell ⟨r, 0, none⟩ v) r m e ∧ w.grownBy (w.setCell ⟨r, 0, none⟩ v) (some r) := by
  obtain ⟨sv, h0, h1, h2, h3, hbs, h5⟩ := h
  have hg : w.grownBy (w.setCell ⟨r, 0, none⟩ v) (some r) :=
    ⟨rfl, rfl, rfl, by simp [World.setCell], fun k _ hk => Below.heap_setCell _ _ _ _ (by simpa using hk)⟩
  refine ⟨⟨v, ?_, ?_, ?_, ?_, hv.grown hg (.inr (.inr hne)), hne⟩, hg⟩
  · exact World.cell?_setCell_same w _ _ h0
  · exact (World.cell?_setCell_other w _ _ _ (by simp)).trans h1
  · rw [World.frozen?_setCell]; exact h2
  · rw [World.frozen?_setCell]; exact h3

theorem fail_any (r : Nat) (l : List UInt8) (e x : Int) (w : World) (h : Rd w r l e) :
    Calls Try.prog 75 #[.pointer (some ⟨r, 0, none⟩), .int .i64 x] w fun en w' => en = .returned (.tuple #[]) ∧ Rd w' r l (failOf e x) ∧ w.grownBy w' (some r) := by
  have hr := h
  obtain ⟨sv, h0, h1, h2, h3, hbs, h5⟩ := h
  by_cases he : e = 0
  · subst he
    go_enter Try.func75, Try.ntmps75
    go_wp2
    go_end0
    exact ⟨rfl, (hr.fails x).1, (hr.fails x).2⟩
  · have hb : (e == 0) = false := by simpa using he
    have hfin : Rd w r l (failOf e x) := by simpa [failOf, he] using hr
    clear he
    go_enter Try.func75, Try.ntmps75
    go_wp2
    go_end0
    exact ⟨rfl, hfin, World.grownBy.refl _ _⟩

/-- What take answers, what it leaves, and the error behind it. -/
def tookOf (l : List UInt8) (e : Int) (n : Nat) : List UInt8 := if e = 0 ∧ n ≤ l.length then l.take n else []
def leftOf (l : List UInt8) (e : Int) (n : Nat) : List UInt8 := if e = 0 ∧ n ≤ l.length then l.drop n else l
def errOf (l : List UInt8) (e : Int) (n : Nat) : Int := if e = 0 ∧ l.length < n then 7 else e

/-- The frame of take at its label, where it jumped there. -/
def AtOut (r n : Nat) (a' : Act) : Prop :=
  ∃ u6 u7 u8 u9 u10 u11 u12 u13 u14 u15 u16 u17 u18 u19 : Value, a' = { tmps := #[.pointer (some ⟨r, 0, none⟩), .int .i64 n, undef, undef, .slice none 0 0, .slice none 0 0, u6, u7, u8, u9, u10, u11, u12, u13, u14, u15, u16, u17, u18, u19, undef, undef, undef, undef, undef, undef, undef, undef, undef, undef, undef, undef, undef, undef, undef, undef], defers := [] }

theorem take_any (r : Nat) (l : List UInt8) (e : Int) (n : Nat) (hn : n ≤ 4294967296) (w : World) (h : Rd w r l e) :
    Calls Try.prog 68 #[.pointer (some ⟨r, 0, none⟩), .int .i64 n] w fun en w' => ∃ v, en = .returned v ∧ Bs w' v (tookOf l e n) ∧ Rd w' r (leftOf l e n) (errOf l e n) ∧ w.grownBy w' (some r) := by
  have hr := h
  obtain ⟨sv, h0, h1, h2, h3, hbs, h5⟩ := h
  by_cases he : e = 0
  · subst he
    obtain ⟨ao, cap, rfl, g1, g2, g3, g4⟩ := hbs
    have g2' : cap ≤ 9223372036854775807 := g2
    by_cases hlt : l.length < n
    · have e1 : tookOf l 0 n = [] := by simp [tookOf]; omega
      have e2 : leftOf l 0 n = l := by simp [leftOf]; omega
      have e3 : errOf l 0 n = 7 := by simp [errOf]; omega
      rw [e1, e2, e3]
      clear e1 e2 e3
      go_enter Try.func68, Try.ntmps68
      go_wp2
      refine wp_scope_jumps 0 (fun a' w' => AtOut r n a' ∧ Rd w' r l 7 ∧ w.grownBy w' (some r)) (fun _ _ => 0) rfl ?_ ?_
      · go_wp2_with (go_at_call 75; refine (fail_any r l 0 7 _ hr).mono ?_; rintro e w1 ⟨rfl, hr1, hg1⟩)
        go_step3
        exact ⟨rfl, ⟨_, _, _, _, _, _, _, _, _, _, _, _, _, _, rfl⟩, hr1, hg1⟩
      · rintro a' w' ⟨⟨u6, u7, u8, u9, u10, u11, u12, u13, u14, u15, u16, u17, u18, u19, rfl⟩, hr1, hg1⟩
        go_wp2
        simp only [Exit.jump]
        go_ret
        exact ⟨_, rfl, Bs.nil _, hr1, hg1⟩
    · have hle : n ≤ l.length := by omega
      have hle' : (n : Int) ≤ l.length := by omega
      go_enter Try.func68, Try.ntmps68
      go_wp2
      go_step3
      go_wp2
      go_region
      have hbs : Bs w (.slice ao l.length cap) l := ⟨ao, cap, rfl, g1, g2, g3, g4⟩
      have hL := hr.lefts _ (hbs.drops n hle) (by rw [ownBlock_drops (c := l.length) (d := cap)]; exact h5)
      generalize Value.slice (if cap = n then ao else Option.map (fun x => x.add n) ao) (l.length - n) (cap - n) = V at hL ⊢
      go_wp2
      go_step3
      go_wp2
      rw [Exit.noGoto_ret]
      go_ret
      have e1 : tookOf l 0 n = l.take n := by simp [tookOf, hle]
      have e2 : leftOf l 0 n = l.drop n := by simp [leftOf, hle]
      have e3 : errOf l 0 n = 0 := by simp [errOf]; omega
      have h5' : (Value.slice ao n cap).ownBlock ≠ some r := by cases ao with | none => simp [Value.ownBlock] | some a => exact h5
      rw [e1, e2, e3]
      exact ⟨_, rfl, ((hbs.takes n hle).grown hL.2 (.inr (.inr h5'))).drew, hL.1.drew, grownBy_drew hL.2⟩
  · have hb : (e != 0) = true := by simpa using he
    have e1 : tookOf l e n = [] := by simp [tookOf, he]
    have e2 : leftOf l e n = l := by simp [leftOf, he]
    have e3 : errOf l e n = e := by simp [errOf, he]
    rw [e1, e2, e3]
    clear e1 e2 e3 he
    go_enter Try.func68, Try.ntmps68
    go_wp2
    refine wp_scope_jumps 0 (fun a' w' => AtOut r n a' ∧ Rd w' r l e ∧ w.grownBy w' (some r)) (fun _ _ => 0) rfl ?_ ?_
    · go_wp2
      go_step3
      exact ⟨rfl, ⟨_, _, _, _, _, _, _, _, _, _, _, _, _, _, rfl⟩, hr, World.grownBy.refl _ _⟩
    · rintro a' w' ⟨⟨u6, u7, u8, u9, u10, u11, u12, u13, u14, u15, u16, u17, u18, u19, rfl⟩, hr1, hg1⟩
      go_wp2
      simp only [Exit.jump]
      go_ret
      exact ⟨_, rfl, Bs.nil _, hr1, hg1⟩

theorem num_nil : wrap64 ((num [] : Nat) : Int) = 0 := by simp [num, wrap64]
theorem num_two (p : List UInt8) (h : p.length ≤ 2) : num p < 65536 := by
  have := num_lt p
  have h2 : (256 : Nat) ^ p.length ≤ 256 ^ 2 := Nat.pow_le_pow_right (by decide) h
  omega
theorem grownBy_trans {a b c : World} {row : Option Nat} (h : a.grownBy b row) (k : b.grownBy c row) : a.grownBy c row :=
  ⟨k.os.trans h.os, k.tape.trans h.tape, k.output.trans h.output, Nat.le_trans h.size k.size, fun i hi hne => (k.block i (Nat.lt_of_lt_of_le hi h.size) hne).trans (h.block i hi hne)⟩
theorem tookOf_le (l : List UInt8) (e : Int) (n : Nat) : (tookOf l e n).length ≤ n := by unfold tookOf; split <;> simp <;> omega

theorem number_any (r : Nat) (l : List UInt8) (e : Int) (n : Nat) (hn : n ≤ 8) (w : World) (h : Rd w r l e) :
    Calls Try.prog 67 #[.func (.func 68) #[.pointer (some ⟨r, 0, none⟩)] #[], .int .i64 n] w fun en w' =>
      en = .returned (.int .i64 (wrap64 (num (tookOf l e n)))) ∧ Rd w' r (leftOf l e n) (errOf l e n) ∧ w.grownBy w' (some r) := by
  have hlen : (tookOf l e n).length ≤ 8 := Nat.le_trans (tookOf_le l e n) hn
  go_enter Try.func67, Try.ntmps67
  go_wp2_with fail
  refine (take_any r l e n (by omega) _ h).mono ?_
  rintro en w1 ⟨v, rfl, hbs, hrd, hg⟩
  generalize hq : tookOf l e n = p at *
  have HQ := Lib.hid hq
  clear hq
  by_cases hp : p.length = 0
  · obtain rfl : p = [] := List.eq_nil_of_length_eq_zero hp
    obtain ⟨ao, cap, rfl, -⟩ := hbs
    go_wp2
    refine wp_loop_rounds 1 ?_
    rw [rounds_succ]
    go_wp2
    go_ret
    exact ⟨by rw [HQ.out, num_nil]; rfl, hrd, hg⟩
  · obtain ⟨b, off, cap, rfl, h1, h2, hc⟩ := hbs.at (by omega)
    obtain ⟨m, hm⟩ : ∃ m, m = p.length := ⟨_, rfl⟩
    have hm1 : m ≤ p.length := by omega
    have hm2 : p.length ≤ m := by omega
    rw [← hm]
    go_wp2
    go_loop [5, 6, 7, 12] (fun v _ _ i => ∃ k : Nat, k ≤ m ∧ i = .int .i64 k ∧ v = .int .u64 (num (p.take k))) (fun _ _ _ i => m - (intOf i).toNat)
    case atStart => exact ⟨0, Nat.zero_le _, rfl, by simp [num]⟩
    case round =>
      obtain ⟨k, hk, rfl, rfl⟩ := hrel
      by_cases hlt : k < m
      · have hck := hc k (by omega)
        unfold vb at hck
        obtain ⟨c, hc'⟩ : ∃ c : Nat, c = (p[k]'(by omega)).toNat := ⟨_, rfl⟩
        rw [← hc'] at hck
        have hc256 : c < 256 := by rw [hc']; exact UInt8.toNat_lt _
        obtain ⟨N, hN⟩ : ∃ N, N = num (p.take k) := ⟨_, rfl⟩
        have HN := Lib.hid hN
        have HC := Lib.hid hc'
        rw [← hN]
        clear hN hc' hc
        have hNlt : N < 256 ^ k := by
          rw [HN.out]
          refine Nat.lt_of_lt_of_le (num_lt _) ?_
          rw [List.length_take]
          exact Nat.pow_le_pow_right (by decide) (by omega)
        have ho := or_byte N c k (by omega) hNlt hc256
        have HO := Lib.hid ho
        have hs : p.take (k + 1) = p.take k ++ [p[k]'(by omega)] := by rw [List.take_succ_eq_append_getElem]
        have HS := Lib.hid hs
        clear ho hNlt hs
        go_wp2
        go_round
        case rel => exact ⟨k + 1, by omega, by go_num, by rw [HO.out, HS.out, num_snoc, ← HN.out, ← HC.out, List.length_take, Nat.min_eq_left (by omega)]⟩
        case measure => simp [intOf]; omega
      · obtain rfl : k = m := by omega
        go_wp2
        go_ret
        exact ⟨by rw [HQ.out]; rfl, hrd, hg⟩

theorem number_at (r : Nat) (l : List UInt8) (e m : Int) (n : Nat) (hm : m = n) (hn : n ≤ 8) (w : World) (h : Rd w r l e) :
    Calls Try.prog 67 #[.func (.func 68) #[.pointer (some ⟨r, 0, none⟩)] #[], .int .i64 m] w fun en w' =>
      en = .returned (.int .i64 (wrap64 (num (tookOf l e n)))) ∧ Rd w' r (leftOf l e n) (errOf l e n) ∧ w.grownBy w' (some r) := by
  subst hm; exact number_any r l e n hn w h

theorem rbyte_any (r : Nat) (l : List UInt8) (e : Int) (w : World) (h : Rd w r l e) :
    Calls Try.prog 38 #[.pointer (some ⟨r, 0, none⟩)] w fun en w' =>
      en = .returned (.int .i64 (wrap64 (num (tookOf l e 1)))) ∧ Rd w' r (leftOf l e 1) (errOf l e 1) ∧ w.grownBy w' (some r) := by
  go_enter Try.func38, Try.ntmps38
  go_wp2_with fail
  refine (number_at r l e 1 1 rfl (by omega) _ h).mono ?_
  rintro en w1 ⟨rfl, h1, hg⟩
  go_wp2
  go_ret
  exact ⟨rfl, h1, hg⟩

/-- What Text answers. -/
def textOf (l : List UInt8) (e : Int) : List UInt8 := tookOf (leftOf l e 2) (errOf l e 2) (num (tookOf l e 2))
def textLeft (l : List UInt8) (e : Int) : List UInt8 := leftOf (leftOf l e 2) (errOf l e 2) (num (tookOf l e 2))
def textErr (l : List UInt8) (e : Int) : Int := errOf (leftOf l e 2) (errOf l e 2) (num (tookOf l e 2))

theorem rtext_any (r : Nat) (l : List UInt8) (e : Int) (w : World) (h : Rd w r l e) :
    Calls Try.prog 39 #[.pointer (some ⟨r, 0, none⟩)] w fun en w' =>
      en = .returned (.string ⟨(textOf l e).toArray⟩) ∧ Rd w' r (textLeft l e) (textErr l e) ∧ w.grownBy w' (some r) := by
  have hn := num_two _ (tookOf_le l e 2)
  have hw : wrap64 ((num (tookOf l e 2) : Nat) : Int) = (num (tookOf l e 2) : Nat) := by simp only [wrap64]; omega
  have HW := Lib.hid hw
  clear hw
  go_enter Try.func39, Try.ntmps39
  go_wp2_with fail
  refine (number_at r l e 2 2 rfl (by omega) _ h).mono ?_
  rintro en w1 ⟨rfl, h1, hg⟩
  rw [HW.out]
  go_wp2_with fail
  refine (take_any r _ _ _ (by omega) _ h1).mono ?_
  rintro en w2 ⟨v2, rfl, hb2, h2, hg2⟩
  have hc := run_conv_bytes hb2
  go_wp2
  go_ret
  exact ⟨rfl, h2, grownBy_trans hg hg2⟩
end

section
theorem took_err {l : List UInt8} {e : Int} (n : Nat) (h : e ≠ 0) : tookOf l e n = [] := by simp [tookOf, h]
theorem left_err {l : List UInt8} {e : Int} (n : Nat) (h : e ≠ 0) : leftOf l e n = l := by simp [leftOf, h]
theorem err_err {l : List UInt8} {e : Int} (n : Nat) (h : e ≠ 0) : errOf l e n = e := by simp [errOf, h]
theorem text_err {l : List UInt8} {e : Int} (h : e ≠ 0) : textOf l e = [] ∧ textLeft l e = l ∧ textErr l e = e := by
  unfold textOf textLeft textErr
  rw [left_err 2 h, err_err 2 h]
  exact ⟨took_err _ h, left_err _ h, err_err _ h⟩
theorem fail_err {e : Int} (x : Int) (h : e ≠ 0) : failOf e x = e := by simp [failOf, h]
theorem fail_ok (x : Int) : failOf 0 x = x := rfl
theorem end_err {l : List UInt8} {e : Int} (h : e ≠ 0) : endOf l e = e := by simp [endOf, h]

theorem Below.rd {B r : Nat} {w0 w w' : World} (hb : Below B w0 w) (hg : w.grownBy w' (some r)) (hB : B ≤ w.heap.size) (hr : B ≤ r) : Below B w0 w' :=
  hb.grown hg hB (fun q hq => by cases hq; exact hr)
end

section
theorem took_ok {l : List UInt8} {n : Nat} (h : n ≤ l.length) : tookOf l 0 n = l.take n := by simp [tookOf, h]
theorem left_ok {l : List UInt8} {n : Nat} (h : n ≤ l.length) : leftOf l 0 n = l.drop n := by simp [leftOf, h]
theorem err_ok {l : List UInt8} {n : Nat} (h : n ≤ l.length) : errOf l 0 n = 0 := by simp [errOf]; omega
theorem took_cut {l : List UInt8} {n : Nat} (h : l.length < n) : tookOf l 0 n = [] := by simp [tookOf]; omega
theorem left_cut {l : List UInt8} {n : Nat} (h : l.length < n) : leftOf l 0 n = l := by simp [leftOf]; omega
theorem err_cut {l : List UInt8} {n : Nat} (h : l.length < n) : errOf l 0 n = 7 := by simp [errOf, h]

theorem byteOf_toNat (x : Int) : ((byteOf x).toNat : Int) = x % 256 := by
  have h := vb_byteOf x
  unfold vb at h
  simpa using h

theorem text_less {l : List UInt8} {n : Nat} (h : l.length < n) (hn : n < 65536) :
    textOf (byteOf n :: byteOf (n / 256) :: l) 0 = [] ∧ textErr (byteOf n :: byteOf (n / 256) :: l) 0 = 7 := by
  have e2 : num [byteOf n, byteOf (n / 256)] = n := by
    have h1 := byteOf_toNat n
    have h2 := byteOf_toNat ((n : Int) / 256)
    simp only [num]
    omega
  unfold textOf textErr
  rw [took_ok (by simp), left_ok (by simp), err_ok (by simp)]
  simp only [List.take_succ_cons, List.take_zero, List.drop_succ_cons, List.drop_zero]
  rw [e2]
  exact ⟨took_cut h, err_cut h⟩
end
end Go.Proofs.Ytpoacgnncinmiaa
