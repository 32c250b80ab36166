/- PgBegin; PgGet; PgOwn; PgEq; Rdn -/
import Derived.Test.YtbkokckpjmbjhaaDoorGf
import Derived.WalkArith
import Derived.Deep.DeepMust
import Derived.ChangeKeysEq
namespace Go.Proofs.YtbkokckpjmbjhaaDoor
open Go.RowKit Go.Maps
set_option maxRecDepth 100000
theorem Tryd.infoI : (Tryd.prog.info? 3).map (fun i => (i.zero, i.size, i.bytes)) = some (some (.int .i64 0), 1, 8) := by kernel_rfl
theorem IRow.of_owns {w : World} {base g cap : Nat} {L : List Int} (h : w.ownsRow base 3 1 (.slice (some ⟨g, 0, none⟩) L.length cap) L.length (ints L)) (h0 : 0 < L.length) : IRow w g L ∧ base ≤ g ∧ L.length ≤ cap ∧ cap ≤ maxLen := by
  rcases h.2 with ⟨hx, hn⟩ | ⟨g', cap', cur, hx, hb, hh, h1, h2, h3, h4⟩
  · omega
  · simp only [Value.slice.injEq, Option.some.injEq, Addr.mk.injEq] at hx
    obtain ⟨⟨rfl, -, -⟩, -, rfl⟩ := hx
    exact ⟨⟨cur, hh, by simpa using h4⟩, hb, h1, h2⟩
/-- append(x, y...) of numbers. -/
theorem wpList_append_ints {w : World} {ops : Array Oper} {rest : List Oper} {o : Oper} {a : Act} {Q : Exit → Act → World → Prop} (hgd : o.guard = none) (s x : Operand)
    (ho : o.op = .call { callee := .builtin .append, args := #[s, x], argTypes := #[23, 23] })
    (base : Nat) (v : Value) (n : Nat) (xs : List Value) (hs : a.eval s = v) (hown : w.ownsRow base 3 1 v n xs) (ad : Addr) (m c : Nat) (L : List Int) (hx : a.eval x = .slice (some ad) m c) (hm : L.length = m)
    (hL : ∀ j u, (ints L)[j]? = some u → w.cell? (ad.add j) = some u) (h0 : 0 < m) (hl : n + m ≤ 1000000000) (hbase : base ≤ w.heap.size)
    (h : ∀ g cap w', w'.ownsRow base 3 1 (.slice (some ⟨g, 0, none⟩) (n + m) cap) (n + m) (xs ++ ints L) → w.grownBy w' v.ownBlock → (v.ownBlock = some g ∨ g = w.heap.size) → wpList Tryd.prog ops Q rest (a.put o.dst (.slice (some ⟨g, 0, none⟩) (n + m) cap)) w') : wpList Tryd.prog ops Q (o :: rest) a w := by
  obtain ⟨i0, hi, hz0, hz1, hz2⟩ := info_parts Tryd.infoI
  refine wpList_append_lies w hgd s x _ ho base 3 i0 _ 1 8 Tryd.underlying23 hi hz0 hz1 hz2 rfl (by decide) v n xs hs hown ad m c (ints L) hx (by rw [ints_length]; omega) hL ?_ h0 (by simp [maxLen]; omega) (by omega) hbase _ rfl ?_
  · intro u hu
    obtain ⟨_, _, rfl⟩ := List.mem_map.1 hu
    rfl
  · intro g cap w' h1 h2 h3 _
    exact h g cap w' h1 h2 h3
end Go.Proofs.YtbkokckpjmbjhaaDoor
namespace Go.Proofs.YtbkokckpjmbjhaaDoor
open Go.RowKit Go.Maps
set_option maxRecDepth 100000
/-- What 'stored' answers. -/
def storedOf (A : Ab) (k : Nat) : List UInt8 := pageOf (A.read (401 + k))
theorem storedOf_length (A : Ab) (k : Nat) : (storedOf A k).length = 504 := pageOf_length _
def putAt (T : Option Tx) (i : Int) : Option (List UInt8) := match T with
  | some t => t.f i
  | none => none
/-- The bytes of a page, and the error. -/
def bytesOf (A : Ab) (T : Option Tx) (k : Nat) : List UInt8 × Int := match putAt T k with
  | some l => (l, 0)
  | none => (storedOf A k, A.fault (401 + k))
def AllLong (T : Option Tx) : Prop := ∀ i l, putAt T i = some l → l.length = 504
theorem bytesOf_length {A : Ab} {T : Option Tx} (k : Nat) (h : AllLong T) : (bytesOf A T k).1.length = 504 := by
  unfold bytesOf
  cases hp : putAt T k with
  | none => exact storedOf_length A k
  | some l => exact h _ _ hp
theorem Blk.bs {w : World} {g : Nat} {l : List UInt8} {t : TypeId} (h : Blk w g (vbs l).toArray t) (hl : l.length ≤ maxLen) : Bs w (.slice (some ⟨g, 0, none⟩) l.length l.length) l := by
  refine ⟨_, l.length, rfl, Nat.le_refl _, hl, (fun e => by cases e), fun ad had j u hu => ?_⟩
  cases had
  rw [Addr.add_lit, Nat.zero_add, h.cell]
  simpa using hu
end Go.Proofs.YtbkokckpjmbjhaaDoor
namespace Go.Proofs.YtbkokckpjmbjhaaDoor
open Go.RowKit Go.Maps
set_option maxRecDepth 100000
/-- What 'own' answers. -/
def ownOf (S : Stt) (k : Nat) : List UInt8 := pageOf (le (S.next.getD k 0 - k - 1) 8 ++ if k = 0 then le S.root 8 else [])
theorem ownOf_length (S : Stt) (k : Nat) : (ownOf S k).length = 504 := pageOf_length _
end Go.Proofs.YtbkokckpjmbjhaaDoor
namespace Go.Proofs.YtbkokckpjmbjhaaDoor
open Go.RowKit Go.Maps
set_option maxRecDepth 100000
theorem part_byte (w : World) (l : List UInt8) (j : Nat) (hj : j < l.length) : (part 5 (vbs l).toArray j).run Tryd.prog w = .ok (vb l[j]) w := by
  have hu : isAgg 5 = isAgg 5 := rfl
  have e : (vbs l).toArray[j]? = some (vb l[j]) := by simp [vbs, hj]
  simp [part, isAgg, Sem.run_bind, run_underlying Tryd.underlying5, Result.andThen, e]
theorem eq_items (w : World) (d : Nat) (a b : List UInt8) (ha : a.length = 504) (hb : b.length = 504) : ∀ is : List Nat, (∀ i ∈ is, i < 504) →
    (Op.eqItems (d + 1) 5 1 (vbs a).toArray (vbs b).toArray is).run Tryd.prog w = .ok (is.all fun i => a.getD i 0 == b.getD i 0) w
  | [], _ => by simp [Op.eqItems]
  | j :: is, h => by
    have hj := h j (by simp)
    have ih := eq_items w d a b ha hb is (fun i hi => h i (by simp [hi]))
    have e1 : a.getD j 0 = a[j] := by simp [List.getD, ha, hj]
    have e2 : b.getD j 0 = b[j] := by simp [List.getD, hb, hj]
    simp only [Op.eqItems, Sem.run_bind, Nat.mul_one, part_byte w a j (by omega), part_byte w b j (by omega), Result.andThen_ok, vb]
    rw [run_equalIn_int w d 5 .u8 .u8 _ _ Tryd.underlying5]
    simp only [Result.andThen_ok, List.all_cons, e1, e2]
    have e3 : (((a[j].toNat : Int) == (b[j].toNat : Int)) : Bool) = (a[j] == b[j]) := by
      rw [Bool.eq_iff_iff]
      simp only [beq_iff_eq]
      constructor
      · intro h; exact UInt8.toNat_inj.1 (by omega)
      · intro h; rw [h]
    rw [e3]
    cases a[j] == b[j]
    · simp
    · simp [ih]
theorem range_all (a b : List UInt8) (n : Nat) (ha : a.length = n) (hb : b.length = n) : ((List.range n).all fun i => a.getD i 0 == b.getD i 0) = (a == b) := by
  rw [Bool.eq_iff_iff]
  simp only [List.all_eq_true, List.mem_range, beq_iff_eq]
  constructor
  · intro h
    apply List.ext_getElem (by omega)
    intro i h1 h2
    have := h i (by omega)
    simpa [List.getD, h1, h2] using this
  · intro h i _
    rw [h]
end Go.Proofs.YtbkokckpjmbjhaaDoor
namespace Go.Proofs.YtbkokckpjmbjhaaDoor
open Go.RowKit Go.Maps
set_option maxRecDepth 100000
/-- A reader whose bytes lie in blocks from base on. -/
def Rdn (base : Nat) (w : World) (r : Nat) (l : List UInt8) (e : Int) : Prop := Rd w r l e ∧ ∃ sv, w.cell? ⟨r, 0, none⟩ = some sv ∧ ∀ q, sv.ownBlock = some q → base ≤ q
theorem Rdn.lt {base : Nat} {w : World} {r : Nat} {l : List UInt8} {e : Int} (h : Rdn base w r l e) : r < w.heap.size := h.1.lt
theorem Rdn.grown {base : Nat} {w w' : World} {r : Nat} {l : List UInt8} {e : Int} {row : Option Nat} (h : Rdn base w r l e) (hg : w.grownBy w' row) (hr : row ≠ some r) (hs : ∀ q, row = some q → q < base) : Rdn base w' r l e := by
  obtain ⟨h1, sv, h2, h3⟩ := h
  have hb := hg.block r h1.lt (Ne.symm hr)
  refine ⟨h1.grown hg hr (fun sv' h => ?_), sv, by rw [World.cell?_of_block (w := w) hb]; exact h2, h3⟩
  rw [h2] at h
  cases h
  cases row with
  | none => exact .inl rfl
  | some q =>
    refine .inr (fun e => ?_)
    have := h3 q e
    have := hs q rfl
    omega
theorem Rdn.below {base : Nat} {w w' : World} {r : Nat} {l : List UInt8} {e : Int} (h : Rdn base w r l e) (hb : Below w.heap.size w w') : Rdn base w' r l e :=
  h.grown (Below.grownBy hb) (by simp) (fun q h => by cases h)
theorem Rdn.drew {base : Nat} {w : World} {r : Nat} {l : List UInt8} {e : Int} (h : Rdn base w r l e) : Rdn base w.drew r l e := h
theorem Rdn.fails {base : Nat} {w : World} {r : Nat} {l : List UInt8} {e : Int} (h : Rdn base w r l e) (x : Int) : Rdn base (w.setCell ⟨r, 1, none⟩ (.int .i64 x)) r l x ∧ w.grownBy (w.setCell ⟨r, 1, none⟩ (.int .i64 x)) (some r) := by
  obtain ⟨h1, sv, h2, h3⟩ := h
  exact ⟨⟨(h1.fails x).1, sv, (World.cell?_setCell_other w _ _ _ (by simp)).trans h2, h3⟩, (h1.fails x).2⟩
theorem Rdn.lefts {base : Nat} {w : World} {r : Nat} {l m : List UInt8} {e : Int} (h : Rdn base w r l e) (v : Value) (hv : Bs w v m) (hne : v.ownBlock ≠ some r) (hq : ∀ q, v.ownBlock = some q → base ≤ q) : Rdn base (w.setCell ⟨r, 0, none⟩ v) r m e ∧ w.grownBy (w.setCell ⟨r, 0, none⟩ v) (some r) := by
  obtain ⟨h1, sv, h2, h3⟩ := h
  exact ⟨⟨(h1.lefts v hv hne).1, v, World.cell?_setCell_same w _ _ h2, hq⟩, (h1.lefts v hv hne).2⟩
end Go.Proofs.YtbkokckpjmbjhaaDoor
