/- Two pages are held against one another. -/
import Derived.Test.YtcnfnpccbnnplaaPgOwn
import Derived.ChangeKeysEq
namespace Go.Proofs.Ytcnfnpccbnnplaa
open Go.RowKit Go.Maps
set_option maxRecDepth 100000

theorem part_byte (w : World) (l : List UInt8) (j : Nat) (hj : j < l.length) : (part 5 (vbs l).toArray j).run Try.prog w = .ok (vb l[j]) w := by
  have hu : isAgg 5 = isAgg 5 := rfl
  have e : (vbs l).toArray[j]? = some (vb l[j]) := by simp [vbs, hj]
  simp [part, isAgg, Sem.run_bind, run_underlying Try.underlying5, Result.andThen, e]

theorem eq_items (w : World) (d : Nat) (a b : List UInt8) (ha : a.length = 504) (hb : b.length = 504) : ∀ is : List Nat, (∀ i ∈ is, i < 504) →
    (Op.eqItems (d + 1) 5 1 (vbs a).toArray (vbs b).toArray is).run Try.prog w = .ok (is.all fun i => a.getD i 0 == b.getD i 0) w
  | [], _ => by simp [Op.eqItems]
  | j :: is, h => by
    have hj := h j (by simp)
    have ih := eq_items w d a b ha hb is (fun i hi => h i (by simp [hi]))
    have e1 : a.getD j 0 = a[j] := by simp [List.getD, ha, hj]
    have e2 : b.getD j 0 = b[j] := by simp [List.getD, hb, hj]
    simp only [Op.eqItems, Sem.run_bind, Nat.mul_one, part_byte w a j (by omega), part_byte w b j (by omega), Result.andThen_ok, vb]
    rw [run_equalIn_int w d 5 .u8 .u8 _ _ Try.underlying5]
    simp only [Result.andThen_ok, List.all_cons, e1, e2]
    have e3 : (((a[j].toNat : Int) == (b[j].toNat : Int)) : Bool) = (a[j] == b[j]) := by
      rw [Bool.eq_iff_iff]
      simp only [beq_iff_eq]
      constructor
      · intro h; exact UInt8.toNat_inj.1 (by omega)
      · intro h; rw [h]
    rw [e3]
    cases a[j] == b[j]
    · simp
    · simp [ih]

theorem range_all (a b : List UInt8) (n : Nat) (ha : a.length = n) (hb : b.length = n) : ((List.range n).all fun i => a.getD i 0 == b.getD i 0) = (a == b) := by
  rw [Bool.eq_iff_iff]
  simp only [List.all_eq_true, List.mem_range, beq_iff_eq]
  constructor
  · intro h
    apply List.ext_getElem (by omega)
    intro i h1 h2
    have := h i (by omega)
    simpa [List.getD, h1, h2] using this
  · intro h i _
    rw [h]

theorem neq_pg (w : World) (a b : List UInt8) (ha : a.length = 504) (hb : b.length = 504) : (binOp .neq 103 (pg a) (pg b)).run Try.prog w = .ok (.bool (!(a == b))) w := by
  have hc : Try.prog.cellsOf 5 = 1 := by kernel_rfl
  obtain ⟨i0, hi, hz0, hz1, hz2⟩ := info_parts Try.infoU8
  unfold pg
  rw [run_neq_struct]
  rw [run_equalIn_array w 9999 _ _ Try.underlying103 hi, hc, eq_items w 9998 a b ha hb _ (fun i hi => by simpa using hi), range_all a b 504 ha hb]
  rfl
end Go.Proofs.Ytcnfnpccbnnplaa
