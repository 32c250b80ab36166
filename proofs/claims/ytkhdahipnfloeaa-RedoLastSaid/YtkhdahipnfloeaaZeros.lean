/- append(s, make([]byte, k)...), which is handed the number k, as appending k noughts. -/
import Derived.Test.YtkhdahipnfloeaaRead
import Derived.Lib.AppendStr
import Derived.Lib.AppendZeros
namespace Go.Proofs.Ytkhdahipnfloeaa
open Go.RowKit
set_option maxRecDepth 100000

def zstr (k : Nat) : ByteArray := ⟨(zeros k).toArray⟩
theorem zstr_size (k : Nat) : (zstr k).size = k := by show (zeros k).toArray.size = k; simp [zeros_length]
theorem zstr_cells (k : Nat) : Builtin.zeroCells (Value.int .u8 0).cells k = (Lib.strCells (zstr k)).toArray := by
  apply Array.ext'
  simp [Builtin.zeroCells, Value.cells, Lib.strCells, zstr, zeros]
  rw [List.eq_replicate_iff]
  refine ⟨by simp, fun u hu => ?_⟩
  obtain ⟨i, -, rfl⟩ := List.mem_map.1 hu
  rw [Nat.mod_one]
  rfl

theorem run_append_zeros (w : World) (ty : TypeId) (base : Option Addr) (sLen sCap k : Nat) (h0' : 0 < k) (hk : sLen + k ≤ 1099511627776) :
    (Builtin.append_ #[41, 3] ty #[.slice base sLen sCap, .int .i64 k]).run Try.prog w = (Builtin.append_ #[41, 9] ty #[.slice base sLen sCap, .string (zstr k)]).run Try.prog w := by
  obtain ⟨i0, hi, hz0, hz1, hz2⟩ := info_parts Try.infoU8
  have hw : IntKind.i64.wrap (k : Int) = k := by rw [IntKind.wrap_i64]; omega
  have hneg : ¬ ((k : Int) < 0) := by omega
  have h48 : ¬ (281474976710656 < (k : Int)) := by omega
  have h0 : ¬ k = 0 := by omega
  have hsz := zstr_size k
  have hc := zstr_cells k
  have hf : ∀ w', (Builtin.firstCells 1 k (.string (zstr k))).run Try.prog w' = .ok (Lib.strCells (zstr k)).toArray w' := fun w' => by
    have := Lib.run_firstCells_string (P := Try.prog) w' 1 (zstr k)
    rwa [hsz] at this
  by_cases hroom : sLen + k ≤ sCap
  · simp [Builtin.append_, run_underlying Try.underlying41, run_underlying Try.underlying3, run_underlying Try.underlying9, sizeOf, typeInfo, zeroValue, hi, hz0, hz1, hz2, asInt, asIntOf, hw, hneg, h48, h0, hroom, Builtin.lenOf, hsz, hf, hc]
  · have h63 : ¬ (9223372036854775807 < ((sLen : Int) + (k : Int))) := by omega
    have h48' : ¬ (281474976710656 < Builtin.nextslicecap (sLen + k) sCap) := by
      have := nextslicecap_le (need := sLen + k) (old := sCap) (by omega)
      omega
    simp [Builtin.append_, run_underlying Try.underlying41, run_underlying Try.underlying3, run_underlying Try.underlying9, sizeOf, typeInfo, zeroValue, hi, hz0, hz1, hz2, asInt, asIntOf, hw, hneg, h48, h0, hroom, Builtin.lenOf, hsz, hf, hc, h63, h48', Question.forced]

/-- append(s, make([]byte, k)...), as one step of a region that draws: s is the call's own. -/
theorem step_append_zeros {ops : Array Oper} {o : Oper} {a : Act} {w : World} {K : Act → World → Prop} {Q : Exit → Act → World → Prop} {E : Prop} (hgd : o.guard = none) (s x : Operand)
    (ho : o.op = .call { callee := .builtin .append, args := #[s, x], argTypes := #[41, 3] })
    (base : Nat) (v : Value) (l : List UInt8) (hs : a.eval s = v) (hown : Own w base v l) (k : Nat) (hx : a.eval x = .int .i64 k) (h0 : 0 < k) (hl : l.length + k ≤ 1073741824) (hbase : base ≤ w.heap.size)
    (h : ∀ v' w', Own w' base v' (l ++ zeros k) → w.grownBy w' v.ownBlock → K (a.put o.dst v') w') : if Region.wanted o (yielded ops a.tmps) = true then Oper.wp Try.prog o a w K Q else E := by
  have hw : Region.wanted o (yielded ops a.tmps) = true := by simp [Region.wanted, hgd]
  rw [if_pos hw]
  obtain ⟨i0, hi, hz0, hz1, hz2⟩ := info_parts Try.infoU8
  obtain ⟨ao, cap, rfl, h1, h2, h3, -⟩ := hown.bs
  obtain ⟨v', w', hr, ho', hg, -⟩ := Lib.run_append_own_string (P := Try.prog) w base 41 9 o.type 5 i0 Try.underlying41 Try.underlying9 hi hz0 hz1 hz2 _ _ _ hown.out (zstr k) (by rw [zstr_size]; simp [maxLen]; omega) (by rw [zstr_size]; omega) hbase
  rw [← run_append_zeros w o.type ao l.length cap k h0 (by omega)] at hr
  refine Lib.wp_append_run w s x _ _ ho _ _ hs hx v' w' hr (h v' w' ?_ hg)
  refine Own.of ho' ?_ ?_
  · rw [zstr_size, List.length_append, zeros_length]
  · rw [vbs_append]
    congr 1
end Go.Proofs.Ytkhdahipnfloeaa
