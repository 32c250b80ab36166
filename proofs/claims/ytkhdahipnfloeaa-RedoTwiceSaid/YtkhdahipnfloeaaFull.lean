/- append onto a full slice that is not the call's own; triadref1's Int of it. -/
import Derived.Test.YtkhdahipnfloeaaRefInt
import Derived.Lib.SlBytesConst
namespace Go.Proofs.Ytkhdahipnfloeaa
open Go.RowKit
set_option maxRecDepth 100000

theorem run_append_full (w : World) (ty : TypeId) (ad : Addr) (l : List UInt8) (c : Nat) (hs : Bs w (.slice (some ad) l.length c) l) (y : Value) (m : List UInt8) (hy : Bs w y m)
    (hm : c < l.length + m.length) (hl : l.length + m.length ≤ 140737488355328) :
    ∃ v' w', (Builtin.append_ #[41, 41] ty #[.slice (some ad) l.length c, y]).run Try.prog w = .ok v' w' ∧ Own w' w.heap.size v' (l ++ m) ∧ Below w.heap.size w w' := by
  obtain ⟨i0, hi, hz0, hz1, hz2⟩ := info_parts Try.infoU8
  obtain ⟨ao, cy, rfl, h1, h2, h3, h4⟩ := hy
  obtain ⟨ax, cs, e, k1, k2, k3, k4⟩ := hs
  simp only [Value.slice.injEq, true_and] at e
  obtain ⟨rfl, rfl⟩ := e
  cases ao with
  | none =>
    have h0 := h3 rfl
    omega
  | some ay =>
    have hr := run_append_grow (P := Try.prog) w 41 ty 5 i0 (.int .u8 0) Try.underlying41 hi hz0 ad l.length c (vbs l) (by rw [hz1]; simp [vbs]) (k4 ad rfl) ay m.length cy (vbs m) (by rw [hz1]; simp [vbs]) (h4 ay rfl) hm (by omega) (by rw [hz2]; exact growslice_fits hm (by omega))
    refine ⟨_, _, hr, ⟨by simp [vbs], .inr ⟨w.heap.size, _, _, by rw [List.length_append], Nat.le_refl _, heap_alloc_new _ _, ?_, ?_, ?_, ?_⟩⟩, ((Below.refl _ w).drew).alloc (Nat.le_refl _) _⟩
    · rw [List.length_append]; exact grownCap_ge _ _ _ _
    · exact grownCap_le_maxLen _ _ _ _ (by simp [maxLen]; omega)
    · rw [Array.size_append, Array.size_append, size_zeroCells]
      have := grownCap_ge w (l.length + m.length) c 5
      simp [vbs, Value.cells]
      omega
    · rw [Nat.mul_one, List.length_append, Array.toList_append, Array.toList_append, vbs_append]
      show List.take _ (vbs l ++ vbs m ++ _) = _
      rw [← List.length_append, ← vbs_length (l ++ m), vbs_append, List.take_left' rfl]

theorem wpList_append_full {w : World} {ops : Array Oper} {rest : List Oper} {o : Oper} {a : Act} {Q : Exit → Act → World → Prop} (hgd : o.guard = none) (s x : Operand)
    (ho : o.op = .call { callee := .builtin .append, args := #[s, x], argTypes := #[41, 41] })
    (ad : Addr) (l : List UInt8) (n c : Nat) (hn : n = l.length) (hs : a.eval s = .slice (some ad) n c) (hb : Bs w (.slice (some ad) n c) l) (y : Value) (m : List UInt8) (hx : a.eval x = y) (hy : Bs w y m)
    (hm : c < l.length + m.length) (hl : l.length + m.length ≤ 140737488355328)
    (h : ∀ v' w', Own w' w.heap.size v' (l ++ m) → Below w.heap.size w w' → wpList Try.prog ops Q rest (a.put o.dst v') w') : wpList Try.prog ops Q (o :: rest) a w := by
  subst hn
  refine wpList_plain hgd fun K hK => ?_
  obtain ⟨v', w', hr, h2, h3⟩ := run_append_full w o.type ad l c hb y m hy hm hl
  unfold Oper.wp execOp
  simp only [ho, resolve, invoke, builtin, Sem.run_bind, Sem.run_pure, Result.andThen_ok, List.map_toArray, List.map_cons, List.map_nil, hs, hx, hr]
  exact hK _ _ (h v' w' h2 h3)

theorem refIntFull_any (ad : Addr) (l : List UInt8) (n : Nat) (hn : n = l.length) (x : Int) (hl : l.length ≤ 1099511627776) (w : World) (hb : Bs w (.slice (some ad) n n) l) :
    Calls Try.prog 41 #[.slice (some ad) n n, .int .i64 x] w fun e w' => ∃ v', e = .returned v' ∧ Own w' w.heap.size v' (l ++ le x 8) ∧ Below w.heap.size w w' := by
  have HB := Lib.hid hb
  clear hb
  go_enter Try.func41, Try.ntmps41
  go_wp2
  go_loopw [0, 5] (fun b i wr => ∃ k : Nat, k ≤ 8 ∧ i = .int .i64 k ∧ Below w.heap.size w wr ∧ ((k = 0 ∧ b = .slice (some ad) n n) ∨ (1 ≤ k ∧ Own wr w.heap.size b (l ++ le x k)))) (fun _ i _ => 8 - (intOf i).toNat)
  case atStart => exact ⟨0, by omega, rfl, Below.refl _ _, .inl ⟨rfl, rfl⟩⟩
  case round =>
    obtain ⟨k, hk, rfl, hbl, hsp⟩ := hrel
    have hsz := hbl.size
    have hll := le_length x k
    by_cases hlt : k < 8
    · have hal : Below w.heap.size w (wr.alloc (.cells #[.int .u8 (IntKind.u64.wrap x / 2 ^ (8 * k) % 256)] 5)) := hbl.alloc hsz _
      have hal2 : Below wr.heap.size wr (wr.alloc (.cells #[.int .u8 (IntKind.u64.wrap x / 2 ^ (8 * k) % 256)] 5)) := (Below.refl _ _).alloc (Nat.le_refl _) _
      have HL := Lib.hid hal
      have HE := Lib.hid (shr_byte x k hlt)
      rcases hsp with ⟨rfl, rfl⟩ | ⟨hk1, hown⟩
      · have hb0 := (HB.out.below hbl).below ((Below.refl _ wr).alloc (Nat.le_refl _) (.cells #[.int .u8 (IntKind.u64.wrap x % 256)] 5))
        have HL0 := Lib.hid (hbl.alloc hsz (.cells #[.int .u8 (IntKind.u64.wrap x % 256)] 5))
        have he0 : IntKind.u64.wrap x % 256 = x % 256 := by rw [IntKind.wrap_u64]; omega
        have HE0 := Lib.hid he0
        clear hal hal2 hbl HL HE he0
        go_wp2_with (at_builtin; refine wpList_append_full rfl _ _ rfl ad l n n hn rfl hb0 _ _ rfl (Bs.one _ (byteOf x) _ ?a1) ?a2 ?a3 ?_)
        case a1 => rw [vb_byteOf, HE0.out]
        case a2 => simp; omega
        case a3 => simp only [List.length_cons, List.length_nil]; omega
        intro v' w' hv hg
        have hs := Own.mono hv (base' := w.heap.size) (by omega)
        have hg' := Lib.hid (HL0.out.trans (hg.mono (by omega)))
        rw [← show le x 1 = [byteOf x] from by simp [le, List.range_succ]] at hs
        clear hv hg HE0 hb0 HL0
        go_wp2
        go_roundw
        case rel => exact ⟨1, by omega, by go_num, hg'.out, .inr ⟨by omega, hs⟩⟩
        case measure => simp [intOf]
      · have hown1 := hown.alloc (.cells #[.int .u8 (IntKind.u64.wrap x / 2 ^ (8 * k) % 256)] 5)
        clear hal hal2 hbl hown
        go_wp2_with (at_builtin; refine wpList_append_bytes rfl _ _ rfl w.heap.size _ _ rfl hown1 _ _ rfl (Bs.one _ (byteOf (x / 2 ^ (8 * k))) _ ?a1) ?a2 ?a3 ?_)
        case a1 => rw [vb_byteOf, HE.out]
        case a2 => simp only [List.length_append, List.length_cons, List.length_nil]; omega
        case a3 => simp; omega
        intro v' w' hv hg
        have hg' := Lib.hid (HL.out.grown hg HL.out.size (fun q hq => (hown1.out.lt q hq).1))
        rw [← le_succ] at hv
        clear hg HE hown1 HL
        go_wp2
        go_roundw
        case rel => exact ⟨k + 1, by omega, by go_num, hg'.out, .inr ⟨by omega, hv⟩⟩
        case measure => simp [intOf]; omega
    · obtain rfl : k = 8 := by omega
      rcases hsp with ⟨h, -⟩ | ⟨-, hown⟩
      · omega
      go_wp2
      go_ret
      exact ⟨_, rfl, hown, hbl⟩
end Go.Proofs.Ytkhdahipnfloeaa
