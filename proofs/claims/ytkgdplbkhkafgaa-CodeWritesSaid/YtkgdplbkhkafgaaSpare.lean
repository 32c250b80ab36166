/- append onto a slice that goes on being used: what it held it holds still; Int, Byte, Text of triadref1. -/
import Derived.Test.YtkgdplbkhkafgaaOps
import Derived.Test.YtkgdplbkhkafgaaPuts
namespace Go.Proofs.Ytkgdplbkhkafgaa
open Go.RowKit

/-- What append leaves: it went into the slice's own spare room, or into a new row, or nothing was appended. -/
def Appended (w w' : World) (base : Nat) (v v' : Value) (l m : List UInt8) : Prop :=
  Own w' base v' (l ++ m) ∧
  ((∃ g cap, v = .slice (some ⟨g, 0, none⟩) l.length cap ∧ v' = .slice (some ⟨g, 0, none⟩) (l ++ m).length cap ∧ w.grownBy w' (some g)) ∨
   (w.grownBy w' none ∧ ∀ q, v'.ownBlock = some q → w.heap.size ≤ q) ∨ (v' = v ∧ w' = w ∧ m = []))

theorem ok_inj {v v' : Value} {w w' : World} {x : Result Value} (h : x = .ok v w) (h' : x = .ok v' w') : v' = v ∧ w' = w := by
  rw [h] at h'
  simp only [Result.ok.injEq] at h'
  exact ⟨h'.1.symm, h'.2.symm⟩

theorem run_append_kept (w : World) (base : Nat) (ty : TypeId) (v : Value) (l : List UInt8) (hown : Own w base v l) (y : Value) (m : List UInt8) (hbs : Bs w y m)
    (hl : l.length + m.length ≤ 140737488355328) (hbase : base ≤ w.heap.size) :
    ∃ v' w', (Builtin.append_ #[22, 22] ty #[v, y]).run Try.prog w = .ok v' w' ∧ Appended w w' base v v' l m := by
  obtain ⟨i0, hi, hz0, hz1, hz2⟩ := info_parts Try.infoU8
  obtain ⟨ao, cap, rfl, h1, h2, h3, h4⟩ := hbs
  cases ao with
  | none =>
    have h0 := h3 rfl
    obtain rfl : m = [] := List.eq_nil_of_length_eq_zero (by omega)
    subst h0
    exact ⟨v, w, run_append_owned_none (P := Try.prog) (w := w) base 22 ty 5 i0 1 Try.underlying22 hi v _ _ hown, by simpa using hown, .inr (.inr ⟨rfl, rfl, rfl⟩)⟩
  | some ad =>
    have hm63 : l.length + m.length ≤ maxLen := by simp [maxLen]; omega
    obtain ⟨v', w', hr, ho, hg, -⟩ := run_append_own (P := Try.prog) w base 22 ty 5 i0 (.int .u8 0) 1 1 Try.underlying22 hi hz0 hz1 hz2 rfl (by decide) v _ _ hown ad m.length cap (vbs m) (by simp [vbs]) (h4 ad rfl) (vbs_oneCell m) hm63 (by omega) hbase
    refine ⟨v', w', hr, Own.of ho (by simp) (by rw [vbs_append]), ?_⟩
    rcases hown.2 with ⟨rfl, hn⟩ | ⟨g, c, cur, rfl, hb, hh, k1, k2, k3, k4⟩
    · obtain rfl : l = [] := List.eq_nil_of_length_eq_zero hn
      obtain ⟨v2, w2, hr2, ho2, -, -⟩ := run_append_own (P := Try.prog) w w.heap.size 22 ty 5 i0 (.int .u8 0) 1 1 Try.underlying22 hi hz0 hz1 hz2 rfl (by decide) (.slice none 0 0) 0 [] (World.ownsRow_nil _ _ _ _) ad m.length cap (vbs m) (by simp [vbs]) (h4 ad rfl) (vbs_oneCell m) (by omega) (by omega) (Nat.le_refl _)
      obtain ⟨rfl, rfl⟩ := ok_inj hr hr2
      exact .inr (.inl ⟨hg, fun q hq => (ho2.lt q hq).1⟩)
    · by_cases hroom : l.length + m.length ≤ c
      · have hr2 := run_append_room (P := Try.prog) w 22 ty 5 i0 Try.underlying22 hi g l.length c cur hh ad m.length cap (vbs m) (by rw [hz1]; simp [vbs]) (h4 ad rfl) (vbs_oneCell m) hroom (by rw [hz1, vbs_length]; omega)
        obtain ⟨e1, -⟩ := ok_inj hr2 hr
        exact .inl ⟨g, c, rfl, by rw [e1]; simp, hg⟩
      · have hr2 := run_append_grow (P := Try.prog) w 22 ty 5 i0 (.int .u8 0) Try.underlying22 hi hz0 ⟨g, 0, none⟩ l.length c (vbs l) (by rw [hz1]; simp [vbs]) (hown.out.cells rfl) ad m.length cap (vbs m) (by rw [hz1]; simp [vbs]) (h4 ad rfl) (by omega) (by simp only [maxLen] at hm63; omega) (by rw [hz2]; exact growslice_fits (by omega) (by omega))
        obtain ⟨e1, e2⟩ := ok_inj hr2 hr
        refine .inr (.inl ⟨?_, ?_⟩)
        · rw [e2]
          exact ⟨rfl, rfl, rfl, by simp, fun k hk _ => heap_alloc_old w.drew _ hk⟩
        · intro q hq
          rw [e1] at hq
          simp [Value.ownBlock] at hq
          omega

theorem run_append_kept_string (w : World) (base : Nat) (ty : TypeId) (v : Value) (l : List UInt8) (hown : Own w base v l) (s : ByteArray)
    (hl : l.length + s.size ≤ 140737488355328) (hbase : base ≤ w.heap.size) :
    ∃ v' w', (Builtin.append_ #[22, 9] ty #[v, .string s]).run Try.prog w = .ok v' w' ∧ Appended w w' base v v' l s.data.toList := by
  obtain ⟨i0, hi, hz0, hz1, hz2⟩ := info_parts Try.infoU8
  have hsz : s.data.toList.length = s.size := by rw [Array.length_toList]; rfl
  have hm63 : l.length + s.size ≤ maxLen := by simp [maxLen]; omega
  obtain ⟨v', w', hr, ho, hg, -⟩ := Lib.run_append_own_string (P := Try.prog) w base 22 9 ty 5 i0 Try.underlying22 Try.underlying9 hi hz0 hz1 hz2 v _ _ hown s hm63 hl hbase
  refine ⟨v', w', hr, Own.of ho (by rw [List.length_append, hsz]) (by rw [vbs_append, strCells_vbs]), ?_⟩
  rcases hown.2 with ⟨rfl, hn⟩ | ⟨g, c, cur, rfl, hb, hh, k1, k2, k3, k4⟩
  · obtain rfl : l = [] := List.eq_nil_of_length_eq_zero hn
    obtain ⟨v2, w2, hr2, ho2, -, -⟩ := Lib.run_append_own_string (P := Try.prog) w w.heap.size 22 9 ty 5 i0 Try.underlying22 Try.underlying9 hi hz0 hz1 hz2 (.slice none 0 0) 0 [] (World.ownsRow_nil _ _ _ _) s (by simpa using hm63) (by simpa using hl) (Nat.le_refl _)
    obtain ⟨rfl, rfl⟩ := ok_inj hr hr2
    exact .inr (.inl ⟨hg, fun q hq => (ho2.lt q hq).1⟩)
  · by_cases hroom : l.length + s.size ≤ c
    · have hr2 := Lib.run_append_room_string (P := Try.prog) w 22 9 ty 5 i0 Try.underlying22 Try.underlying9 hi hz1 g l.length c cur hh s hroom (by omega)
      obtain ⟨e1, -⟩ := ok_inj hr2 hr
      exact .inl ⟨g, c, rfl, by rw [e1, List.length_append, hsz], hg⟩
    · have hr2 := Lib.run_append_grow_string (P := Try.prog) w 22 9 ty 5 i0 (.int .u8 0) Try.underlying22 Try.underlying9 hi hz0 ⟨g, 0, none⟩ l.length c (vbs l) (by rw [hz1]; simp [vbs]) (hown.out.cells rfl) s (by omega) (by simp only [maxLen] at hm63; omega) (by rw [hz2]; exact growslice_fits (by omega) (by omega))
      obtain ⟨e1, e2⟩ := ok_inj hr2 hr
      refine .inr (.inl ⟨?_, ?_⟩)
      · rw [e2]
        exact ⟨rfl, rfl, rfl, by simp, fun k hk _ => heap_alloc_old w.drew _ hk⟩
      · intro q hq
        rw [e1] at hq
        simp [Value.ownBlock] at hq
        omega

theorem wpList_append_kept {w : World} {ops : Array Oper} {rest : List Oper} {o : Oper} {a : Act} {Q : Exit → Act → World → Prop} (hgd : o.guard = none) (s x : Operand)
    (ho : o.op = .call { callee := .builtin .append, args := #[s, x], argTypes := #[22, 22] })
    (base : Nat) (v : Value) (l : List UInt8) (hs : a.eval s = v) (hown : Own w base v l) (y : Value) (m : List UInt8) (hx : a.eval x = y) (hbs : Bs w y m)
    (hl : l.length + m.length ≤ 140737488355328) (hbase : base ≤ w.heap.size)
    (h : ∀ v' w', Appended w w' base v v' l m → wpList Try.prog ops Q rest (a.put o.dst v') w') : wpList Try.prog ops Q (o :: rest) a w := by
  refine wpList_plain hgd fun K hK => ?_
  obtain ⟨v', w', hr, h2⟩ := run_append_kept w base o.type v l hown y m hbs hl hbase
  unfold Oper.wp execOp
  simp only [ho, resolve, invoke, builtin, Sem.run_bind, Sem.run_pure, Result.andThen_ok, List.map_toArray, List.map_cons, List.map_nil, hs, hx, hr]
  exact hK _ _ (h v' w' h2)

theorem wpList_append_kept_string {w : World} {ops : Array Oper} {rest : List Oper} {o : Oper} {a : Act} {Q : Exit → Act → World → Prop} (hgd : o.guard = none) (s x : Operand)
    (ho : o.op = .call { callee := .builtin .append, args := #[s, x], argTypes := #[22, 9] })
    (base : Nat) (v : Value) (l : List UInt8) (hs : a.eval s = v) (hown : Own w base v l) (y : ByteArray) (hx : a.eval x = .string y)
    (hl : l.length + y.size ≤ 140737488355328) (hbase : base ≤ w.heap.size)
    (h : ∀ v' w', Appended w w' base v v' l y.data.toList → wpList Try.prog ops Q rest (a.put o.dst v') w') : wpList Try.prog ops Q (o :: rest) a w := by
  refine wpList_plain hgd fun K hK => ?_
  obtain ⟨v', w', hr, h2⟩ := run_append_kept_string w base o.type v l hown y hl hbase
  unfold Oper.wp execOp
  simp only [ho, resolve, invoke, builtin, Sem.run_bind, Sem.run_pure, Result.andThen_ok, List.map_toArray, List.map_cons, List.map_nil, hs, hx, hr]
  exact hK _ _ (h v' w' h2)

/-- v, that held l when it began (world w), holds it still in wr, and b holds L. -/
structure Spare (w wr : World) (base : Nat) (v : Value) (l : List UInt8) (b : Value) (L : List UInt8) : Prop where
  own : Own wr base b L
  old : Own wr base v l
  grown : w.grownBy wr v.ownBlock
  rel : (∃ g cap, v = .slice (some ⟨g, 0, none⟩) l.length cap ∧ b = .slice (some ⟨g, 0, none⟩) L.length cap) ∨ ∀ q, b.ownBlock = some q → w.heap.size ≤ q

theorem Own.front {w : World} {base g cap : Nat} {l T : List UInt8} (h : Own w base (.slice (some ⟨g, 0, none⟩) (l ++ T).length cap) (l ++ T)) : Own w base (.slice (some ⟨g, 0, none⟩) l.length cap) l := by
  refine ⟨by simp [vbs], .inr ?_⟩
  rcases h.2 with ⟨h', _⟩ | ⟨g', cap', cur, h', hb, hh, k1, k2, k3, k4⟩
  · simp at h'
  · simp only [Value.slice.injEq, Option.some.injEq, Addr.mk.injEq, and_true, true_and] at h'
    obtain ⟨rfl, rfl⟩ := h'
    rw [List.length_append] at k1
    refine ⟨g, cap, cur, rfl, hb, hh, by omega, k2, k3, ?_⟩
    rw [Nat.mul_one] at k4 ⊢
    have := congrArg (List.take l.length) k4
    rw [List.take_take, Nat.min_eq_left (by simp), vbs_append, ← vbs_length l, List.take_left] at this
    rw [← vbs_length l]
    exact this

theorem Spare.start {w : World} {base : Nat} {v : Value} {l : List UInt8} (h : Own w base v l) : Spare w w base v l v l := by
  refine ⟨h, h, World.grownBy.refl _ _, ?_⟩
  rcases h.2 with ⟨rfl, hn⟩ | ⟨g, c, cur, rfl, -⟩
  · exact .inr (by simp [Value.ownBlock])
  · exact .inl ⟨g, c, rfl, rfl⟩

theorem Spare.below {w wr w' : World} {base : Nat} {v b : Value} {l L : List UInt8} (h : Spare w wr base v l b L) (hb : Below wr.heap.size wr w') : Spare w w' base v l b L := by
  refine ⟨h.own.below hb, h.old.below hb, ?_, h.rel⟩
  exact ⟨hb.os.trans h.grown.os, hb.tape.trans h.grown.tape, hb.output.trans h.grown.output, Nat.le_trans h.grown.size hb.size,
    fun k hk hne => (hb.block k (Nat.lt_of_lt_of_le hk h.grown.size)).trans (h.grown.block k hk hne)⟩

theorem Spare.step {w wr w' : World} {base : Nat} {v b b' : Value} {l T m : List UInt8} (hv : Own w base v l) (h : Spare w wr base v l b (l ++ T)) (a : Appended wr w' base b b' (l ++ T) m) : Spare w w' base v l b' (l ++ (T ++ m)) := by
  have hlt := fun q (hq : v.ownBlock = some q) => (hv.out.lt q hq).2
  obtain ⟨hown, a⟩ := a
  rw [List.append_assoc] at hown
  have gtrans : ∀ row, wr.grownBy w' row → (row = v.ownBlock ∨ ∀ q, row = some q → w.heap.size ≤ q) → w.grownBy w' v.ownBlock := by
    intro row hg hrow
    refine ⟨hg.os.trans h.grown.os, hg.tape.trans h.grown.tape, hg.output.trans h.grown.output, Nat.le_trans h.grown.size hg.size, fun k hk hne => ?_⟩
    refine (hg.block k (Nat.lt_of_lt_of_le hk h.grown.size) ?_).trans (h.grown.block k hk hne)
    rcases hrow with rfl | hrow
    · exact hne
    · intro e
      have := hrow k e.symm
      omega
  rcases a with ⟨g, cap, rfl, rfl, hg⟩ | ⟨hg, hq⟩ | ⟨rfl, rfl, rfl⟩
  · rcases h.rel with ⟨g', cap', e1, e2⟩ | hrel
    · simp only [Value.slice.injEq, Option.some.injEq, Addr.mk.injEq, and_true, true_and] at e2
      obtain ⟨rfl, rfl⟩ := e2
      subst e1
      refine ⟨hown, ?_, gtrans _ hg (.inl rfl), .inl ⟨g, cap, rfl, by rw [List.append_assoc]⟩⟩
      rw [List.append_assoc] at hown
      exact hown.front
    · have hgw := hrel g rfl
      refine ⟨hown, World.ownsRow.kept h.old hg ?_, gtrans _ hg (.inr fun q e => by cases e; exact hgw), .inr fun q e => ?_⟩
      · right
        intro e
        have := hlt g e
        omega
      · simp [Value.ownBlock] at e
        omega
  · refine ⟨hown, h.old.below (grownBy_below hg), gtrans _ hg (.inr fun q e => by cases e), .inr fun q e => Nat.le_trans h.grown.size (hq q e)⟩
  · rw [List.append_nil]
    exact h

theorem refByte_any (base : Nat) (v : Value) (l : List UInt8) (x : Int) (hl : l.length ≤ 1099511627776) (w : World) (hb : base ≤ w.heap.size) (hown : Own w base v l) :
    Calls Try.prog 15 #[v, .int .i64 x] w fun e w' => ∃ v', e = .returned v' ∧ Spare w w' base v l v' (l ++ le x 1) := by
  have e1 : le x 1 = [byteOf x] := by simp [le, List.range_succ]
  have hal : Below w.heap.size w (w.alloc (.cells #[.int .u8 (x % 256)] 5)) := (Below.refl _ _).alloc (Nat.le_refl _) _
  have hst := (Spare.start hown).below hal
  rw [e1]
  go_enter Try.func15, Try.ntmps15
  go_wp2_with (at_builtin; refine wpList_append_kept rfl _ _ rfl base _ _ rfl (hown.alloc _) _ _ rfl (Bs.one _ (byteOf x) _ ?a1) ?a2 ?a3 ?_)
  case a1 => rw [vb_byteOf]
  case a2 => simp only [List.length_cons, List.length_nil]; omega
  case a3 => simp; omega
  intro v' w' ha
  have hs := Spare.step (T := []) hown (by simpa using hst) (by simpa using ha)
  clear ha hst hal e1
  go_wp2
  go_ret
  exact ⟨_, rfl, hs⟩

theorem shr_byte (x : Int) (k : Nat) (hk : k < 8) : IntKind.u64.wrap x / 2 ^ (8 * k) % 256 = x / 2 ^ (8 * k) % 256 := by
  rw [IntKind.wrap_u64]
  match k, hk with
  | 0, _ => simp only [Nat.reduceMul, Int.reducePow]; omega
  | 1, _ => simp only [Nat.reduceMul, Int.reducePow]; omega
  | 2, _ => simp only [Nat.reduceMul, Int.reducePow]; omega
  | 3, _ => simp only [Nat.reduceMul, Int.reducePow]; omega
  | 4, _ => simp only [Nat.reduceMul, Int.reducePow]; omega
  | 5, _ => simp only [Nat.reduceMul, Int.reducePow]; omega
  | 6, _ => simp only [Nat.reduceMul, Int.reducePow]; omega
  | 7, _ => simp only [Nat.reduceMul, Int.reducePow]; omega

theorem refInt_any (base : Nat) (v : Value) (l : List UInt8) (x : Int) (hl : l.length ≤ 1099511627776) (w : World) (hb : base ≤ w.heap.size) (hown : Own w base v l) :
    Calls Try.prog 13 #[v, .int .i64 x] w fun e w' => ∃ v', e = .returned v' ∧ Spare w w' base v l v' (l ++ le x 8) := by
  go_enter Try.func13, Try.ntmps13
  go_wp2
  go_loopw [0, 5] (fun b i wr => ∃ k : Nat, k ≤ 8 ∧ i = .int .i64 k ∧ Spare w wr base v l b (l ++ le x k)) (fun _ i _ => 8 - (intOf i).toNat)
  case atStart => exact ⟨0, by omega, rfl, by simpa [le] using Spare.start hown⟩
  case round =>
    obtain ⟨k, hk, rfl, hsp⟩ := hrel
    have hsz := hsp.grown.size
    have hll := le_length x k
    by_cases hlt : k < 8
    · have hal : Below wr.heap.size wr (wr.alloc (.cells #[.int .u8 (IntKind.u64.wrap x / 2 ^ (8 * k) % 256)] 5)) := (Below.refl _ _).alloc (Nat.le_refl _) _
      have hst := hsp.below hal
      have hown1 := hst.own
      have HS := Lib.hid hst
      have HE := Lib.hid (shr_byte x k hlt)
      clear hal hst hsp
      go_wp2_with (at_builtin; refine wpList_append_kept rfl _ _ rfl base _ _ rfl hown1 _ _ rfl (Bs.one _ (byteOf (x / 2 ^ (8 * k))) _ ?a1) ?a2 ?a3 ?_)
      case a1 => rw [vb_byteOf, HE.out]
      case a2 => simp only [List.length_append, List.length_cons, List.length_nil]; omega
      case a3 => simp; omega
      intro v' w' ha
      have hs := Spare.step hown HS.out ha
      rw [← le_succ] at hs
      clear ha HS HE hown1
      go_wp2
      go_roundw
      case rel => exact ⟨k + 1, by omega, by go_num, hs⟩
      case measure => simp [intOf]; omega
    · obtain rfl : k = 8 := by omega
      go_wp2
      go_ret
      exact ⟨_, rfl, hsp⟩

theorem refText_any (base : Nat) (v : Value) (l : List UInt8) (s : ByteArray) (hs : s.size ≤ 65535) (hl : l.length ≤ 1099511627776) (w : World) (hb : base ≤ w.heap.size) (hown : Own w base v l) :
    Calls Try.prog 17 #[v, .string s] w fun e w' => ∃ v', e = .returned v' ∧ Spare w w' base v l v' (l ++ tx s) := by
  have hle : (s.size : Int) ≤ 65535 := by omega
  have hsz : s.data.toList.length = s.size := by rw [Array.length_toList]; rfl
  have e2 : le (s.size : Int) 2 = [byteOf s.size, byteOf ((s.size : Int) / 256)] := by simp [le, List.range_succ]
  have etx : tx s = [byteOf s.size, byteOf ((s.size : Int) / 256)] ++ s.data.toList := by
    unfold tx
    rw [← e2, List.take_of_length_le (by omega)]
    congr 2
    omega
  have hal : Below w.heap.size w (w.alloc (.cells #[.int .u8 ((s.size : Int) % 256), .int .u8 ((s.size : Int) / 256)] 5)) := (Below.refl _ _).alloc (Nat.le_refl _) _
  have hst := (Spare.start hown).below hal
  rw [etx]
  clear e2 etx
  go_enter Try.func17, Try.ntmps17
  go_wp2_with (at_builtin; refine wpList_append_kept rfl _ _ rfl base _ _ rfl (hown.alloc _) _ _ rfl (Bs.two _ (byteOf s.size) (byteOf ((s.size : Int) / 256)) _ _ ?a1 ?a2) ?a3 ?a4 ?_)
  case a1 => rw [vb_byteOf]
  case a2 => rw [vb_byteOf]; congr 1; omega
  case a3 => simp only [List.length_cons, List.length_nil]; omega
  case a4 => simp; omega
  intro v1 w1 ha
  have hs1 := Spare.step (T := []) hown (by simpa using hst) (by simpa using ha)
  have hz1 := hs1.grown.size
  have ho1 := hs1.own
  have HS := Lib.hid hs1
  clear ha hst hal hs1
  rw [List.nil_append] at ho1
  go_wp2_with (at_builtin; refine wpList_append_kept_string rfl _ _ rfl base _ _ rfl ho1 _ rfl ?b1 ?b2 ?_)
  case b1 => simp only [List.length_append, List.length_cons, List.length_nil]; omega
  case b2 => omega
  intro v2 w2 ha2
  have hs2 := Spare.step hown HS.out ha2
  rw [List.nil_append] at hs2
  clear ha2 HS ho1
  go_wp2
  go_ret
  exact ⟨_, rfl, hs2⟩
end Go.Proofs.Ytkgdplbkhkafgaa
