/- Triples as text: TurtleLabels' documents. -/
import Derived.Test.YtpoedjbodkdglaaGreatDoorUx
import Derived.Deep.AppendLies
import Derived.Deep.LoopGhost
namespace Go.Proofs.YtpoedjbodkdglaaGreatDoor
open Go.RowKit Go.Shelf
set_option maxRecDepth 1000000
set_option linter.unusedVariables false
def labU : Nat → List UInt8
  | 0 => [49]
  | 1 => [91, 93]
  | 2 => [91, 32, 60, 113, 58, 113, 62, 32, 91, 93, 32, 93]
  | 3 => [40, 49, 32, 50, 41]
  | _ => [34, 97, 34]
def labN : Nat → Nat
  | 0 => 1
  | 1 => 2
  | 2 => 3
  | 3 => 3
  | _ => 1
/-- The document, and how many blanks it has. -/
def labD (m : Nat) : Nat → List UInt8
  | 0 => []
  | n + 1 => ((labD m n ++ [91, 93, 32, 60, 112, 58, 112, 62, 32]) ++ labU ((n + m) % 5)) ++ [32, 46, 10]
def labC (m : Nat) : Nat → Nat
  | 0 => 0
  | n + 1 => labC m n + labN ((n + m) % 5)
def labG : Bool → ByteArray
  | true => ⟨#[122, 122, 95]⟩
  | false => ⟨#[103]⟩
/-- The subjects and objects, in their order. -/
def subs : List Tri3 → List Tm
  | [] => []
  | x :: r => x.1 :: x.2.2 :: subs r
def sameB (a b : ByteArray) : Bool := a.data.toList == b.data.toList
theorem sameB_iff {a b : ByteArray} : sameB a b = true ↔ a = b := by
  unfold sameB
  rw [beq_iff_eq]
  exact ⟨fun h => ba_ext h, fun h => by rw [h]⟩
/-- Is s among the first j? -/
def anyN (sn : List ByteArray) (s : ByteArray) : Nat → Bool
  | 0 => false
  | j + 1 => anyN sn s j || sameB (sn.getD j ⟨#[]⟩) s
def seenS (sn : List ByteArray) (t : Tm) : List ByteArray := if t.k = 2 then (if anyN sn t.s sn.length then sn else sn ++ [t.s]) else sn
def seenQ (T : List Tm) : Nat → List ByteArray
  | 0 => []
  | q + 1 => match T[q]? with
    | some t => seenS (seenQ T q) t
    | none => seenQ T q
def seenA : List Tm → List ByteArray → List ByteArray
  | [], sn => sn
  | t :: r, sn => seenA r (seenS sn t)
theorem seenQ_app (T U : List Tm) : ∀ q, q ≤ T.length → seenQ (T ++ U) q = seenQ T q
  | 0, _ => rfl
  | q + 1, h => by
    rw [seenQ, seenQ, List.getElem?_append_left (by omega), seenQ_app T U q (by omega)]
theorem seenA_eq : ∀ (U T : List Tm), seenA U (seenQ T T.length) = seenQ (T ++ U) (T ++ U).length
  | [], T => by rw [List.append_nil]; rfl
  | t :: r, T => by
    have ih := seenA_eq r (T ++ [t])
    rw [List.append_assoc] at ih
    rw [seenA, show T ++ t :: r = T ++ ([t] ++ r) from rfl, ← ih]
    congr 1
    rw [show (T ++ [t]).length = T.length + 1 by simp, seenQ, List.getElem?_append_right (Nat.le_refl _), Nat.sub_self, seenQ_app T [t] _ (Nat.le_refl _)]
    rfl
theorem seenQ_len (T : List Tm) : ∀ q, (seenQ T q).length ≤ q
  | 0 => Nat.le_refl _
  | q + 1 => by
    have ih := seenQ_len T q
    rw [seenQ]
    split
    · unfold seenS
      split
      · split
        · omega
        · rw [List.length_append]; simp; omega
      · omega
    · omega
def prefOk (g : ByteArray) (t : Tm) : Bool := t.k != 2 || (decide (g.data.toList.length < t.s.data.toList.length) && t.s.data.toList.take g.data.toList.length == g.data.toList)
def labOk (b : Bool) (m n : Nat) : Bool := match turtleL ⟨#[]⟩ (labG b) (labD m n) with
  | (l, e) => e == 0 && ((subs l).all (prefOk (labG b)) && ((seenA (subs l) []).length == labC m n && decide (l.length ≤ 1000)))
theorem lab_all : ∀ (b : Bool) (m : Fin 5) (n : Fin 9), labOk b m.val (n.val + 1) = true := by decide +kernel
theorem lab_facts (b : Bool) (m n : Nat) (hm : m < 5) (hn : n < 9) : ∃ l : List Tri3, turtleL ⟨#[]⟩ (labG b) (labD m (n + 1)) = (l, 0) ∧ (∀ t ∈ subs l, prefOk (labG b) t = true) ∧ (seenQ (subs l) (subs l).length).length = labC m (n + 1) ∧ l.length ≤ 1000 := by
  have h := lab_all b ⟨m, hm⟩ ⟨n, hn⟩
  unfold labOk at h
  dsimp only at h
  generalize turtleL ⟨#[]⟩ (labG b) (labD m (n + 1)) = R at h ⊢
  obtain ⟨l, e⟩ := R
  dsimp only at h
  simp only [Bool.and_eq_true, beq_iff_eq, decide_eq_true_eq, List.all_eq_true] at h
  obtain ⟨rfl, h1, h2, h3⟩ := h
  have k := seenA_eq (subs l) []
  rw [List.nil_append] at k
  exact ⟨l, rfl, h1, by rw [← k]; exact h2, h3⟩
theorem subs_len : ∀ l : List Tri3, (subs l).length = 2 * l.length
  | [] => rfl
  | x :: r => by rw [subs, List.length_cons, List.length_cons, subs_len r, List.length_cons]; omega
theorem subs_even : ∀ (l : List Tri3) (i : Nat) (h : i < l.length), (subs l)[2 * i]? = some l[i].1
  | x :: r, 0, _ => rfl
  | x :: r, i + 1, h => by
    have := subs_even r i (by simpa using h)
    rw [subs, show 2 * (i + 1) = 2 * i + 1 + 1 by omega, List.getElem?_cons_succ, List.getElem?_cons_succ, this]
    rfl
theorem subs_odd : ∀ (l : List Tri3) (i : Nat) (h : i < l.length), (subs l)[2 * i + 1]? = some l[i].2.2
  | x :: r, 0, _ => rfl
  | x :: r, i + 1, h => by
    have := subs_odd r i (by simpa using h)
    rw [subs, show 2 * (i + 1) + 1 = 2 * i + 1 + 1 + 1 by omega, List.getElem?_cons_succ, List.getElem?_cons_succ, this]
    rfl
theorem labU_len (k : Nat) : (labU k).length ≤ 12 := by
  unfold labU
  split <;> decide
theorem labD_len (m n : Nat) : (labD m n).length ≤ 24 * n := by
  induction n with
  | zero => exact Nat.le_refl _
  | succ n ih =>
    have := labU_len ((n + m) % 5)
    simp only [labD, List.length_append, List.length_cons, List.length_nil]
    omega
theorem labC_le (m n : Nat) : labC m n ≤ 3 * n := by
  induction n with
  | zero => exact Nat.le_refl _
  | succ n ih =>
    have : labN ((n + m) % 5) ≤ 3 := by unfold labN; split <;> decide
    rw [labC]
    omega
end Go.Proofs.YtpoedjbodkdglaaGreatDoor
/- Rows of strings of the call's own; Same of a row with itself. -/
namespace Go.Proofs.YtpoedjbodkdglaaGreatDoor
open Go.RowKit Go.Shelf
set_option maxRecDepth 100000
set_option linter.unusedVariables false
set_option linter.unusedSimpArgs false
def strs2 (l : List ByteArray) : List Value := l.map Value.string
def OwS (w : World) (base : Nat) (v : Value) (l : List ByteArray) : Prop := w.ownsRow base 9 1 v l.length (strs2 l)
theorem OwS.nil (w : World) (base : Nat) : OwS w base (.slice none 0 0) [] := World.ownsRow_nil _ _ _ _
theorem OwS.lt {w : World} {base : Nat} {v : Value} {l : List ByteArray} (h : OwS w base v l) : ∀ q, v.ownBlock = some q → base ≤ q ∧ q < w.heap.size := World.ownsRow.lt h
theorem OwS.form {w : World} {base : Nat} {v : Value} {l : List ByteArray} (h : OwS w base v l) : ∃ ao cap, v = .slice ao l.length cap ∧ l.length ≤ cap ∧ cap ≤ 9223372036854775807 := owns_form h
theorem OwS.moved {P : Nat → Prop} {w w' : World} {base : Nat} {v : Value} {l : List ByteArray} (h : OwS w base v l) (hm : Moved P w w') (hP : ∀ q, v.ownBlock = some q → ¬ P q) : OwS w' base v l := owns_moved h hm hP
theorem OwS.below {w w' : World} {base : Nat} {v : Value} {l : List ByteArray} (h : OwS w base v l) (hb : Below w.heap.size w w') : OwS w' base v l := h.moved (Moved.of_below hb (fun _ => False)) (fun _ _ h => h)
theorem OwS.at1 {w : World} {base : Nat} {ao : Option Addr} {n cap : Nat} {l : List ByteArray} (h : OwS w base (.slice ao n cap) l) (hl : 0 < l.length) :
    ∃ g, ao = some ⟨g, 0, none⟩ ∧ base ≤ g ∧ g < w.heap.size ∧ ∀ j, j < l.length → w.cell? ⟨g, j, none⟩ = some (.string (l.getD j ⟨#[]⟩)) := by
  rcases h.2 with ⟨h1, h2⟩ | ⟨g, cap', cur, h1, h2, h3, k⟩
  · omega
  · cases h1
    have hc := h.cells (g := g) rfl
    refine ⟨g, rfl, (h.lt g rfl).1, (h.lt g rfl).2, fun j hj => ?_⟩
    have d1 := hc j (.string (l.getD j ⟨#[]⟩)) (by
      unfold strs2
      rw [List.getElem?_map, List.getElem?_eq_getElem hj]
      simp [hj])
    rw [Addr.add_mid, Nat.zero_add] at d1
    exact d1
theorem Tryz.infoStrG : (Tryz.prog.info? 9).map (fun i => (i.zero, i.size, i.bytes)) = some (some (.string ⟨#[]⟩), 1, 16) := by kernel_rfl
theorem wpList_append_st {w : World} {ops : Array Oper} {rest : List Oper} {o : Oper} {a : Act} {Q : Exit → Act → World → Prop} (hgd : o.guard = none) (s x : Operand)
    (ho : o.op = .call { callee := .builtin .append, args := #[s, x], argTypes := #[24, 24] }) (base : Nat) (hbase : base ≤ w.heap.size)
    (v : Value) (l : List ByteArray) (hs : a.eval s = v) (hown : OwS w base v l) (g0 : Nat) (hx : a.eval x = .slice (some ⟨g0, 0, none⟩) 1 1) (e : ByteArray) (hg : Blk w g0 #[.string e] 9) (n : Nat) (hn : n = l.length + 1) (hl : n ≤ 1000000)
    (h : ∀ ao cap w', OwS w' base (.slice ao n cap) (l ++ [e]) → n ≤ cap → cap ≤ 9223372036854775807 → w.grownBy w' v.ownBlock → (∀ q, (Value.slice ao n cap).ownBlock = some q → v.ownBlock = some q ∨ w.heap.size ≤ q) → wpList Tryz.prog ops Q rest (a.put o.dst (.slice ao n cap)) w') :
    wpList Tryz.prog ops Q (o :: rest) a w := by
  obtain ⟨i0, hi, hz0, hz1, hz2⟩ := info_parts Tryz.infoStrG
  refine wpList_append_lies w hgd s x _ ho base 9 i0 _ 1 16 Tryz.underlying24 hi hz0 hz1 hz2 rfl (by decide) v l.length (strs2 l) hs hown ⟨g0, 0, none⟩ 1 1 [.string e] hx rfl ?_ ?_ (by decide) (by simp [maxLen]; omega) (by omega) hbase _ rfl ?_
  · intro j u hj
    rw [show (⟨g0, 0, none⟩ : Addr).add j = ⟨g0, j, none⟩ from by unfold Addr.add; split <;> simp_all, hg.cell]
    simpa using hj
  · intro u hu
    simp at hu
    rcases hu with rfl
    rfl
  · intro g cap w' k1 k2 k3 k4
    subst hn
    obtain ⟨aox, capx, ex, hx1, hx2⟩ := owns_form k1
    simp only [Value.slice.injEq] at ex
    obtain ⟨-, -, rfl⟩ := ex
    refine h _ _ w' ?_ hx1 hx2 k2 (fun q hq => ?_)
    · unfold OwS
      rw [List.length_append]
      simpa [strs2] using k1
    · have : g = q := Option.some.inj hq
      subst this
      rcases k3 with k3 | k3
      · exact .inl k3
      · exact .inr (by omega)
def eqB9 (x y : Tm) : Bool := x.k == y.k && (x.s.toList == y.s.toList && (x.l.toList == y.l.toList && x.t.toList == y.t.toList))
theorem eqB9_self (x : Tm) : eqB9 x x = true := by unfold eqB9; simp
theorem equal_trm (k k2 : Int) (s s2 l l2 t t2 : ByteArray) (w : World) : (Op.equalIn 9999 34 (.agg #[.int .i64 k, .string s, .string l, .string t]) (.agg #[.int .i64 k2, .string s2, .string l2, .string t2])).run Tryz.prog w = .ok (eqB9 ⟨k, s, l, t⟩ ⟨k2, s2, l2, t2⟩) w := by
  unfold eqB9
  dsimp only
  cases h1 : k == k2 <;> cases h2 : s.toList == s2.toList <;> cases h3 : l.toList == l2.toList <;> cases h4 : t.toList == t2.toList
  all_goals go_simp
theorem equal_tri (x y : Tri3) (w : World) : (Op.equalIn 10000 36 (tri x.1 x.2.1 x.2.2) (tri y.1 y.2.1 y.2.2)).run Tryz.prog w = .ok (eqB9 x.1 y.1 && (eqB9 x.2.1 y.2.1 && eqB9 x.2.2 y.2.2)) w := by
  obtain ⟨⟨x1k, x1s, x1l, x1t⟩, ⟨x2k, x2s, x2l, x2t⟩, ⟨x3k, x3s, x3l, x3t⟩⟩ := x
  obtain ⟨⟨y1k, y1s, y1l, y1t⟩, ⟨y2k, y2s, y2l, y2t⟩, ⟨y3k, y3s, y3l, y3t⟩⟩ := y
  obtain ⟨i, hi⟩ : ∃ i, Tryz.prog.info? 34 = some i := Option.isSome_iff_exists.1 (by kernel_rfl)
  have hc : Tryz.prog.cellsOf 34 = 4 := by kernel_rfl
  unfold tri
  dsimp only
  rw [run_equalIn_array w 9999 _ _ Tryz.underlying36 hi, hc, show List.range 3 = [0, 1, 2] from rfl]
  have h1 := equal_trm x1k y1k x1s y1s x1l y1l x1t y1t w
  have h2 := equal_trm x2k y2k x2s y2s x2l y2l x2t y2t w
  have h3 := equal_trm x3k y3k x3s y3s x3l y3l x3t y3t w
  generalize eqB9 _ _ = b1 at h1 ⊢
  generalize eqB9 _ _ = b2 at h2 ⊢
  generalize eqB9 _ _ = b3 at h3 ⊢
  have px0 : (part 34 #[.int .i64 x1k, .string x1s, .string x1l, .string x1t, .int .i64 x2k, .string x2s, .string x2l, .string x2t, .int .i64 x3k, .string x3s, .string x3l, .string x3t] 0).run Tryz.prog w = .ok (.agg #[.int .i64 x1k, .string x1s, .string x1l, .string x1t]) w := by go_simp
  have px1 : (part 34 #[.int .i64 x1k, .string x1s, .string x1l, .string x1t, .int .i64 x2k, .string x2s, .string x2l, .string x2t, .int .i64 x3k, .string x3s, .string x3l, .string x3t] 4).run Tryz.prog w = .ok (.agg #[.int .i64 x2k, .string x2s, .string x2l, .string x2t]) w := by go_simp
  have px2 : (part 34 #[.int .i64 x1k, .string x1s, .string x1l, .string x1t, .int .i64 x2k, .string x2s, .string x2l, .string x2t, .int .i64 x3k, .string x3s, .string x3l, .string x3t] 8).run Tryz.prog w = .ok (.agg #[.int .i64 x3k, .string x3s, .string x3l, .string x3t]) w := by go_simp
  have py0 : (part 34 #[.int .i64 y1k, .string y1s, .string y1l, .string y1t, .int .i64 y2k, .string y2s, .string y2l, .string y2t, .int .i64 y3k, .string y3s, .string y3l, .string y3t] 0).run Tryz.prog w = .ok (.agg #[.int .i64 y1k, .string y1s, .string y1l, .string y1t]) w := by go_simp
  have py1 : (part 34 #[.int .i64 y1k, .string y1s, .string y1l, .string y1t, .int .i64 y2k, .string y2s, .string y2l, .string y2t, .int .i64 y3k, .string y3s, .string y3l, .string y3t] 4).run Tryz.prog w = .ok (.agg #[.int .i64 y2k, .string y2s, .string y2l, .string y2t]) w := by go_simp
  have py2 : (part 34 #[.int .i64 y1k, .string y1s, .string y1l, .string y1t, .int .i64 y2k, .string y2s, .string y2l, .string y2t, .int .i64 y3k, .string y3s, .string y3l, .string y3t] 8).run Tryz.prog w = .ok (.agg #[.int .i64 y3k, .string y3s, .string y3l, .string y3t]) w := by go_simp
  simp only [Op.eqItems, Nat.zero_mul, Nat.one_mul, Nat.reduceMul, Sem.run_bind, px0, py0, Result.andThen_ok, h1]
  cases b1 <;> cases b2 <;> cases b3 <;> simp [h2, h3, Sem.run_bind, px1, px2, py1, py2, Result.andThen_ok]
theorem eq3_self (x : Tri3) : (eqB9 x.1 x.1 && (eqB9 x.2.1 x.2.1 && eqB9 x.2.2 x.2.2)) = true := by simp [eqB9_self]
set_option maxHeartbeats 8000000 in
theorem same12_any {w : World} {g cap : Nat} {l : List Tri3} (h : ∀ j t, l[j]? = some t → ∀ i v, (rcells1 t)[i]? = some v → w.cell? ⟨g, 12 * j + i, none⟩ = some v) (hl : l.length ≤ 1000000) :
    Calls Tryz.prog 12 #[.slice (some ⟨g, 0, none⟩) l.length cap, .slice (some ⟨g, 0, none⟩) l.length cap] w fun e w' => e = .returned (.bool true) ∧ Below w.heap.size w w' := by
  obtain ⟨n, hn⟩ : ∃ n, n = l.length := ⟨_, rfl⟩
  rw [← hn] at hl ⊢
  have HN := Lib.hid hn
  have HE1 := Lib.hid h
  have hni : (n : Int) ≤ 1000000 := by omega
  clear hn h
  go_enter Tryz.func12, Tryz.ntmps12
  go_wp2_with fail
  go_loopg [5] n (fun g s5 wx => ∃ i : Nat, i + g = n ∧ s5 = .int .i64 i ∧ ∃ m, wx = w.drewN m)
  case atStart => exact ⟨0, by omega, rfl, 0, rfl⟩
  case round =>
    obtain ⟨i, hig, rfl, m, rfl⟩ := hrel
    cases gk with
    | zero =>
      obtain rfl : i = n := by omega
      have hn : ¬ ((i : Int) < i) := by omega
      go_wp2_with fail
      go_ret
      exact ⟨rfl, ⟨rfl, rfl, rfl, Nat.le_refl _, fun _ _ => rfl⟩⟩
    | succ gg =>
      have hi : i < n := by omega
      have hil : i < l.length := by rw [← HN.out]; exact hi
      have hii : (i : Int) < n := by omega
      obtain ⟨x, hx⟩ : ∃ x, x = l[i] := ⟨_, rfl⟩
      have hA := HE1.out i x (by rw [hx]; exact List.getElem?_eq_getElem hil)
      rw [Nat.mul_comm 12 i] at hA
      have heq := fun w => equal_tri x x w
      rw [eq3_self] at heq
      obtain ⟨⟨x1k, x1s, x1l, x1t⟩, ⟨x2k, x2s, x2l, x2t⟩, ⟨x3k, x3s, x3l, x3t⟩⟩ := x
      have c0 : w.cell? ⟨g, i * 12, none⟩ = some (.int .i64 x1k) := hA 0 _ rfl
      have c1 := hA 1 _ rfl
      have c2 := hA 2 _ rfl
      have c3 := hA 3 _ rfl
      have c4 := hA 4 _ rfl
      have c5 := hA 5 _ rfl
      have c6 := hA 6 _ rfl
      have c7 := hA 7 _ rfl
      have c8 := hA 8 _ rfl
      have c9 := hA 9 _ rfl
      have c10 := hA 10 _ rfl
      have c11 := hA 11 _ rfl
      unfold tri at heq
      dsimp only at c1 c2 c3 c4 c5 c6 c7 c8 c9 c10 c11 heq
      clear hx hA
      go_wp2_with fail
      go_quiet (fail)
      go_wp2_with fail
      go_roundg gg
      case measure => omega
      case rel => exact ⟨i + 1, by omega, by go_num, _, by first | rfl | (simp; rfl)⟩
end Go.Proofs.YtpoedjbodkdglaaGreatDoor
/- The walk of TurtleLabels. -/
namespace Go.Proofs.YtpoedjbodkdglaaGreatDoor
open Go.RowKit Go.Shelf
set_option maxRecDepth 100000
set_option linter.unusedVariables false
set_option linter.unusedSimpArgs false
theorem ba_apl2 (a b : List UInt8) : (⟨a.toArray⟩ : ByteArray) ++ ⟨b.toArray⟩ = ⟨(a ++ b).toArray⟩ := by
  apply ba_ext
  rw [ByteArray.data_append]
  simp
theorem ba_len3 (l : List UInt8) : (⟨l.toArray⟩ : ByteArray).size = l.length := by show l.toArray.size = _; simp
theorem lab_grow (m k : Nat) : (((⟨(labD m k).toArray⟩ : ByteArray) ++ ⟨#[91, 93, 32, 60, 112, 58, 112, 62, 32]⟩) ++ ⟨(labU ((k + m) % 5)).toArray⟩) ++ ⟨#[32, 46, 10]⟩ = ⟨(labD m (k + 1)).toArray⟩ := by
  rw [show (⟨#[91, 93, 32, 60, 112, 58, 112, 62, 32]⟩ : ByteArray) = ⟨([91, 93, 32, 60, 112, 58, 112, 62, 32] : List UInt8).toArray⟩ from rfl, show (⟨#[32, 46, 10]⟩ : ByteArray) = ⟨([32, 46, 10] : List UInt8).toArray⟩ from rfl, ba_apl2, ba_apl2, ba_apl2]; rfl
def labV : Array Value := #[.string ⟨#[49]⟩, .string ⟨#[91, 93]⟩, .string ⟨#[91, 32, 60, 113, 58, 113, 62, 32, 91, 93, 32, 93]⟩, .string ⟨#[40, 49, 32, 50, 41]⟩, .string ⟨#[34, 97, 34]⟩]
def labW : Array Value := #[.int .i64 1, .int .i64 2, .int .i64 3, .int .i64 3, .int .i64 1]
theorem labV_at (k : Nat) (h : k < 5) : labV.toList[k]'h = .string ⟨(labU k).toArray⟩ := by
  match k, h with
  | 0, _ => rfl
  | 1, _ => rfl
  | 2, _ => rfl
  | 3, _ => rfl
  | 4, _ => rfl
theorem labW_at (k : Nat) (h : k < 5) : labW.toList[k]'h = .int .i64 ((labN k : Nat) : Int) := by
  match k, h with
  | 0, _ => rfl
  | 1, _ => rfl
  | 2, _ => rfl
  | 3, _ => rfl
  | 4, _ => rfl
set_option maxHeartbeats 16000000 in
theorem tlabels_walk (x y : Int) (b : Bool) (w : World) (hL : LexAt w) :
    Calls Tryz.prog 8 #[.int .i64 x, .int .i64 y, .bool b] w fun e w' => e = .returned (.bool true) ∧ Below w.heap.size w w' := by
  obtain ⟨n, hn⟩ : ∃ n : Nat, x % 9 = n := ⟨(x % 9).toNat, by omega⟩
  obtain ⟨m, hm⟩ : ∃ m : Nat, y % 5 = m := ⟨(y % 5).toNat, by omega⟩
  have hn2 : n < 9 := by omega
  have hm2 : m < 5 := by omega
  have H1 := Lib.hid hn
  have H2 := Lib.hid hm
  clear hn hm
  have HK := Lib.hid (known12_any w hL)
  have HLA := Lib.hid (fun w' (hb : Below w.heap.size w w') => hL.below hb)
  obtain ⟨L, hdoc, hpre, hcnt, hlen⟩ := lab_facts b m n hm2 hn2
  have HP := Lib.hid (fun a (ha : a.size ≤ 2000) w (h : LexAt w) => parse12 a ⟨#[]⟩ (labG b) (Nat.le_trans ha (by decide)) (by decide) (by cases b <;> decide) w h)
  have HE := Lib.hid hdoc
  have HPR := Lib.hid hpre
  have HCN := Lib.hid hcnt
  have hgs : (labG b).size ≤ 3 := by cases b <;> decide
  have hg0 : 0 < (labG b).size := by cases b <;> decide
  obtain ⟨G, hG⟩ : ∃ G, G = labG b := ⟨_, rfl⟩
  rw [← hG] at HP HE HPR hgs hg0
  have HG := Lib.hid hG
  have HN := Lib.hid (And.intro hn2 hm2)
  have HLN := Lib.hid hlen
  have hni : (n : Int) < 9 := by omega
  have hmi : (m : Int) < 5 := by omega
  have hn0 : (0 : Int) ≤ n := by omega
  have hm0 : (0 : Int) ≤ m := by omega
  clear hL hn2 hm2 hdoc hpre hcnt hlen hG
  go_enter Tryz.func8, Tryz.ntmps8
  go_wp2_with fail
  refine HK.out.mono ?_
  rintro e w1 ⟨rfl, hb1⟩
  have HB1 := Lib.hid hb1
  clear hb1
  go_wp2_with fail
  refine (within12_eq x 9 (by omega) (by omega) _).mono ?_
  rintro e w2 ⟨rfl, hw⟩
  subst hw
  rw [H1.out]
  go_wp2_with fail
  refine (within12_eq y 5 (by omega) (by omega) _).mono ?_
  rintro e w3 ⟨rfl, hw⟩
  subst hw
  rw [H2.out]
  go_upto_if 26 with fail
  go_cut [7] from 27 to 27 (fun s7 wx => s7 = .string G ∧ wx = w3)
  case first =>
    cases b
    · go_wp2_with fail
      go_meet
      exact ⟨by rw [HG.out]; rfl, rfl⟩
    · go_wp2_with fail
      go_meet
      exact ⟨by rw [HG.out]; rfl, rfl⟩
  case rest =>
    obtain ⟨rfl, rfl⟩ := hcut
    go_wp2_with fail
    go_loopw [8, 9] (fun s8 s9 wr => ∃ j : Nat, j ≤ n + 1 ∧ s9 = .int .i64 (j : Int) ∧ s8 = .string ⟨(labD m j).toArray⟩ ∧ Below w.heap.size w wr) (fun _ i _ => 40 - (intOf i).toNat)
    case atStart => exact ⟨0, by omega, rfl, rfl, HB1.out⟩
    case round =>
      obtain ⟨j, hj, rfl, rfl, hwr⟩ := hrel
      have HB := Lib.hid hwr
      clear hwr
      have HJ := Lib.hid hj
      have hji : (j : Int) ≤ 1 + n := by omega
      have hj0 : (0 : Int) ≤ j := by omega
      by_cases hjn : (j : Int) < 1 + n
      · have hgr := lab_grow m j
        obtain ⟨q, hq⟩ : ∃ q, q = (j + m) % 5 := ⟨_, rfl⟩
        have hq5 : q < 5 := by omega
        have hrem : Int.tmod ((j : Int) + m) 5 = (q : Int) := by rw [Int.tmod_eq_emod_of_nonneg (by omega)]; omega
        have hba := labV_at q hq5
        rw [← hq] at hgr
        have hus := labU_len q
        obtain ⟨X, hX⟩ : ∃ X : ByteArray, X = ⟨(labD m j).toArray⟩ := ⟨_, rfl⟩
        obtain ⟨Z, hZ⟩ : ∃ Z : ByteArray, Z = ⟨(labU q).toArray⟩ := ⟨_, rfl⟩
        have hxs : X.size ≤ 300 := by
          have := labD_len m j
          rw [hX, ba_len3]
          have := HN.out
          omega
        have hzs : Z.size ≤ 12 := by
          rw [hZ, ba_len3]
          omega
        rw [← hZ] at hba
        rw [← hX, ← hZ] at hgr
        rw [← hX]
        have HGR := Lib.hid hgr
        have hqi : (q : Int) < 5 := by omega
        have hq0 : (0 : Int) ≤ q := by omega
        unfold labV at hba
        clear hgr hX hj hZ hus hq
        go_wp2_with (first | rw [hrem] | rw [hba] | fail)
        go_roundw
        case rel => exact ⟨j + 1, by omega, by go_num, by rw [HGR.out], HB.out.trans (((Below.refl _ wr).alloc (Nat.le_refl _) _).mono HB.out.size)⟩
        case measure => simp [intOf]; omega
      · obtain rfl : j = n + 1 := by omega
        clear hjn hj hji hj0
        obtain ⟨X, hX⟩ : ∃ X : ByteArray, X = ⟨(labD m (n + 1)).toArray⟩ := ⟨_, rfl⟩
        have hxs : X.size ≤ 300 := by
          have := labD_len m (n + 1)
          rw [hX, ba_len3]
          have := HN.out
          omega
        rw [← hX]
        have hQ : ∀ w (h : LexAt w), Calls Tryz.prog 11 #[.string X, .string ⟨#[]⟩, .string G] w (TurTo (L, 0) w) := by
          intro w h
          have := HP.out X (by omega) w h
          have e : X.data.toList = labD m (n + 1) := by rw [hX]
          rw [e, HE.out] at this
          exact this
        have HQ := Lib.hid hQ
        clear hX hQ
        go_wp2_with fail
        refine (HQ.out _ (HLA.out _ HB.out)).mono ?_
        intro e w5 h
        unfold TurTo at h
        dsimp only at h
        obtain ⟨ao, cap, rfl, hb, ho⟩ := h
        have hpos : 0 < L.length := by
          rcases Nat.eq_zero_or_pos L.length with h0 | h0
          · have h1 := HCN.out
            have h2 : L = [] := List.eq_nil_of_length_eq_zero h0
            rw [h2] at h1
            have h3 : 1 ≤ labN ((n + m) % 5) := by unfold labN; split <;> decide
            have h4 : labC m (n + 1) = 0 := h1.symm
            rw [labC] at h4
            omega
          · exact h0
        obtain ⟨g, rfl, hg1, hg2, hg3⟩ := ho.at12 hpos
        have HB5 := Lib.hid (HB.out.trans (hb.mono HB.out.size))
        have HROW := Lib.hid hg3
        have HSM := Lib.hid (fun w' (hb' : Below w5.heap.size w5 w') => same12_any (cap := cap) (fun j t hj i v hv => (hb'.cell (p := ⟨g, 12 * j + i, none⟩) hg2).trans (hg3 j t hj i v hv)) (Nat.le_trans HLN.out (by decide)))
        have HG5 := Lib.hid hg2
        obtain ⟨S, hS⟩ : ∃ S, S = subs L := ⟨_, rfl⟩
        have hsl := subs_len L
        rw [← hS] at hsl HPR HCN
        have HEV := Lib.hid (subs_even L)
        have HOD := Lib.hid (subs_odd L)
        rw [← hS] at HEV HOD
        have HTM := Lib.hid (fun (i d : Nat) (hi : i < L.length) (hd : d < 2) => show ∃ t : Tm, S[2 * i + d]? = some t ∧ w5.cell? ⟨g, i * 12 + (2 * d) * 4, none⟩ = some (.int .i64 t.k) ∧ w5.cell? ⟨g, i * 12 + (2 * d) * 4 + 1, none⟩ = some (.string t.s) from by
          have h1 := hg3 i (L[i]'hi) (List.getElem?_eq_getElem hi)
          rw [Nat.mul_comm 12 i] at h1
          obtain rfl | rfl : d = 0 ∨ d = 1 := by omega
          · exact ⟨_, HEV.out i hi, h1 0 _ rfl, h1 1 _ rfl⟩
          · exact ⟨_, HOD.out i hi, h1 8 _ rfl, h1 9 _ rfl⟩)
        have HSL := Lib.hid hsl
        obtain ⟨N, hN⟩ : ∃ N, N = L.length := ⟨_, rfl⟩
        rw [← hN] at HTM HSM HSL HLN ⊢
        have hNi : (N : Int) ≤ 1000 := by have := HLN.out; omega
        clear hb ho hg1 hg2 hg3 hS hsl hpos hN
        go_wp2_with fail
        generalize hT : w5.heap.size = T at HSM HG5 ⊢
        have HT := Lib.hid hT
        clear hT
        go_loopw [12, 13] (fun s12 s13 wx => ∃ i : Nat, i ≤ N ∧ s13 = .int .i64 (i : Int) ∧ OwS wx T s12 (seenQ S (2 * i)) ∧ Below T w5 wx) (fun _ i _ => 2000 - (intOf i).toNat)
        case atStart => exact ⟨0, by omega, rfl, OwS.nil _ _, by rw [← HT.out]; exact Below.refl _ _⟩
        case round =>
          obtain ⟨i, hi, rfl, hos, hbw⟩ := hrel
          have HBW := Lib.hid hbw
          have HOS := Lib.hid hos
          have hii : (i : Int) ≤ N := by omega
          have hi0 : (0 : Int) ≤ i := by omega
          obtain ⟨ao, cap1, rfl, hc1, hc2⟩ := hos.form
          have HI := Lib.hid hi
          obtain ⟨M, hM⟩ : ∃ M, M = (seenQ S (2 * i)).length := ⟨_, rfl⟩
          rw [← hM] at hc1 HOS ⊢
          have HM := Lib.hid hM
          clear hbw hos hM
          by_cases hin : (i : Int) < N
          · have hinn : i < N := by omega
            clear hi
            go_wp2_with fail
            go_loopw [12, 14] (fun s12 s14 wx => ∃ d k : Nat, d ≤ 2 ∧ k = 2 * d ∧ s14 = .int .i64 (k : Int) ∧ OwS wx T s12 (seenQ S (2 * i + d)) ∧ Below T w5 wx) (fun _ i _ => 10 - (intOf i).toNat)
            case atStart => exact ⟨0, 0, by omega, rfl, rfl, HOS.out, HBW.out⟩
            case round =>
              obtain ⟨d, k, hd, hk, rfl, hos, hbw⟩ := hrel
              have HBX := Lib.hid hbw
              have HOX := Lib.hid hos
              obtain ⟨ao2, cap2, rfl, hc3, hc4⟩ := hos.form
              have hsq := seenQ_len S (2 * i + d)
              obtain ⟨sn, hsn⟩ : ∃ sn, sn = seenQ S (2 * i + d) := ⟨_, rfl⟩
              rw [← hsn] at hc3 HOX hsq ⊢
              have HSN := Lib.hid hsn
              have HDK := Lib.hid (And.intro hd hk)
              have hki : (k : Int) ≤ 4 := by omega
              have hk0 : (0 : Int) ≤ k := by omega
              clear hbw hos hsn
              by_cases hk3 : (k : Int) < 3
              · have hd2 : d < 2 := by omega
                obtain ⟨tm, ht, ck0, cs0⟩ := HTM.out i d hinn hd2
                rw [← hk] at ck0 cs0
                have hgT := HG5.out
                have ck := (HBX.out.cell (p := ⟨g, i * 12 + k * 4, none⟩) hgT).trans ck0
                have cs := (HBX.out.cell (p := ⟨g, i * 12 + k * 4 + 1, none⟩) hgT).trans cs0
                have hpq := HPR.out tm (List.mem_of_getElem? ht)
                have hq1 : seenQ S (2 * i + (d + 1)) = seenS sn tm := by rw [show 2 * i + (d + 1) = (2 * i + d) + 1 by omega, seenQ, ht, HSN.out]
                have HQ1 := Lib.hid hq1
                have HPQ := Lib.hid hpq
                clear ht hpq hq1 hd hgT hk hd2 ck0 cs0
                obtain ⟨tk, ts, tl, tt⟩ := tm
                dsimp only at ck cs HPQ HQ1
                by_cases hk2 : tk = 2
                · subst hk2
                  unfold prefOk at HPQ
                  have hpq := HPQ.out
                  have hlt : G.size < ts.size := by
                    have h1 : G.data.toList.length < ts.data.toList.length := by
                      simp only [bne_self_eq_false, Bool.false_or, Bool.and_eq_true, decide_eq_true_eq] at hpq
                      exact hpq.1
                    rw [← Lib.size_eq, ← Lib.size_eq] at h1
                    exact h1
                  have hex : ts.extract 0 G.size = G := by
                    simp only [bne_self_eq_false, Bool.false_or, Bool.and_eq_true, beq_iff_eq] at hpq
                    apply ba_ext
                    rw [ext_to, List.drop_zero, Nat.sub_zero, Lib.size_eq]
                    exact hpq.2
                  have hlti : (G.size : Int) < ts.size := by omega
                  have hltn : ¬ (ts.size : Int) ≤ G.size := by omega
                  clear hpq hlt
                  go_wp2_with (first | rw [hex] | fail)
                  clear ck hlti hltn hex hc3
                  obtain ⟨wo, hwo⟩ : ∃ z : World, z = wr := ⟨_, rfl⟩
                  rw [← hwo] at HBX HOX cs ⊢
                  clear hwo
                  obtain ⟨M2, hM2⟩ : ∃ M, M = sn.length := ⟨_, rfl⟩
                  rw [← hM2] at hsq HOX ⊢
                  have HM2 := Lib.hid hM2
                  have hM2i : (M2 : Int) ≤ 3000 := by have := HLN.out; have := HDK.out; omega
                  have hM20 : (0 : Int) ≤ M2 := by omega
                  have hTo : T ≤ wo.heap.size := by have := HBX.out.size; have := HT.out; omega
                  have hgo : g < wo.heap.size := Nat.lt_of_lt_of_le HG5.out hTo
                  have HTO := Lib.hid (And.intro hTo hgo)
                  have HCS := Lib.hid cs
                  clear hM2 hsq hTo hgo cs
                  go_loopw [15, 16] (fun s15 s16 wz => ∃ j : Nat, j ≤ M2 ∧ s16 = .int .i64 (j : Int) ∧ s15 = .bool (anyN sn ts j) ∧ Below wo.heap.size wo wz) (fun _ i _ => 5000 - (intOf i).toNat)
                  case atStart => exact ⟨0, by omega, rfl, rfl, Below.refl _ _⟩
                  case round =>
                    obtain ⟨j, hj, rfl, rfl, hbz⟩ := hrel
                    have HBZ := Lib.hid hbz
                    have HJ2 := Lib.hid hj
                    have hji : (j : Int) ≤ M2 := by omega
                    have hj0 : (0 : Int) ≤ j := by omega
                    have cs := (hbz.cell (p := ⟨g, i * 12 + k * 4 + 1, none⟩) HTO.out.2).trans HCS.out
                    obtain ⟨B, hB⟩ : ∃ B, B = anyN sn ts j := ⟨_, rfl⟩
                    rw [← hB]
                    have HB2 := Lib.hid hB
                    clear hB
                    by_cases hjM : (j : Int) < M2
                    · have hjn : j < sn.length := by have := HM2.out; omega
                      obtain ⟨g2, rfl, -, hg2, hc2⟩ := HOX.out.at1 (by omega)
                      have c2 := (hbz.cell (p := ⟨g2, j, none⟩) hg2).trans (hc2 j hjn)
                      obtain ⟨V, hV⟩ : ∃ V, V = sn.getD j ⟨#[]⟩ := ⟨_, rfl⟩
                      rw [← hV] at c2
                      have han : anyN sn ts (j + 1) = (B || sameB V ts) := by rw [anyN, ← HB2.out, hV]
                      have HAN := Lib.hid han
                      clear hbz hj hc2 hV han hjn
                      cases B with
                      | true =>
                        go_wp2_with fail
                        go_quiet (fail)
                        go_wp2_with fail
                        go_roundw
                        case rel => exact ⟨j + 1, by omega, by go_num, by rw [HAN.out]; rfl, HBZ.out.trans ((draws_t _ _).mono HBZ.out.size)⟩
                        case measure => simp [intOf]; omega
                      | false =>
                        by_cases hVt : V = ts
                        · subst hVt
                          go_wp2_with fail
                          go_quiet (fail)
                          go_wp2_with fail
                          go_roundw
                          case rel => exact ⟨j + 1, by omega, by go_num, by rw [HAN.out, sameB_iff.2 rfl]; rfl, HBZ.out.trans ((draws_t _ _).mono HBZ.out.size)⟩
                          case measure => simp [intOf]; omega
                        · have hn3 : ¬ V.toList = ts.toList := by rw [Lib.toList_data, Lib.toList_data]; intro e; exact hVt (ba_ext e)
                          have hn4 : (V.toList == ts.toList) = false := by simpa using hn3
                          have hsb : sameB V ts = false := by
                            cases h : sameB V ts with
                            | false => rfl
                            | true => exact absurd (sameB_iff.1 h) hVt
                          have HSB := Lib.hid hsb
                          clear hsb
                          go_wp2_with fail
                          go_quiet (fail)
                          go_wp2_with fail
                          go_roundw
                          case rel => exact ⟨j + 1, by omega, by go_num, by rw [HAN.out, HSB.out]; rfl, HBZ.out.trans ((draws_t _ _).mono HBZ.out.size)⟩
                          case measure => simp [intOf]; omega
                    · have hjM2 : j = M2 := by omega
                      rw [hjM2] at HB2 hjM ⊢
                      have hown := HOX.out.below hbz
                      have hTr : T ≤ wr.heap.size := Nat.le_trans HTO.out.1 hbz.size
                      have HOWN := Lib.hid hown
                      have HTR := Lib.hid hTr
                      have HBW2 := Lib.hid (HBX.out.trans (hbz.mono HTO.out.1))
                      clear hbz hj hjM2 hji hown hTr
                      cases B with
                      | true =>
                        go_wp2_with fail
                        go_roundw
                        case rel => exact ⟨d + 1, k + 2, by have := HDK.out; omega, by have := HDK.out; omega, by go_num, by rw [HQ1.out, seenS, if_pos rfl, ← HM2.out, ← HB2.out, if_pos rfl]; exact HOWN.out, HBW2.out⟩
                        case measure => simp [intOf]; omega
                      | false =>
                        go_wp2_with (at_builtin; refine wpList_append_st rfl _ _ rfl T (Nat.le_trans HTR.out ((Below.refl wr.heap.size wr).alloc (Nat.le_refl _) _).size) (.slice ao2 M2 cap2) sn rfl (HOWN.out.below ((Below.refl _ _).alloc (Nat.le_refl _) _)) wr.heap.size rfl ts (Blk.new wr #[.string ts] 9) (M2 + 1) (by rw [HM2.out]) (by omega) ?_; intro ao3 cap3 w7 ho7 hh1 hh2 hg7 hq7)
                        have hbf := ((HBW2.out.alloc HTR.out (.cells #[.string ts] 9))).grown hg7 (Nat.le_trans HTR.out ((Below.refl wr.heap.size wr).alloc (Nat.le_refl _) _).size) (fun q hq => (HOWN.out.lt q hq).1)
                        have HBF := Lib.hid hbf
                        have HO7 := Lib.hid ho7
                        clear hbf ho7 hg7 hq7
                        go_wp2_with fail
                        go_roundw
                        case rel => exact ⟨d + 1, k + 2, by have := HDK.out; omega, by have := HDK.out; omega, by go_num, by rw [HQ1.out, seenS, if_pos rfl, ← HM2.out, ← HB2.out, if_neg (by decide)]; have := HO7.out; exact this, HBF.out⟩
                        case measure => simp [intOf]; omega
                · have hke : (tk == 2) = false := by simpa using hk2
                  go_wp2_with fail
                  go_roundw
                  case rel => exact ⟨d + 1, k + 2, by have := HDK.out; omega, by have := HDK.out; omega, by go_num, by rw [HQ1.out, seenS, if_neg hk2]; exact HOX.out, HBX.out⟩
                  case measure => simp [intOf]; omega
              · have hd2 : d = 2 := by omega
                clear hk hd hc3
                go_wp2_with fail
                go_roundw
                case rel => exact ⟨i + 1, by omega, by go_num, by rw [show 2 * (i + 1) = 2 * i + d by omega, ← HSN.out]; exact HOX.out, HBX.out⟩
                case measure => simp [intOf]; omega
          · have hiN : i = N := by omega
            have hMC : M = labC m (n + 1) := by
              have h1 := HCN.out
              rw [HSL.out, ← hiN] at h1
              rw [HM.out]
              exact h1
            have hcl := labC_le m (n + 1)
            have hn9 := HN.out
            obtain ⟨C, hC⟩ : ∃ C, C = labC m (n + 1) := ⟨_, rfl⟩
            rw [← hC] at hMC hcl
            rw [hMC]
            have HC := Lib.hid hC
            have hCi : (C : Int) ≤ 30 := by omega
            clear hc1 hi hMC hcl hn9 hC
            go_wp2_with fail
            go_loopw [17, 18] (fun s17 s18 wz => ∃ j : Nat, j ≤ n + 1 ∧ s18 = .int .i64 (j : Int) ∧ s17 = .int .i64 ((labC m j : Nat) : Int) ∧ Below T w5 wz) (fun _ i _ => 40 - (intOf i).toNat)
            case atStart => exact ⟨0, by omega, rfl, rfl, HBW.out⟩
            case round =>
              obtain ⟨j, hj, rfl, rfl, hbz⟩ := hrel
              have HBZ := Lib.hid hbz
              clear hbz
              have HJ3 := Lib.hid hj
              have hji : (j : Int) ≤ 1 + n := by omega
              have hj0 : (0 : Int) ≤ j := by omega
              by_cases hjn : (j : Int) < 1 + n
              · obtain ⟨q, hq⟩ : ∃ q, q = (j + m) % 5 := ⟨_, rfl⟩
                have hq5 : q < 5 := by omega
                have hrem : Int.tmod ((j : Int) + m) 5 = (q : Int) := by rw [Int.tmod_eq_emod_of_nonneg (by omega)]; omega
                have hba := labW_at q hq5
                have hla : labC m (j + 1) = labC m j + labN q := by rw [labC, ← hq]
                have hlq : labN q ≤ 3 := by unfold labN; split <;> decide
                have hlc := labC_le m j
                have hn9 := HN.out
                obtain ⟨Z, hZ⟩ : ∃ Z, Z = labN q := ⟨_, rfl⟩
                obtain ⟨D, hD⟩ : ∃ D, D = labC m j := ⟨_, rfl⟩
                rw [← hZ] at hba hla hlq
                rw [← hD] at hla hlc ⊢
                have hZi : (Z : Int) ≤ 3 := by omega
                have hZ0 : (0 : Int) ≤ Z := by omega
                have hDi : (D : Int) ≤ 30 := by omega
                have hD0 : (0 : Int) ≤ D := by omega
                have HLA2 := Lib.hid hla
                have hqi : (q : Int) < 5 := by omega
                have hq0 : (0 : Int) ≤ q := by omega
                unfold labW at hba
                have hTr : T ≤ wr.heap.size := by have := HBZ.out.size; have := HT.out; omega
                have HTR := Lib.hid hTr
                clear hla hlq hlc hn9 hZ hD hq hj hTr
                go_wp2_with (first | rw [hrem] | rw [hba] | fail)
                go_roundw
                case rel => exact ⟨j + 1, by omega, by go_num, by rw [HLA2.out]; go_num, HBZ.out.alloc HTR.out _⟩
                case measure => simp [intOf]; omega
              · obtain rfl : j = n + 1 := by omega
                rw [← HC.out]
                have HSB := Lib.hid (HSM.out wr HBZ.out)
                clear hj hji hj0 hjn
                go_wp2_with fail
                refine HSB.out.mono ?_
                rintro e w9 ⟨rfl, hb9⟩
                have HB9 := Lib.hid (HB5.out.trans ((HBZ.out.mono (by have := HT.out; have := HB5.out.size; omega)).trans (hb9.mono (by have := HT.out; have := HB5.out.size; have := HBZ.out.size; omega))))
                clear hb9
                go_wp2_with fail
                go_ret
                exact ⟨rfl, HB9.out⟩
end Go.Proofs.YtpoedjbodkdglaaGreatDoor
