/- triadref13's Div: rows of digits, plainly. -/
import Derived.Test.YtodhklapikfpoaaDoorVf
import Derived.Test.YtodhklapikfpoaaDoorVd
import Derived.Deep.AppendLies
namespace Go.Proofs.YtodhklapikfpoaaDoor
open Go.RowKit Go.Shelf Flo
set_option maxRecDepth 100000
set_option linter.unusedVariables false
set_option linter.unusedSimpArgs false

/-- what is left behind so many digits; these digits. -/
def restN (r N : Nat) : Nat → Nat
  | 0 => r
  | j + 1 => 10 * restN r N j % N
def digsN (r N : Nat) : Nat → List Nat
  | 0 => []
  | j + 1 => digsN r N j ++ [10 * restN r N j / N]
def valN (q : Nat) (l : List Nat) : Nat := l.foldl (fun a d => 10 * a + d) q
theorem valN_snoc (q : Nat) (l : List Nat) (d : Nat) : valN q (l ++ [d]) = 10 * valN q l + d := by simp [valN]
theorem valN_app (q : Nat) (l l2 : List Nat) : valN q (l ++ l2) = valN (valN q l) l2 := by simp [valN]
theorem valN_ge : ∀ (l : List Nat) (q : Nat), q ≤ valN q l
  | [], q => Nat.le_refl _
  | d :: l, q => by
    have := valN_ge l (10 * q + d)
    show q ≤ valN (10 * q + d) l
    omega
theorem restN_lt {r N : Nat} (h : r < N) : ∀ j, restN r N j < N
  | 0 => h
  | j + 1 => Nat.mod_lt _ (by omega)
theorem digsN_len (r N : Nat) : ∀ j, (digsN r N j).length = j
  | 0 => rfl
  | j + 1 => by simp [digsN, digsN_len r N j]
theorem dig_le {R N : Nat} (h : R < N) : 10 * R / N ≤ 9 := by
  refine Nat.le_of_lt_succ ((Nat.div_lt_iff_lt_mul (by omega)).2 ?_)
  omega
theorem digsN_le {r N : Nat} (h : r < N) : ∀ j, ∀ d ∈ digsN r N j, d ≤ 9
  | 0, d, hd => by cases hd
  | j + 1, d, hd => by
    rcases List.mem_append.1 hd with hd | hd
    · exact digsN_le h j d hd
    · rw [List.mem_singleton.1 hd]; exact dig_le (restN_lt h j)
theorem val_inv (q : Nat) {r N : Nat} : ∀ j, valN q (digsN r N j) * N + restN r N j = (q * N + r) * 10 ^ j
  | 0 => by simp [valN, digsN, restN]
  | j + 1 => by
    have ih := val_inv q (r := r) (N := N) j
    rw [digsN, valN_snoc, restN, Nat.pow_succ, ← Nat.mul_assoc, ← ih, Nat.add_mul]
    have := Nat.div_add_mod (10 * restN r N j) N
    rw [Nat.mul_comm N] at this
    rw [Nat.add_assoc, this, Nat.add_mul, Nat.mul_assoc 10, Nat.mul_comm 10, Nat.mul_comm 10]
theorem val_div (A j : Nat) {N : Nat} (h : 0 < N) : valN (A / N) (digsN (A % N) N j) = A * 10 ^ j / N := by
  have hv := val_inv (A / N) (r := A % N) (N := N) j
  rw [Nat.mul_comm (A / N) N, Nat.div_add_mod A N] at hv
  rw [← hv, Nat.mul_comm _ N, Nat.mul_add_div h, Nat.div_eq_of_lt (restN_lt (Nat.mod_lt _ h) j), Nat.add_zero]
theorem valN_zeros (q : Nat) : ∀ z, valN q (List.replicate z 0) = q * 10 ^ z
  | 0 => by simp [valN]
  | z + 1 => by
    rw [List.replicate_succ', valN_snoc, valN_zeros q z, Nat.pow_succ, Nat.add_zero, Nat.mul_comm, Nat.mul_assoc]

theorem decP_far {M : Int} {c : Nat} (h : 999999999999999 < M.natAbs) : decP (M, c) = .tuple #[.agg #[.int .i64 0, .int .i64 0], .bool false] := by
  unfold decP
  rw [if_neg (by simp [fitsL]; omega)]
/-- where the noughts at the end are taken away. -/
theorem div_short (b : Bool) {Q v k n z : Nat} (hQ : Q = v * 10 ^ z) (h6 : 6 = k + n + z) : nrm (sgnI b (Q : Int)) 6 = nrm (sgnI b (v : Int)) (k + n) := by
  have := nrm_ten (sgnI b (v : Int)) z (k + n)
  rw [← h6] at this
  rw [← this, hQ]
  cases b
  · show nrm ((v * 10 ^ z : Nat) : Int) 6 = nrm ((v : Int) * _) 6
    rw [Int.natCast_mul]
  · show nrm (-((v * 10 ^ z : Nat) : Int)) 6 = nrm (-(v : Int) * _) 6
    rw [Int.natCast_mul, Int.neg_mul]
/-- where it is too great. -/
theorem div_over (b : Bool) {Q v k n z : Nat} (hQ : Q = v * 10 ^ z) (h6 : 6 = k + n + z) (hv : 999999999999999 < v) (hd : ¬ v % 10 = 0) :
    decP (nrm (sgnI b (Q : Int)) 6) = .tuple #[.agg #[.int .i64 0, .int .i64 0], .bool false] := by
  rw [div_short b hQ h6]
  cases b
  · show decP (nrm (v : Int) _) = _
    rw [nrm_stay _ _ (by omega)]
    exact decP_far (by omega)
  · show decP (nrm (-(v : Int)) _) = _
    rw [nrm_stay _ _ (by omega)]
    exact decP_far (by omega)

/-- rows of numbers of the call's own. -/
def OwN (w : World) (base : Nat) (v : Value) (l : List Nat) : Prop := w.ownsRow base 3 1 v l.length (l.map fun n : Nat => Value.int .i64 (n : Int))
theorem OwN.nil (w : World) (base : Nat) : OwN w base (.slice none 0 0) [] := World.ownsRow_nil _ _ _ _
theorem OwN.lt {w : World} {base : Nat} {v : Value} {l : List Nat} (h : OwN w base v l) : ∀ q, v.ownBlock = some q → base ≤ q ∧ q < w.heap.size := World.ownsRow.lt h
theorem OwN.form {w : World} {base : Nat} {v : Value} {l : List Nat} (h : OwN w base v l) : ∃ so cap, v = .slice so l.length cap ∧ l.length ≤ cap ∧ cap ≤ 9223372036854775807 := by
  rcases h.2 with ⟨rfl, hn⟩ | ⟨g, cap, cur, rfl, -, -, h1, h2, -⟩
  · exact ⟨none, 0, by rw [hn], by omega, by omega⟩
  · exact ⟨_, cap, rfl, h1, h2⟩
theorem OwN.below {w w' : World} {base : Nat} {v : Value} {l : List Nat} (h : OwN w base v l) (hb : Below w.heap.size w w') : OwN w' base v l :=
  World.ownsRow.kept h (⟨hb.os, hb.tape, hb.output, hb.size, fun k hk _ => hb.block k hk⟩ : w.grownBy w' none) (by cases hv : v.ownBlock <;> simp)
theorem OwN.at {w : World} {base : Nat} {v : Value} {l : List Nat} (h : OwN w base v l) (h0 : 0 < l.length) :
    ∃ g cap, v = .slice (some ⟨g, 0, none⟩) l.length cap ∧ l.length ≤ cap ∧ cap ≤ 9223372036854775807 ∧ ∀ (j : Nat) (d : Nat), l[j]? = some d → w.cell? ⟨g, j, none⟩ = some (.int .i64 (d : Int)) := by
  rcases h.2 with ⟨-, hn⟩ | ⟨g, cap, cur, rfl, -, -, h1, h2, -⟩
  · omega
  · refine ⟨g, cap, rfl, h1, h2, fun j d hj => ?_⟩
    have := World.ownsRow.cells h (g := g) rfl j (.int .i64 (d : Int)) (by simp [hj])
    rwa [Addr.add_lit, Nat.zero_add] at this
theorem OwN.last {w : World} {base : Nat} {v : Value} {l : List Nat} {a : Nat} (h : OwN w base v (l ++ [a])) :
    ∃ g cap, v = .slice (some ⟨g, 0, none⟩) (l.length + 1) cap ∧ l.length + 1 ≤ cap ∧ cap ≤ 9223372036854775807 ∧ w.cell? ⟨g, l.length, none⟩ = some (.int .i64 (a : Int)) ∧ OwN w base (.slice (some ⟨g, 0, none⟩) l.length cap) l := by
  have e : (l ++ [a]).length = l.length + 1 := by simp
  obtain ⟨g, cap, hv, k1, k2, hc⟩ := h.at (by omega)
  rw [e] at hv k1
  refine ⟨g, cap, hv, k1, k2, hc l.length a (by simp), ?_⟩
  rcases h.2 with ⟨-, hn⟩ | ⟨g', cap', cur, hv', hb, hh, h1, h2, h3, h4⟩
  · omega
  · rw [hv, e] at hv'
    simp only [Value.slice.injEq, Option.some.injEq, Addr.mk.injEq] at hv'
    obtain ⟨⟨rfl, -, -⟩, -, rfl⟩ := hv'
    refine ⟨by simp, .inr ⟨g, cap, cur, rfl, hb, hh, by omega, h2, h3, ?_⟩⟩
    have h5 := congrArg (List.take l.length) h4
    rw [List.take_take, Nat.min_eq_left (by omega), List.map_append, List.take_left' (by simp)] at h5
    rw [Nat.mul_one]
    exact h5
theorem OwN.stays {w w' : World} {base B : Nat} {v : Value} {l : List Nat} (h : OwN w base v l) (hg : w.grownBy w' v.ownBlock) (hB : B ≤ base) (hz : B ≤ w.heap.size) : Below B w w' :=
  Below.grown (Below.refl B w) hg hz (fun q hq => Nat.le_trans hB (h.lt q hq).1)
theorem Tryd.infoIntV : (Tryd.prog.info? 3).map (fun i => (i.zero, i.size, i.bytes)) = some (some (.int .i64 0), 1, 8) := by kernel_rfl
theorem wpList_append_nat {w : World} {ops : Array Oper} {rest : List Oper} {o : Oper} {a : Act} {Q : Exit → Act → World → Prop} (hgd : o.guard = none) (s x : Operand)
    (ho : o.op = .call { callee := .builtin .append, args := #[s, x], argTypes := #[32, 32] }) (base : Nat) (hbase : base ≤ w.heap.size)
    (v : Value) (l : List Nat) (hs : a.eval s = v) (hown : OwN w base v l) (g0 : Nat) (hx : a.eval x = .slice (some ⟨g0, 0, none⟩) 1 1) (e : Nat) (hg : w.cell? ⟨g0, 0, none⟩ = some (.int .i64 (e : Int))) (n : Nat) (hn : n = l.length + 1) (hl : n ≤ 1000000)
    (h : ∀ ao cap w', OwN w' base (.slice ao n cap) (l ++ [e]) → w.grownBy w' v.ownBlock → wpList Tryd.prog ops Q rest (a.put o.dst (.slice ao n cap)) w') :
    wpList Tryd.prog ops Q (o :: rest) a w := by
  obtain ⟨i0, hi, hi2⟩ := Option.map_eq_some_iff.1 Tryd.infoIntV
  simp only [Prod.mk.injEq] at hi2
  obtain ⟨hz0, hz1, hz2⟩ := hi2
  refine wpList_append_lies w hgd s x _ ho base 3 i0 _ 1 8 Tryd.underlying32 hi hz0 hz1 hz2 rfl (by decide) v l.length (l.map fun n : Nat => Value.int .i64 (n : Int)) hs hown ⟨g0, 0, none⟩ 1 1 [.int .i64 (e : Int)] hx rfl ?_ ?_ (by decide) (by simp [maxLen]; omega) (by omega) hbase _ rfl ?_
  · intro j u hj
    cases j with
    | zero => simp at hj; subst hj; rw [Addr.add_lit]; exact hg
    | succ j => simp at hj
  · intro u hu
    simp at hu
    rcases hu with rfl
    rfl
  · intro g cap w' k1 k2 k3 k4
    subst hn
    refine h _ _ w' ?_ k2
    unfold OwN
    rw [List.length_append, List.map_append]
    exact k1
end Go.Proofs.YtodhklapikfpoaaDoor
