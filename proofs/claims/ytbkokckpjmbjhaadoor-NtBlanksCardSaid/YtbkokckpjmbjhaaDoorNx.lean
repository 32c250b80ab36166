/- Triples equal; Same. -/
import Derived.Test.YtbkokckpjmbjhaaDoorNu
namespace Go.Proofs.YtbkokckpjmbjhaaDoor
open Go.RowKit Go.Shelf
set_option maxRecDepth 100000
set_option linter.unusedVariables false
def eqB9 (x y : Tm) : Bool := x.k == y.k && (x.s.toList == y.s.toList && (x.l.toList == y.l.toList && x.t.toList == y.t.toList))
theorem eqB9_self (x : Tm) : eqB9 x x = true := by unfold eqB9; simp
theorem equal_trm (k k2 : Int) (s s2 l l2 t t2 : ByteArray) (w : World) : (Op.equalIn 9999 31 (.agg #[.int .i64 k, .string s, .string l, .string t]) (.agg #[.int .i64 k2, .string s2, .string l2, .string t2])).run Tryd.prog w = .ok (eqB9 ⟨k, s, l, t⟩ ⟨k2, s2, l2, t2⟩) w := by
  unfold eqB9
  dsimp only
  cases h1 : k == k2 <;> cases h2 : s.toList == s2.toList <;> cases h3 : l.toList == l2.toList <;> cases h4 : t.toList == t2.toList
  all_goals go_simp
theorem equal_tri (x y : Tri3) (w : World) : (Op.equalIn 10000 33 (tri x.1 x.2.1 x.2.2) (tri y.1 y.2.1 y.2.2)).run Tryd.prog w = .ok (eqB9 x.1 y.1 && (eqB9 x.2.1 y.2.1 && eqB9 x.2.2 y.2.2)) w := by
  obtain ⟨⟨x1k, x1s, x1l, x1t⟩, ⟨x2k, x2s, x2l, x2t⟩, ⟨x3k, x3s, x3l, x3t⟩⟩ := x
  obtain ⟨⟨y1k, y1s, y1l, y1t⟩, ⟨y2k, y2s, y2l, y2t⟩, ⟨y3k, y3s, y3l, y3t⟩⟩ := y
  obtain ⟨i, hi⟩ : ∃ i, Tryd.prog.info? 31 = some i := Option.isSome_iff_exists.1 (by kernel_rfl)
  have hc : Tryd.prog.cellsOf 31 = 4 := by kernel_rfl
  unfold tri
  dsimp only
  rw [run_equalIn_array w 9999 _ _ Tryd.underlying33 hi, hc, show List.range 3 = [0, 1, 2] from rfl]
  have h1 := equal_trm x1k y1k x1s y1s x1l y1l x1t y1t w
  have h2 := equal_trm x2k y2k x2s y2s x2l y2l x2t y2t w
  have h3 := equal_trm x3k y3k x3s y3s x3l y3l x3t y3t w
  generalize eqB9 _ _ = b1 at h1 ⊢
  generalize eqB9 _ _ = b2 at h2 ⊢
  generalize eqB9 _ _ = b3 at h3 ⊢
  have px0 : (part 31 #[.int .i64 x1k, .string x1s, .string x1l, .string x1t, .int .i64 x2k, .string x2s, .string x2l, .string x2t, .int .i64 x3k, .string x3s, .string x3l, .string x3t] 0).run Tryd.prog w = .ok (.agg #[.int .i64 x1k, .string x1s, .string x1l, .string x1t]) w := by go_simp
  have px1 : (part 31 #[.int .i64 x1k, .string x1s, .string x1l, .string x1t, .int .i64 x2k, .string x2s, .string x2l, .string x2t, .int .i64 x3k, .string x3s, .string x3l, .string x3t] 4).run Tryd.prog w = .ok (.agg #[.int .i64 x2k, .string x2s, .string x2l, .string x2t]) w := by go_simp
  have px2 : (part 31 #[.int .i64 x1k, .string x1s, .string x1l, .string x1t, .int .i64 x2k, .string x2s, .string x2l, .string x2t, .int .i64 x3k, .string x3s, .string x3l, .string x3t] 8).run Tryd.prog w = .ok (.agg #[.int .i64 x3k, .string x3s, .string x3l, .string x3t]) w := by go_simp
  have py0 : (part 31 #[.int .i64 y1k, .string y1s, .string y1l, .string y1t, .int .i64 y2k, .string y2s, .string y2l, .string y2t, .int .i64 y3k, .string y3s, .string y3l, .string y3t] 0).run Tryd.prog w = .ok (.agg #[.int .i64 y1k, .string y1s, .string y1l, .string y1t]) w := by go_simp
  have py1 : (part 31 #[.int .i64 y1k, .string y1s, .string y1l, .string y1t, .int .i64 y2k, .string y2s, .string y2l, .string y2t, .int .i64 y3k, .string y3s, .string y3l, .string y3t] 4).run Tryd.prog w = .ok (.agg #[.int .i64 y2k, .string y2s, .string y2l, .string y2t]) w := by go_simp
  have py2 : (part 31 #[.int .i64 y1k, .string y1s, .string y1l, .string y1t, .int .i64 y2k, .string y2s, .string y2l, .string y2t, .int .i64 y3k, .string y3s, .string y3l, .string y3t] 8).run Tryd.prog w = .ok (.agg #[.int .i64 y3k, .string y3s, .string y3l, .string y3t]) w := by go_simp
  simp only [Op.eqItems, Nat.zero_mul, Nat.one_mul, Nat.reduceMul, Sem.run_bind, px0, py0, Result.andThen_ok, h1]
  cases b1 <;> cases b2 <;> cases b3 <;> simp [h2, h3, Sem.run_bind, px1, px2, py1, py2, Result.andThen_ok]
theorem eq3_self (x : Tri3) : (eqB9 x.1 x.1 && (eqB9 x.2.1 x.2.1 && eqB9 x.2.2 x.2.2)) = true := by simp [eqB9_self]
set_option maxHeartbeats 8000000 in
theorem same9_any {w : World} {v1 v2 : Value} {l : List Tri3} (h1 : Trs w v1 l) (h2 : Trs w v2 l) (hl : l.length ≤ 1000000) :
    Calls Tryd.prog 11 #[v1, v2] w fun e w' => e = .returned (.bool true) ∧ Below w.heap.size w w' := by
  obtain ⟨a1, cap1, rfl, -, -, hE1⟩ := h1
  obtain ⟨a2, cap2, rfl, -, -, hE2⟩ := h2
  obtain ⟨n, hn⟩ : ∃ n, n = l.length := ⟨_, rfl⟩
  rw [← hn] at hl ⊢
  have HN := Lib.hid hn
  have HE1 := Lib.hid hE1
  have HE2 := Lib.hid hE2
  have hni : (n : Int) ≤ 1000000 := by omega
  clear hn hE1 hE2
  go_enter Tryd.func11, Tryd.ntmps11
  go_wp2_with fail
  go_loopg [5] n (fun g s5 wx => ∃ i : Nat, i + g = n ∧ s5 = .int .i64 i ∧ ∃ m, wx = w.drewN m)
  case atStart => exact ⟨0, by omega, rfl, 0, rfl⟩
  case round =>
    obtain ⟨i, hig, rfl, m, rfl⟩ := hrel
    cases gk with
    | zero =>
      obtain rfl : i = n := by omega
      have hn : ¬ ((i : Int) < i) := by omega
      go_wp2_with fail
      go_ret
      exact ⟨rfl, ⟨rfl, rfl, rfl, Nat.le_refl _, fun _ _ => rfl⟩⟩
    | succ g =>
      have hi : i < n := by omega
      have hil : i < l.length := by rw [← HN.out]; exact hi
      have hii : (i : Int) < n := by omega
      obtain ⟨x, hx⟩ : ∃ x, x = l[i] := ⟨_, rfl⟩
      obtain ⟨b1, o1, rfl, -, hA⟩ := HE1.out i hil
      obtain ⟨b2, o2, rfl, -, hB⟩ := HE2.out i hil
      rw [← hx] at hA hB
      have heq := fun w => equal_tri x x w
      rw [eq3_self] at heq
      obtain ⟨⟨x1k, x1s, x1l, x1t⟩, ⟨x2k, x2s, x2l, x2t⟩, ⟨x3k, x3s, x3l, x3t⟩⟩ := x
      obtain ⟨⟨c0, c1, c2, c3, -⟩, ⟨c4, c5, c6, c7, -⟩, ⟨c8, c9, c10, c11, -⟩⟩ := hA
      obtain ⟨⟨d0, d1, d2, d3, -⟩, ⟨d4, d5, d6, d7, -⟩, ⟨d8, d9, d10, d11, -⟩⟩ := hB
      unfold tri at heq
      dsimp only at c0 c1 c2 c3 c4 c5 c6 c7 c8 c9 c10 c11 d0 d1 d2 d3 d4 d5 d6 d7 d8 d9 d10 d11 heq
      rw [Nat.add_assoc (o1 + i * 12)] at c5 c6 c7 c9 c10 c11
      rw [Nat.add_assoc (o2 + i * 12)] at d5 d6 d7 d9 d10 d11
      simp only [Nat.reduceAdd] at c5 c6 c7 c9 c10 c11 d5 d6 d7 d9 d10 d11
      clear hx
      go_wp2_with fail
      go_quiet (fail)
      go_wp2_with fail
      go_roundg g
      case measure => omega
      case rel => exact ⟨i + 1, by omega, by go_num, _, by first | rfl | (simp; rfl)⟩
end Go.Proofs.YtbkokckpjmbjhaaDoor
