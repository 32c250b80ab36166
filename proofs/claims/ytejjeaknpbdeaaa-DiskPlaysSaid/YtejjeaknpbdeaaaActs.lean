/- A slice of acts that came in, opened. -/
import Derived.Test.YtejjeaknpbdeaaaPlays
import Derived.Deep.Grids
import Derived.Deep.Slices
import Derived.ProofKit
namespace Go.Proofs.Ytejjeaknpbdeaaa
open Go.RowKit Go.ChangeShapes Go.WideShapes

theorem act_fields : ∃ fs : Array Field, Try.prog.underlying 33 = some (.struct fs) ∧ fs.toList.map (fun f => (f.type, f.offset)) = [(3, 0), (3, 1), (3, 2), (30, 3), (31, 4)] := ⟨_, Try.underlying33, by kernel_rfl⟩

theorem act_open {H : Type} {enc : TypeId × Value → H} {W : World} {fuel : Nat} {cs : List Value} {y : DataW H × List MemPlace} {b o : Nat} (hlen : cs.length = 5) (hcell : ∀ j, j < 5 → W.cell? ⟨b, o + j, none⟩ = cs[j]?)
    (h : DataW.trod enc Try.prog W 0 (fun _ => true) true fuel 33 cs = some y) : ∃ a : ActD, ActAt W b o a := by
  obtain ⟨fs, hfs, hm⟩ := act_fields
  obtain ⟨xs, k, -, -, -, hxl, hf⟩ := DataW.trod_struct hfs h
  have c3 : Try.prog.cellsOf 3 = 1 := by kernel_rfl
  have c30 : Try.prog.cellsOf 30 = 1 := by kernel_rfl
  have c31 : Try.prog.cellsOf 31 = 1 := by kernel_rfl
  have hfl : fs.size = 5 := by
    have := congrArg List.length hm
    simpa using this
  have hgt : ∀ j (hj : j < 5), ∃ f, fs[j]? = some f ∧ (f.type, f.offset) = ([(3, 0), (3, 1), (3, 2), (30, 3), (31, 4)] : List (TypeId × Nat))[j]'(by simpa using hj) := by
    intro j hj
    have hjs : j < fs.size := by omega
    refine ⟨fs[j], by simp [hjs], ?_⟩
    have : (fs.toList.map (fun f => (f.type, f.offset)))[j]? = some (fs[j].type, fs[j].offset) := by simp [hjs]
    rw [hm, List.getElem?_eq_getElem (by simpa using hj)] at this
    exact (Option.some.inj this).symm
  match cs, hlen with
  | [v0, v1, v2, v3, v4], _ =>
    match xs, (by omega : xs.length = 5) with
    | [y0, y1, y2, y3, y4], _ =>
      obtain ⟨f0, e0, t0⟩ := hgt 0 (by decide)
      obtain ⟨f1, e1, t1⟩ := hgt 1 (by decide)
      obtain ⟨f2, e2, t2⟩ := hgt 2 (by decide)
      obtain ⟨f3, e3, t3⟩ := hgt 3 (by decide)
      obtain ⟨f4, e4, t4⟩ := hgt 4 (by decide)
      have g0 := hf 0 f0 e0
      have g1 := hf 1 f1 e1
      have g2 := hf 2 f2 e2
      have g3 := hf 3 f3 e3
      have g4 := hf 4 f4 e4
      simp only [List.getElem_cons_zero, List.getElem_cons_succ, Prod.mk.injEq] at t0 t1 t2 t3 t4
      rw [t0.1, t0.2, c3] at g0
      rw [t1.1, t1.2, c3] at g1
      rw [t2.1, t2.2, c3] at g2
      rw [t3.1, t3.2, c30] at g3
      rw [t4.1, t4.2, c31] at g4
      simp only [List.drop_zero, List.drop_succ_cons, List.take_succ_cons, List.take_zero, List.getElem?_cons_zero, List.getElem?_cons_succ] at g0 g1 g2 g3 g4
      obtain ⟨n0, q0, -, -⟩ := DataW.trod_int Try.underlying3 g0
      obtain ⟨n1, q1, -, -⟩ := DataW.trod_int Try.underlying3 g1
      obtain ⟨n2, q2, -, -⟩ := DataW.trod_int Try.underlying3 g2
      simp only [List.cons.injEq, and_true] at q0 q1 q2
      obtain ⟨bs, hbs⟩ : ∃ bs, Bs W v3 bs := by
        rcases open_ints Try.underlying30 Try.underlying5 (by kernel_rfl) g3 with ⟨hcs, _⟩ | ⟨x, l, c, zs, hcs, _, hl, hm, hz, _, hc, hwz⟩
        · simp only [List.cons.injEq, and_true] at hcs
          obtain ⟨l, -, h⟩ := Bs.of_row (w := W) (zs := []) (.inl ⟨rfl, rfl, rfl, rfl⟩)
          exact ⟨l, by rw [hcs]; exact h⟩
        · simp only [List.cons.injEq, and_true] at hcs
          obtain ⟨l', -, h⟩ := Bs.of_row (w := W) (.inr ⟨x, rfl, hl, hm, by simpa using hz, hc, hwz⟩)
          exact ⟨l', by rw [hcs]; exact h⟩
      obtain ⟨ks, hks⟩ : ∃ ks, Bl W v4 ks := by
        rcases Go.Deep.open_bools Try.underlying31 Try.underlying4 (by kernel_rfl) g4 with ⟨hcs, _⟩ | ⟨x, l, c, B, hcs, _, hl, hm, _, hc⟩
        · simp only [List.cons.injEq, and_true] at hcs
          obtain ⟨l, -, h⟩ := Bl.of_row (w := W) (.inl ⟨rfl, rfl, rfl⟩)
          exact ⟨l, by rw [hcs]; exact h⟩
        · simp only [List.cons.injEq, and_true] at hcs
          obtain ⟨l', -, h⟩ := Bl.of_row (w := W) (.inr ⟨x, B, rfl, hl, hm, hc⟩)
          exact ⟨l', by rw [hcs]; exact h⟩
      refine ⟨⟨n0, n1, n2, v3, v4, bs, ks⟩, ?_, ?_, ?_, ?_, ?_, hbs, hks⟩
      · rw [← q0]; exact hcell 0 (by decide)
      · rw [← q1]; exact hcell 1 (by decide)
      · rw [← q2]; exact hcell 2 (by decide)
      · exact hcell 3 (by decide)
      · exact hcell 4 (by decide)

theorem acts_open {H : Type} {enc : TypeId × Value → H} {W : World} {fuel : Nat} {ao : Option Addr} {len cap : Nat} {y : DataW H × List MemPlace}
    (h : DataW.trod enc Try.prog W 0 (fun _ => true) true fuel 22 [.slice ao len cap] = some y) : ∃ l : List ActD, l.length = len ∧ As W (.slice ao len cap) l := by
  have c5 : Try.prog.cellsOf 33 = 5 := by kernel_rfl
  rcases Go.Deep.open_slice Try.underlying22 h with ⟨hcs, _⟩ | ⟨a, len', cap', m, n, D, Pl, hcs, -, hl, hm, hmm, -, hx⟩
  · simp only [List.cons.injEq, and_true, Value.slice.injEq] at hcs
    obtain ⟨rfl, rfl, rfl⟩ := hcs
    exact ⟨[], rfl, none, 0, rfl, Nat.le_refl _, by simp [maxLen], fun k hk => by simp at hk⟩
  · simp only [List.cons.injEq, and_true, Value.slice.injEq] at hcs
    obtain ⟨rfl, rfl, rfl⟩ := hcs
    simp only [if_true] at hmm
    subst hmm
    obtain ⟨b, off, spot⟩ := a
    have each : ∀ i, i < len → ∃ q : ActD, spot = none ∧ ActAt W b (off + i * 5) q := by
      intro i hi
      have hs : spot = none := by
        obtain ⟨cs', h1, -⟩ := hx 0 (by omega)
        rw [c5] at h1
        obtain ⟨_, hlen, hcell⟩ := World.cells?_some h1
        have h0 := hcell 0 (by decide)
        rw [List.getElem?_eq_getElem (by omega)] at h0
        simpa [Addr.add] using World.cell?_spot h0
      subst hs
      obtain ⟨cs', h1, h2⟩ := hx i (by omega)
      rw [c5] at h1
      obtain ⟨_, hlen, hcell⟩ := World.cells?_some h1
      obtain ⟨q, hq⟩ := act_open (b := b) (o := off + i * 5) hlen (fun j hj => by
        have := hcell j hj
        rw [add_add, Addr.add_lit, ← Nat.add_assoc] at this
        exact this) h2
      exact ⟨q, rfl, hq⟩
    obtain ⟨f, hf⟩ := Go.Deep.choose_lt each
    refine ⟨(List.range len).map f, by simp, some ⟨b, off, spot⟩, m, by simp, by simpa using hl, hm, fun k hk => ?_⟩
    have hk' : k < len := by simpa using hk
    obtain ⟨rfl, hq⟩ := hf k hk'
    exact ⟨b, off, rfl, by simpa using hq⟩
end Go.Proofs.Ytejjeaknpbdeaaa
