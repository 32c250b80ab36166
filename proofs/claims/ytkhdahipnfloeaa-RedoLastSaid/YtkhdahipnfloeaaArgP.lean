/- A slice of pages that came in, opened. -/
import Derived.Test.YtkhdahipnfloeaaSx
import Derived.Deep.Grids
import Derived.Deep.Slices
import Derived.ProofKit
namespace Go.Proofs.Ytkhdahipnfloeaa
open Go.RowKit Go.ChangeShapes Go.WideShapes
set_option maxRecDepth 100000

theorem put_fields : ∃ fs : Array Field, Try.prog.underlying 56 = some (.struct fs) ∧ fs.toList.map (fun f => (f.type, f.offset)) = [(3, 0), (41, 1)] := ⟨_, Try.underlying56, by kernel_rfl⟩

theorem Bs.own_lt {w : World} {v : Value} {l : List UInt8} (h : Bs w v l) (h0 : 0 < l.length) : ∀ g, v.ownBlock = some g → g < w.heap.size := by
  intro g hg
  obtain ⟨b, off, c, rfl, -, -, hc⟩ := h.at h0
  simp only [Value.ownBlock, Option.some.injEq] at hg
  subst hg
  exact World.block_lt_of_cell? _ _ (hc 0 h0)

theorem Bl.own_lt0 {w : World} {v : Value} {l : List Bool} (h : Bl w v l) (h0 : 0 < l.length) : ∀ g, v.ownBlock = some g → g < w.heap.size := by
  intro g hg
  obtain ⟨b, off, c, rfl, -, -, hc⟩ := h.at h0
  simp only [Value.ownBlock, Option.some.injEq] at hg
  subst hg
  exact World.block_lt_of_cell? _ _ (hc 0 h0)

theorem put_open {H : Type} {enc : TypeId × Value → H} {W : World} {fuel : Nat} {cs : List Value} {y : DataW H × List MemPlace} {b o : Nat} (hlen : cs.length = 2) (hcell : ∀ j, j < 2 → W.cell? ⟨b, o + j, none⟩ = cs[j]?)
    (h : DataW.trod enc Try.prog W 0 (fun _ => true) true fuel 56 cs = some y) : ∃ p : Int × List UInt8, PuAt W (fun g => g < W.heap.size) b o p := by
  obtain ⟨fs, hfs, hm⟩ := put_fields
  obtain ⟨xs, k, -, -, -, hxl, hf⟩ := DataW.trod_struct hfs h
  have c3 : Try.prog.cellsOf 3 = 1 := by kernel_rfl
  have c30 : Try.prog.cellsOf 41 = 1 := by kernel_rfl
  have hfl : fs.size = 2 := by
    have := congrArg List.length hm
    simpa using this
  have hgt : ∀ j (hj : j < 2), ∃ f, fs[j]? = some f ∧ (f.type, f.offset) = ([(3, 0), (41, 1)] : List (TypeId × Nat))[j]'(by simpa using hj) := by
    intro j hj
    have hjs : j < fs.size := by omega
    refine ⟨fs[j], by simp [hjs], ?_⟩
    have : (fs.toList.map (fun f => (f.type, f.offset)))[j]? = some (fs[j].type, fs[j].offset) := by simp [hjs]
    rw [hm, List.getElem?_eq_getElem (by simpa using hj)] at this
    exact (Option.some.inj this).symm
  match cs, hlen with
  | [v0, v1], _ =>
    match xs, (by omega : xs.length = 2) with
    | [y0, y1], _ =>
      obtain ⟨f0, e0, t0⟩ := hgt 0 (by decide)
      obtain ⟨f1, e1, t1⟩ := hgt 1 (by decide)
      have g0 := hf 0 f0 e0
      have g1 := hf 1 f1 e1
      simp only [List.getElem_cons_zero, List.getElem_cons_succ, Prod.mk.injEq] at t0 t1
      rw [t0.1, t0.2, c3] at g0
      rw [t1.1, t1.2, c30] at g1
      simp only [List.drop_zero, List.drop_succ_cons, List.take_succ_cons, List.take_zero, List.getElem?_cons_zero, List.getElem?_cons_succ] at g0 g1
      obtain ⟨n0, q0, -, -⟩ := DataW.trod_int Try.underlying3 g0
      simp only [List.cons.injEq, and_true] at q0
      obtain ⟨bs, hbs⟩ : ∃ bs, Bs W v1 bs := by
        rcases open_ints Try.underlying41 Try.underlying5 (by kernel_rfl) g1 with ⟨hcs, _⟩ | ⟨x, l, c, zs, hcs, _, hl, hm, hz, _, hc, hwz⟩
        · simp only [List.cons.injEq, and_true] at hcs
          obtain ⟨l, -, h⟩ := Bs.of_row (w := W) (zs := []) (.inl ⟨rfl, rfl, rfl, rfl⟩)
          exact ⟨l, by rw [hcs]; exact h⟩
        · simp only [List.cons.injEq, and_true] at hcs
          obtain ⟨l', -, h⟩ := Bs.of_row (w := W) (.inr ⟨x, rfl, hl, hm, by simpa using hz, hc, hwz⟩)
          exact ⟨l', by rw [hcs]; exact h⟩
      refine ⟨(n0, bs), ?_, v1, ?_, hbs, fun h0 => hbs.own_lt h0⟩
      · rw [← q0]; exact hcell 0 (by decide)
      · exact hcell 1 (by decide)

theorem puts_open {H : Type} {enc : TypeId × Value → H} {W : World} {fuel : Nat} {ao : Option Addr} {len cap : Nat} {y : DataW H × List MemPlace}
    (h : DataW.trod enc Try.prog W 0 (fun _ => true) true fuel 22 [.slice ao len cap] = some y) : ∃ l : Pages, l.length = len ∧ Pus W (fun g => g < W.heap.size) (.slice ao len cap) l := by
  have c5 : Try.prog.cellsOf 56 = 2 := by kernel_rfl
  rcases Go.Deep.open_slice Try.underlying22 h with ⟨hcs, _⟩ | ⟨a, len', cap', m, n, D, Pl, hcs, -, hl, hm, hmm, -, hx⟩
  · simp only [List.cons.injEq, and_true, Value.slice.injEq] at hcs
    obtain ⟨rfl, rfl, rfl⟩ := hcs
    exact ⟨[], rfl, none, 0, rfl, Nat.le_refl _, by simp [maxLen], fun k hk => by simp at hk⟩
  · simp only [List.cons.injEq, and_true, Value.slice.injEq] at hcs
    obtain ⟨rfl, rfl, rfl⟩ := hcs
    simp only [if_true] at hmm
    subst hmm
    obtain ⟨b, off, spot⟩ := a
    have each : ∀ i, i < len → ∃ q : Int × List UInt8, spot = none ∧ PuAt W (fun g => g < W.heap.size) b (off + i * 2) q := by
      intro i hi
      have hs : spot = none := by
        obtain ⟨cs', h1, -⟩ := hx 0 (by omega)
        rw [c5] at h1
        obtain ⟨_, hlen, hcell⟩ := World.cells?_some h1
        have h0 := hcell 0 (by decide)
        rw [List.getElem?_eq_getElem (by omega)] at h0
        simpa [Addr.add] using World.cell?_spot h0
      subst hs
      obtain ⟨cs', h1, h2⟩ := hx i (by omega)
      rw [c5] at h1
      obtain ⟨_, hlen, hcell⟩ := World.cells?_some h1
      obtain ⟨q, hq⟩ := put_open (b := b) (o := off + i * 2) hlen (fun j hj => by
        have := hcell j hj
        rw [add_add, Addr.add_lit, ← Nat.add_assoc] at this
        exact this) h2
      exact ⟨q, rfl, hq⟩
    obtain ⟨f, hf⟩ := Go.Deep.choose_lt each
    refine ⟨(List.range len).map f, by simp, some ⟨b, off, spot⟩, m, by simp, by simpa using hl, hm, fun k hk => ?_⟩
    have hk' : k < len := by simpa using hk
    obtain ⟨rfl, hq⟩ := hf k hk'
    exact ⟨b, off, rfl, World.block_lt_of_cell? _ _ hq.1, by simpa using hq⟩
end Go.Proofs.Ytkhdahipnfloeaa
