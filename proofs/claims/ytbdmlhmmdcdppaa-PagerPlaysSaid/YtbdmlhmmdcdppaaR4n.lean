/- Rows of acts; Few. -/
import Derived.Test.YtbdmlhmmdcdppaaR4m
namespace Go.Proofs.Ytbdmlhmmdcdppaa
open Go.RowKit Go.Maps Go.ChangeShapes Go.WideShapes
set_option maxRecDepth 100000
set_option linter.unusedVariables false

/-- An act: its kind, its number, its bytes. -/
abbrev Acts := List (Int × Int × List UInt8)
/-- An act's three cells, and what its slice reads as; its blocks are of S. -/
def AcAt (w : World) (S : Nat → Prop) (b o : Nat) (p : Int × Int × List UInt8) : Prop :=
  w.cell? ⟨b, o, none⟩ = some (.int .i64 p.1) ∧ w.cell? ⟨b, o + 1, none⟩ = some (.int .i64 p.2.1) ∧ (Lit.int .i64 p.2.1).wf = true ∧ ∃ u, w.cell? ⟨b, o + 2, none⟩ = some u ∧ Bs w u p.2.2 ∧ (0 < p.2.2.length → ∀ g, u.ownBlock = some g → S g)
def Acs (w : World) (S : Nat → Prop) (v : Value) (l : Acts) : Prop :=
  ∃ ao cap, v = .slice ao l.length cap ∧ l.length ≤ cap ∧ cap ≤ maxLen ∧ ∀ k (hk : k < l.length), ∃ b off, ao = some ⟨b, off, none⟩ ∧ S b ∧ AcAt w S b (off + k * 3) l[k]
theorem AcAt.moved {w w' : World} {S P : Nat → Prop} {b o : Nat} {p : Int × Int × List UInt8} (h : AcAt w S b o p) (hb : S b) (hm : Moved P w w') (hS : ∀ g, S g → ¬ P g) : AcAt w' S b o p := by
  obtain ⟨h0, h0', hw, u, h1, h2, h3⟩ := h
  have hlt : b < w.heap.size := World.block_lt_of_cell? w _ h0
  have hc : ∀ j, w'.cell? ⟨b, j, none⟩ = w.cell? ⟨b, j, none⟩ := fun j => World.cell?_of_block (a := ⟨b, j, none⟩) (hm.block b hlt (hS b hb))
  exact ⟨(hc _).trans h0, (hc _).trans h0', hw, u, (hc _).trans h1, h2.moved0 hm (fun h0 k hk => hS k (h3 h0 k hk)), h3⟩
theorem Acs.moved {w w' : World} {S P : Nat → Prop} {v : Value} {l : Acts} (h : Acs w S v l) (hm : Moved P w w') (hS : ∀ g, S g → ¬ P g) : Acs w' S v l := by
  obtain ⟨ao, cap, e, h1, h2, hE⟩ := h
  refine ⟨ao, cap, e, h1, h2, fun k hk => ?_⟩
  obtain ⟨b, off, e', hb, hA⟩ := hE k hk
  exact ⟨b, off, e', hb, hA.moved hb hm hS⟩
theorem Acs.below {w0 w : World} {v : Value} {l : Acts} (h : Acs w0 (fun g => g < w0.heap.size) v l) (hb : Below w0.heap.size w0 w) : Acs w (fun g => g < w0.heap.size) v l := h.moved (Moved.of_below hb (fun _ => False)) (fun _ _ h => h)

theorem act_fields : ∃ fs : Array Field, Try.prog.underlying 36 = some (.struct fs) ∧ fs.toList.map (fun f => (f.type, f.offset)) = [(3, 0), (3, 1), (34, 2)] := ⟨_, Try.underlying36, by kernel_rfl⟩

theorem act_open {H : Type} {enc : TypeId × Value → H} {W : World} {fuel : Nat} {cs : List Value} {y : DataW H × List MemPlace} {b o : Nat} (hlen : cs.length = 3) (hcell : ∀ j, j < 3 → W.cell? ⟨b, o + j, none⟩ = cs[j]?)
    (h : DataW.trod enc Try.prog W 0 (fun _ => true) true fuel 36 cs = some y) : ∃ p : Int × Int × List UInt8, AcAt W (fun g => g < W.heap.size) b o p := by
  obtain ⟨fs, hfs, hm⟩ := act_fields
  obtain ⟨xs, k, -, -, -, hxl, hf⟩ := DataW.trod_struct hfs h
  have c3 : Try.prog.cellsOf 3 = 1 := by kernel_rfl
  have c30 : Try.prog.cellsOf 34 = 1 := by kernel_rfl
  have hfl : fs.size = 3 := by
    have := congrArg List.length hm
    simpa using this
  have hgt : ∀ j (hj : j < 3), ∃ f, fs[j]? = some f ∧ (f.type, f.offset) = ([(3, 0), (3, 1), (34, 2)] : List (TypeId × Nat))[j]'(by simpa using hj) := by
    intro j hj
    have hjs : j < fs.size := by omega
    refine ⟨fs[j], by simp [hjs], ?_⟩
    have : (fs.toList.map (fun f => (f.type, f.offset)))[j]? = some (fs[j].type, fs[j].offset) := by simp [hjs]
    rw [hm, List.getElem?_eq_getElem (by simpa using hj)] at this
    exact (Option.some.inj this).symm
  match cs, hlen with
  | [v0, v1, v2], _ =>
    match xs, (by omega : xs.length = 3) with
    | [y0, y1, y2], _ =>
      obtain ⟨f0, e0, t0⟩ := hgt 0 (by decide)
      obtain ⟨f1, e1, t1⟩ := hgt 1 (by decide)
      obtain ⟨f2, e2, t2⟩ := hgt 2 (by decide)
      have g0 := hf 0 f0 e0
      have g1 := hf 1 f1 e1
      have g2 := hf 2 f2 e2
      simp only [List.getElem_cons_zero, List.getElem_cons_succ, Prod.mk.injEq] at t0 t1 t2
      rw [t0.1, t0.2, c3] at g0
      rw [t1.1, t1.2, c3] at g1
      rw [t2.1, t2.2, c30] at g2
      simp only [List.drop_zero, List.drop_succ_cons, List.take_succ_cons, List.take_zero, List.getElem?_cons_zero, List.getElem?_cons_succ] at g0 g1 g2
      obtain ⟨n0, q0, -, -⟩ := DataW.trod_int Try.underlying3 g0
      obtain ⟨n1, q1, -, hw1⟩ := DataW.trod_int Try.underlying3 g1
      simp only [List.cons.injEq, and_true] at q0 q1
      obtain ⟨bs, hbs⟩ : ∃ bs, Bs W v2 bs := by
        rcases open_ints Try.underlying34 Try.underlying5 (by kernel_rfl) g2 with ⟨hcs, _⟩ | ⟨x, l, c, zs, hcs, _, hl, hm, hz, _, hc, hwz⟩
        · simp only [List.cons.injEq, and_true] at hcs
          obtain ⟨l, -, h⟩ := Bs.of_row (w := W) (zs := []) (.inl ⟨rfl, rfl, rfl, rfl⟩)
          exact ⟨l, by rw [hcs]; exact h⟩
        · simp only [List.cons.injEq, and_true] at hcs
          obtain ⟨l', -, h⟩ := Bs.of_row (w := W) (.inr ⟨x, rfl, hl, hm, by simpa using hz, hc, hwz⟩)
          exact ⟨l', by rw [hcs]; exact h⟩
      refine ⟨(n0, n1, bs), ?_, ?_, hw1, v2, ?_, hbs, fun h0 => hbs.own_lt h0⟩
      · rw [← q0]; exact hcell 0 (by decide)
      · rw [← q1]; exact hcell 1 (by decide)
      · exact hcell 2 (by decide)

theorem acts_open {H : Type} {enc : TypeId × Value → H} {W : World} {fuel : Nat} {ao : Option Addr} {len cap : Nat} {y : DataW H × List MemPlace}
    (h : DataW.trod enc Try.prog W 0 (fun _ => true) true fuel 22 [.slice ao len cap] = some y) : ∃ l : Acts, l.length = len ∧ Acs W (fun g => g < W.heap.size) (.slice ao len cap) l := by
  have c5 : Try.prog.cellsOf 36 = 3 := by kernel_rfl
  rcases Go.Deep.open_slice Try.underlying22 h with ⟨hcs, _⟩ | ⟨a, len', cap', m, n, D, Pl, hcs, -, hl, hm, hmm, -, hx⟩
  · simp only [List.cons.injEq, and_true, Value.slice.injEq] at hcs
    obtain ⟨rfl, rfl, rfl⟩ := hcs
    exact ⟨[], rfl, none, 0, rfl, Nat.le_refl _, by simp [maxLen], fun k hk => by simp at hk⟩
  · simp only [List.cons.injEq, and_true, Value.slice.injEq] at hcs
    obtain ⟨rfl, rfl, rfl⟩ := hcs
    simp only [if_true] at hmm
    subst hmm
    obtain ⟨b, off, spot⟩ := a
    have each : ∀ i, i < len → ∃ q : Int × Int × List UInt8, spot = none ∧ AcAt W (fun g => g < W.heap.size) b (off + i * 3) q := by
      intro i hi
      have hs : spot = none := by
        obtain ⟨cs', h1, -⟩ := hx 0 (by omega)
        rw [c5] at h1
        obtain ⟨_, hlen, hcell⟩ := World.cells?_some h1
        have h0 := hcell 0 (by decide)
        rw [List.getElem?_eq_getElem (by omega)] at h0
        simpa [Addr.add] using World.cell?_spot h0
      subst hs
      obtain ⟨cs', h1, h2⟩ := hx i (by omega)
      rw [c5] at h1
      obtain ⟨_, hlen, hcell⟩ := World.cells?_some h1
      obtain ⟨q, hq⟩ := act_open (b := b) (o := off + i * 3) hlen (fun j hj => by
        have := hcell j hj
        rw [add_add, Addr.add_lit, ← Nat.add_assoc] at this
        exact this) h2
      exact ⟨q, rfl, hq⟩
    obtain ⟨f, hf⟩ := Go.Deep.choose_lt each
    refine ⟨(List.range len).map f, by simp, some ⟨b, off, spot⟩, m, by simp, by simpa using hl, hm, fun k hk => ?_⟩
    have hk' : k < len := by simpa using hk
    obtain ⟨rfl, hq⟩ := hf k hk'
    exact ⟨b, off, rfl, World.block_lt_of_cell? _ _ hq.1, by simpa using hq⟩

theorem Acs.cells {w : World} {S : Nat → Prop} {v : Value} {l : Acts} (h : Acs w S v l) : ∃ ao cap, v = .slice ao l.length cap ∧ l.length ≤ cap ∧ cap ≤ maxLen := by
  obtain ⟨ao, cap, h1, h2, h3, -⟩ := h; exact ⟨ao, cap, h1, h2, h3⟩

/-- Not too many, and each not too long. -/
def FewOk (l : Acts) : Prop := l.length ≤ 60 ∧ ∀ k (hk : k < l.length), l[k].2.2.length ≤ 600

set_option maxHeartbeats 2000000 in
/-- Few: acts that are not too much. -/
theorem few_any {w : World} {S : Nat → Prop} {v : Value} {l : Acts} (h : Acs w S v l) :
    Calls Try.prog 11 #[v] w fun e w' => ∃ t : Bool, e = .returned (.bool t) ∧ w' = w ∧ (t = true → FewOk l) := by
  obtain ⟨ao, cap, rfl, hc1, hc2, hE⟩ := h
  have hc2' : cap ≤ 9223372036854775807 := hc2
  obtain ⟨n, hn⟩ : ∃ n, n = l.length := ⟨_, rfl⟩
  rw [← hn] at hc1 ⊢
  have HN := Lib.hid hn
  have HE := Lib.hid hE
  clear hn hE hc2
  go_enter Try.func11, Try.ntmps11
  go_wp2_with fail
  go_loopw [3] (fun i wr => ∃ k : Nat, k ≤ n ∧ i = .int .i64 k ∧ (∀ j (hj : j < l.length), j < k → l[j].2.2.length ≤ 600) ∧ wr = w) (fun i _ => n - (intOf i).toNat)
  case atStart => exact ⟨0, Nat.zero_le _, rfl, fun j hj h => absurd h (Nat.not_lt_zero _), rfl⟩
  case round =>
    obtain ⟨k, hk, rfl, hf, rfl⟩ := hrel
    have HF := Lib.hid hf
    clear hf
    by_cases hlt : k < n
    · have hkl : k < l.length := by rw [← HN.out]; exact hlt
      obtain ⟨b, off, rfl, hb, ⟨c0, c1, hwf, u, c2, hu, -⟩⟩ := HE.out k hkl
      obtain ⟨bo, bc, rfl, hb1, hb2, -⟩ := id hu
      obtain ⟨q, hq⟩ : ∃ q, q = l[k].2.2.length := ⟨_, rfl⟩
      rw [← hq] at c2
      have HQ := Lib.hid hq
      have hlt' : (k : Int) < n := by omega
      by_cases h6 : (600 : Int) < q
      · clear hb hu hq hb1 hb2 c0 c1 hwf
        go_wp2_with fail
        go_ret
        exact ⟨false, rfl, rfl, fun e => by cases e⟩
      · clear hb hu hq hb1 hb2 c0 c1 hwf
        go_wp2_with fail
        go_roundw
        case rel =>
          refine ⟨k + 1, by omega, by go_num, fun j hj hjk => ?_, by first | rfl | trivial⟩
          by_cases e : j = k
          · subst e; rw [← HQ.out]; omega
          · exact HF.out j hj (by omega)
        case measure => simp [intOf]; omega
    · obtain rfl : k = n := by omega
      go_wp2_with fail
      go_ret
      refine ⟨decide ((k : Int) ≤ 60), rfl, rfl, fun e => ⟨?_, fun j hj => HF.out j hj (by rw [HN.out]; exact hj)⟩⟩
      have := of_decide_eq_true e
      rw [← HN.out]; omega
end Go.Proofs.Ytbdmlhmmdcdppaa
