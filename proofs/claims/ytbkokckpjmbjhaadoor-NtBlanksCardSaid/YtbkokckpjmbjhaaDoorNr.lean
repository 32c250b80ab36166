/- How a row of triples is opened; triadlaw9's Few. -/
import Derived.Test.YtbkokckpjmbjhaaDoorNk
import Derived.Test.YtbkokckpjmbjhaaDoorTl
import Derived.ChangeMaps5
import Derived.Lib.SmallJoins
import Derived.OpenShut
import Derived.WalkKit
import Derived.Deep.Grids
namespace Go.Proofs.YtbkokckpjmbjhaaDoor
open Go.RowKit Go.Shelf Go.ChangeShapes Go.WideShapes
set_option maxRecDepth 100000
set_option linter.unusedVariables false
instance : Inhabited Tm := ⟨⟨0, ⟨#[]⟩, ⟨#[]⟩, ⟨#[]⟩⟩⟩
instance : Inhabited Tri3 := ⟨(default, default, default)⟩
def TmAt (w : World) (b o : Nat) (q : Tm) : Prop :=
  w.cell? ⟨b, o, none⟩ = some (.int .i64 q.k) ∧ w.cell? ⟨b, o + 1, none⟩ = some (.string q.s) ∧ w.cell? ⟨b, o + 2, none⟩ = some (.string q.l) ∧ w.cell? ⟨b, o + 3, none⟩ = some (.string q.t) ∧ q.Ok
theorem TmAt.below {w w' : World} {b o : Nat} {q : Tm} (h : TmAt w b o q) (hb : b < w.heap.size) (hm : Below w.heap.size w w') : TmAt w' b o q := by
  have hc : ∀ j, w'.cell? ⟨b, j, none⟩ = w.cell? ⟨b, j, none⟩ := fun j => hm.cell (show (⟨b, j, none⟩ : Addr).block < _ from hb)
  exact ⟨(hc _).trans h.1, (hc _).trans h.2.1, (hc _).trans h.2.2.1, (hc _).trans h.2.2.2.1, h.2.2.2.2⟩
theorem term5_fields : ∃ fs : Array Field, Tryd.prog.underlying 31 = some (.struct fs) ∧ fs.toList.map (fun f => (f.type, f.offset)) = [(3, 0), (9, 1), (9, 2), (9, 3)] := ⟨_, Tryd.underlying31, by kernel_rfl⟩
theorem term5_open {H : Type} {enc : TypeId × Value → H} {W : World} {fuel : Nat} {cs : List Value} {y : DataW H × List MemPlace} {b o : Nat} (hlen : cs.length = 4) (hcell : ∀ j, j < 4 → W.cell? ⟨b, o + j, none⟩ = cs[j]?)
    (h : DataW.trod enc Tryd.prog W 0 (fun _ => true) true fuel 31 cs = some y) : ∃ q : Tm, TmAt W b o q := by
  obtain ⟨fs, hfs, hm⟩ := term5_fields
  obtain ⟨xs, k, -, -, -, hxl, hf⟩ := DataW.trod_struct hfs h
  have c3 : Tryd.prog.cellsOf 3 = 1 := by kernel_rfl
  have c9 : Tryd.prog.cellsOf 9 = 1 := by kernel_rfl
  have hfl : fs.size = 4 := by
    have := congrArg List.length hm
    simpa using this
  have hgt : ∀ j (hj : j < 4), ∃ f, fs[j]? = some f ∧ (f.type, f.offset) = ([(3, 0), (9, 1), (9, 2), (9, 3)] : List (TypeId × Nat))[j]'(by simpa using hj) := by
    intro j hj
    have hjs : j < fs.size := by omega
    refine ⟨fs[j], by simp [hjs], ?_⟩
    have : (fs.toList.map (fun f => (f.type, f.offset)))[j]? = some (fs[j].type, fs[j].offset) := by simp [hjs]
    rw [hm, List.getElem?_eq_getElem (by simpa using hj)] at this
    exact (Option.some.inj this).symm
  match cs, hlen with
  | [v0, v1, v2, v3], _ =>
    match xs, (by omega : xs.length = 4) with
    | [y0, y1, y2, y3], _ =>
      obtain ⟨f0, e0, t0⟩ := hgt 0 (by decide)
      obtain ⟨f1, e1, t1⟩ := hgt 1 (by decide)
      obtain ⟨f2, e2, t2⟩ := hgt 2 (by decide)
      obtain ⟨f3, e3, t3⟩ := hgt 3 (by decide)
      have g0 := hf 0 f0 e0
      have g1 := hf 1 f1 e1
      have g2 := hf 2 f2 e2
      have g3 := hf 3 f3 e3
      simp only [List.getElem_cons_zero, List.getElem_cons_succ, Prod.mk.injEq] at t0 t1 t2 t3
      rw [t0.1, t0.2, c3] at g0
      rw [t1.1, t1.2, c9] at g1
      rw [t2.1, t2.2, c9] at g2
      rw [t3.1, t3.2, c9] at g3
      simp only [List.drop_zero, List.drop_succ_cons, List.take_succ_cons, List.take_zero, List.getElem?_cons_zero, List.getElem?_cons_succ] at g0 g1 g2 g3
      obtain ⟨n0, q0, -, w0⟩ := DataW.trod_int Tryd.underlying3 g0
      obtain ⟨s1, q1, -, w1⟩ := DataW.trod_string Tryd.underlying9 g1
      obtain ⟨s2, q2, -, w2⟩ := DataW.trod_string Tryd.underlying9 g2
      obtain ⟨s3, q3, -, w3⟩ := DataW.trod_string Tryd.underlying9 g3
      simp only [List.cons.injEq, and_true] at q0 q1 q2 q3
      refine ⟨⟨n0, s1, s2, s3⟩, ?_, ?_, ?_, ?_, ⟨w0, w1, w2, w3⟩⟩
      · rw [← q0]; exact hcell 0 (by decide)
      · rw [← q1]; exact hcell 1 (by decide)
      · rw [← q2]; exact hcell 2 (by decide)
      · rw [← q3]; exact hcell 3 (by decide)

def TrAt (w : World) (b o : Nat) (q : Tri3) : Prop := TmAt w b o q.1 ∧ TmAt w b (o + 4) q.2.1 ∧ TmAt w b (o + 8) q.2.2
def Trs (w : World) (v : Value) (l : List Tri3) : Prop :=
  ∃ ao cap, v = .slice ao l.length cap ∧ l.length ≤ cap ∧ cap ≤ maxLen ∧ ∀ k (hk : k < l.length), ∃ b off, ao = some ⟨b, off, none⟩ ∧ b < w.heap.size ∧ TrAt w b (off + k * 12) l[k]
theorem TrAt.below {w w' : World} {b o : Nat} {q : Tri3} (h : TrAt w b o q) (hb : b < w.heap.size) (hm : Below w.heap.size w w') : TrAt w' b o q := ⟨h.1.below hb hm, h.2.1.below hb hm, h.2.2.below hb hm⟩
theorem Trs.below {w w' : World} {v : Value} {l : List Tri3} (h : Trs w v l) (hm : Below w.heap.size w w') : Trs w' v l := by
  obtain ⟨ao, cap, e, h1, h2, hE⟩ := h
  refine ⟨ao, cap, e, h1, h2, fun k hk => ?_⟩
  obtain ⟨b, off, e', hb, hA⟩ := hE k hk
  exact ⟨b, off, e', Nat.lt_of_lt_of_le hb hm.size, hA.below hb hm⟩
theorem tri_open {H : Type} {enc : TypeId × Value → H} {W : World} {fuel : Nat} {cs : List Value} {y : DataW H × List MemPlace} {b o : Nat} (hlen : cs.length = 12) (hcell : ∀ j, j < 12 → W.cell? ⟨b, o + j, none⟩ = cs[j]?)
    (h : DataW.trod enc Tryd.prog W 0 (fun _ => true) true fuel 33 cs = some y) : ∃ q : Tri3, TrAt W b o q := by
  obtain ⟨xs, m, -, -, -, hn, hel⟩ := DataW.trod_array Tryd.underlying33 h
  have c4 : Tryd.prog.cellsOf 31 = 4 := by kernel_rfl
  rw [c4] at hel
  have one : ∀ i, i < 3 → ∃ q : Tm, TmAt W b (o + i * 4) q := by
    intro i hi
    have hE := hel i hi
    rw [List.getElem?_eq_getElem (by omega)] at hE
    refine term5_open (b := b) (o := o + i * 4) ?_ ?_ hE
    · rw [List.length_take, List.length_drop]; omega
    · intro j hj
      rw [List.getElem?_take_of_lt hj, List.getElem?_drop, Nat.add_assoc]
      exact hcell _ (by omega)
  obtain ⟨q0, h0⟩ := one 0 (by decide)
  obtain ⟨q1, h1⟩ := one 1 (by decide)
  obtain ⟨q2, h2⟩ := one 2 (by decide)
  exact ⟨(q0, q1, q2), h0, h1, h2⟩
theorem tris_open {H : Type} {enc : TypeId × Value → H} {W : World} {fuel : Nat} {ao : Option Addr} {len cap : Nat} {y : DataW H × List MemPlace}
    (h : DataW.trod enc Tryd.prog W 0 (fun _ => true) true fuel 22 [.slice ao len cap] = some y) : ∃ l : List Tri3, l.length = len ∧ Trs W (.slice ao len cap) l := by
  have c5 : Tryd.prog.cellsOf 33 = 12 := by kernel_rfl
  rcases Go.Deep.open_slice Tryd.underlying22 h with ⟨hcs, _⟩ | ⟨a, len', cap', m, n, D, Pl, hcs, -, hl, hm, hmm, -, hx⟩
  · simp only [List.cons.injEq, and_true, Value.slice.injEq] at hcs
    obtain ⟨rfl, rfl, rfl⟩ := hcs
    exact ⟨[], rfl, none, 0, rfl, Nat.le_refl _, by simp [maxLen], fun k hk => by simp at hk⟩
  · simp only [List.cons.injEq, and_true, Value.slice.injEq] at hcs
    obtain ⟨rfl, rfl, rfl⟩ := hcs
    simp only [if_true] at hmm
    subst hmm
    obtain ⟨b, off, spot⟩ := a
    have each : ∀ i, i < len → ∃ q : Tri3, spot = none ∧ TrAt W b (off + i * 12) q := by
      intro i hi
      have hs : spot = none := by
        obtain ⟨cs', h1, -⟩ := hx 0 (by omega)
        rw [c5] at h1
        obtain ⟨_, hlen, hcell⟩ := World.cells?_some h1
        have h0 := hcell 0 (by decide)
        rw [List.getElem?_eq_getElem (by omega)] at h0
        simpa [Addr.add] using World.cell?_spot h0
      subst hs
      obtain ⟨cs', h1, h2⟩ := hx i (by omega)
      rw [c5] at h1
      obtain ⟨_, hlen, hcell⟩ := World.cells?_some h1
      obtain ⟨q, hq⟩ := tri_open (b := b) (o := off + i * 12) hlen (fun j hj => by
        have := hcell j hj
        rw [add_add, Addr.add_lit, ← Nat.add_assoc] at this
        exact this) h2
      exact ⟨q, rfl, hq⟩
    obtain ⟨f, hf⟩ := Go.Deep.choose_lt each
    refine ⟨(List.range len).map f, by simp, some ⟨b, off, spot⟩, m, by simp, by simpa using hl, hm, fun k hk => ?_⟩
    have hk' : k < len := by simpa using hk
    obtain ⟨rfl, hq⟩ := hf k hk'
    exact ⟨b, off, rfl, World.block_lt_of_cell? _ _ hq.1.1, by simpa using hq⟩

structure Few9 (l : List Tri3) : Prop where
  len : l.length ≤ 40
  few : ∀ j (hj : j < l.length), l[j].1.Few ∧ l[j].2.1.Few ∧ l[j].2.2.Few
def FewTo9 (l : List Tri3) (w : World) (e : Ending) (w' : World) : Prop := ∃ t : Bool, e = .returned (.bool t) ∧ Below w.heap.size w w' ∧ (t = true → Few9 l)
def tm3 (x : Tri3) (k : Nat) : Tm := if k = 0 then x.1 else if k = 1 then x.2.1 else x.2.2
theorem TrAt.tm {w : World} {b o : Nat} {q : Tri3} (h : TrAt w b o q) (k : Nat) (hk : k < 3) : TmAt w b (o + k * 4) (tm3 q k) := by
  have : k = 0 ∨ k = 1 ∨ k = 2 := by omega
  rcases this with rfl | rfl | rfl
  · exact h.1
  · exact h.2.1
  · exact h.2.2
theorem tm3_few {x : Tri3} (h : ∀ k, k < 3 → (tm3 x k).Few) : x.1.Few ∧ x.2.1.Few ∧ x.2.2.Few := ⟨h 0 (by decide), h 1 (by decide), h 2 (by decide)⟩
set_option maxHeartbeats 4000000 in
theorem few9_any {w : World} {v : Value} {l : List Tri3} (h : Trs w v l) :
    Calls Tryd.prog 5 #[v] w (FewTo9 l w) := by
  obtain ⟨ao, cap, rfl, hc1, hc2, hE⟩ := id h
  have hc2' : cap ≤ 9223372036854775807 := hc2
  obtain ⟨n, hn⟩ : ∃ n, n = l.length := ⟨_, rfl⟩
  rw [← hn] at hc1 h ⊢
  have HN := Lib.hid hn
  have HH := Lib.hid h
  clear hn hE hc2 h
  go_enter Tryd.func5, Tryd.ntmps5
  go_wp2_with fail
  go_loopw [3] (fun i wr => ∃ k : Nat, k ≤ n ∧ i = .int .i64 k ∧ (∀ j (hj : j < l.length), j < k → l[j].1.Few ∧ l[j].2.1.Few ∧ l[j].2.2.Few) ∧ Below w.heap.size w wr) (fun i _ => n - (intOf i).toNat)
  case atStart => exact ⟨0, Nat.zero_le _, rfl, fun j hj h => absurd h (Nat.not_lt_zero _), Below.refl _ _⟩
  case round =>
    obtain ⟨k, hk, rfl, hf, hbel⟩ := hrel
    have HF := Lib.hid hf
    have HB := Lib.hid hbel
    clear hf
    by_cases hlt : k < n
    · have hkl : k < l.length := by rw [← HN.out]; exact hlt
      obtain ⟨x, hx⟩ : ∃ x, x = l[k] := ⟨_, rfl⟩
      have HX := Lib.hid hx
      clear hx
      have hlt' : (k : Int) < n := by omega
      go_wp2_with fail
      go_loopw [4] (fun i2 wr2 => ∃ m : Nat, m ≤ 3 ∧ i2 = .int .i64 m ∧ (∀ j, j < m → (tm3 x j).Few) ∧ Below w.heap.size w wr2) (fun i _ => 3 - (intOf i).toNat)
      case atStart => exact ⟨0, by omega, rfl, fun j h => absurd h (Nat.not_lt_zero _), HB.out⟩
      case round =>
        obtain ⟨m, hm, rfl, hfm, hbm⟩ := hrel
        have HFM := Lib.hid hfm
        have HBM := Lib.hid hbm
        clear hfm
        by_cases hm3 : m < 3
        · obtain ⟨ao', cap', e', -, -, hE'⟩ := HH.out.below hbm
          rw [← HN.out] at e'
          simp only [Value.slice.injEq, true_and] at e'
          obtain ⟨rfl, rfl⟩ := e'
          obtain ⟨b, off, rfl, -, hA0⟩ := hE' k hkl
          rw [← HX.out] at hA0
          have hA := hA0.tm m hm3
          clear hA0
          obtain ⟨q, hq⟩ : ∃ q, q = tm3 x m := ⟨_, rfl⟩
          rw [← hq] at hA
          have HQ := Lib.hid hq
          have HW := Lib.hid (show fewB q = true → q.Few from fun e => by
            unfold fewB at e
            simp only [Bool.and_eq_true, decide_eq_true_eq] at e
            exact ⟨hA.2.2.2.2.k, e.1.1, e.1.2, e.2⟩)
          obtain ⟨c0, c1, c2, c3, -⟩ := hA
          have hfe := fun w => few_any q w
          obtain ⟨fb, hfb⟩ : ∃ f, f = fewB q := ⟨_, rfl⟩
          rw [← hfb] at hfe HW
          obtain ⟨k', s', l', u'⟩ := q
          unfold Tm.val at hfe
          dsimp only at c0 c1 c2 c3 hfe
          have HFE := Lib.hid hfe
          have hm3' : (m : Int) < 3 := by omega
          clear hq hE' hfe hfb hbel hbm
          go_wp2_with fail
          refine (HFE.out _).mono ?_
          rintro en w2 ⟨rfl, hb2⟩
          have HB2 := Lib.hid (HBM.out.trans (hb2.mono HBM.out.size))
          clear hb2 c0 c1 c2 c3
          cases fb with
          | false =>
            go_wp2_with fail
            go_ret
            exact ⟨false, rfl, HB2.out, fun e => by cases e⟩
          | true =>
            go_wp2_with fail
            go_roundw
            case rel =>
              refine ⟨m + 1, by omega, by go_num, fun j hjk => ?_, HB2.out⟩
              by_cases e : j = m
              · subst e; rw [← HQ.out]; exact HW.out (by trivial)
              · exact HFM.out j (by omega)
            case measure => simp [intOf]; omega
        · obtain rfl : m = 3 := by omega
          go_wp2_with fail
          go_roundw
          case rel =>
            refine ⟨k + 1, by omega, by go_num, fun j hj hjk => ?_, HBM.out⟩
            by_cases e : j = k
            · subst e; rw [← HX.out]; exact tm3_few (fun i hi => HFM.out i hi)
            · exact HF.out j hj (by omega)
          case measure => simp [intOf]; omega
    · obtain rfl : k = n := by omega
      go_wp2_with fail
      go_ret
      refine ⟨decide ((k : Int) ≤ 40), rfl, hbel, fun e => ⟨?_, fun j hj => HF.out j hj (by rw [HN.out]; exact hj)⟩⟩
      have := of_decide_eq_true e
      rw [← HN.out]; omega
end Go.Proofs.YtbkokckpjmbjhaaDoor
