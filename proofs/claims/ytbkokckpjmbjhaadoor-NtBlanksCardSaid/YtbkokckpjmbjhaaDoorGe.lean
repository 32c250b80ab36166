/- RedoB4 -/
import Derived.Test.YtbkokckpjmbjhaaDoorGd
import Derived.Laws.ResultCell
import Derived.Deep.Grids
import Derived.Deep.Slices
import Derived.ProofKit
import Derived.Lib.AppendZeros
namespace Go.Proofs.YtbkokckpjmbjhaaDoor
open Go.RowKit
set_option maxRecDepth 100000
section
theorem run_small (ops : List Dop) : ∀ {A : Ab} {k : Nat}, Small A k → Small (A.run ops).2 (k + ops.length) := by
  induction ops with
  | nil => intro A k h; exact h
  | cons o t ih =>
    intro A k h
    cases o with
    | W i b =>
      simp only [Ab.run]
      split
      · have := ih (h.write i b)
        rw [List.length_cons, show k + (t.length + 1) = k + 1 + t.length by omega]; exact this
      · exact (h.write _ _).mono (by rw [List.length_cons]; omega)
    | S =>
      simp only [Ab.run]
      split
      · have := ih h.sync
        rw [List.length_cons, show k + (t.length + 1) = k + 1 + t.length by omega]; exact this
      · exact h.sync.mono (by rw [List.length_cons]; omega)
theorem ph_length (ws : List (Nat × List UInt8)) : (ph ws).length = ws.length + 1 := by simp [ph]
/-- The frame of Settle at its label. -/
def SettleOut (e : Int) (a' : Act) : Prop := ∃ u0 u1 u2 u3 u4 u6 u7 u8 u9 u10 u11 u12 u13 u14 u15 : Value, a' = { tmps := #[u0, u1, u2, u3, u4, .int .i64 e, u6, u7, u8, u9, u10, u11, u12, u13, u14, u15], defers := [] }
end
section
/-- The frame of Commit at its label. -/
def CommitOut (e : Int) (a' : Act) : Prop := ∃ u0 u1 u2 u3 u4 u6 u7 u8 u9 u10 u11 u12 u13 u14 u15 u16 u17 u18 u19 u20 u21 u22 u23 u24 u25 u26 : Value, a' = { tmps := #[u0, u1, u2, u3, u4, .int .i64 e, u6, u7, u8, u9, u10, u11, u12, u13, u14, u15, u16, u17, u18, u19, u20, u21, u22, u23, u24, u25, u26], defers := [] }
end
section
def countOf (A : Ab) : Int := if A.fault 0 = 0 ∧ isLog A.now.length (A.now.getD 0 []) then cntOf (A.now.getD 0 []) else 0
/-- The frame of Count at its label. -/
def CountOut (n e : Int) (a' : Act) : Prop := ∃ u0 u1 u2 u3 u5 u7 u8 u9 u10 u11 u12 u13 u14 u15 u16 u17 u18 u19 u20 u21 u22 u23 u24 u25 u26 u27 u28 u29 u30 u31 u32 u33 u34 u35 u36 u37 : Value, a' = { tmps := #[u0, u1, u2, u3, .int .i64 n, u5, .int .i64 e, u7, u8, u9, u10, u11, u12, u13, u14, u15, u16, u17, u18, u19, u20, u21, u22, u23, u24, u25, u26, u27, u28, u29, u30, u31, u32, u33, u34, u35, u36, u37], defers := [] }
end
section
end
section
theorem countOf_spec (A : Ab) : 0 ≤ countOf A ∧ countOf A ≤ 400 ∧ (countOf A = 0 ∨ countOf A < A.now.length) := by
  unfold countOf
  split
  · rename_i h
    have := h.2
    unfold isLog at this
    omega
  · omega
/-- What pending answers. -/
def pendOf (A : Ab) : Pages × Int := if A.fault 0 ≠ 0 then ([], A.fault 0) else match pagesOf A.now (countOf A).toNat with
  | none => ([], 9)
  | some l => (l, 0)
theorem Bs.lt {w : World} {g o n cap : Nat} {l : List UInt8} (h : Bs w (.slice (some ⟨g, o, none⟩) n cap) l) (hl : 0 < l.length) : g < w.heap.size := by
  obtain ⟨b, off, c, e, -, -, hc⟩ := h.at hl
  simp only [Value.slice.injEq, Option.some.injEq, Addr.mk.injEq] at e
  obtain ⟨⟨rfl, rfl, -⟩, -, -⟩ := e
  exact World.block_lt_of_cell? _ _ (hc 0 hl)
theorem moved_two {w : World} {b : Nat} {x y : Value} : Moved (· = b) w ((w.setCell ⟨b, 0, none⟩ x).setCell ⟨b, 1, none⟩ y) := ((Moved.refl (· = b) w).setCell ⟨b, 0, none⟩ _ (.inl rfl)).setCell ⟨b, 1, none⟩ _ (.inl rfl)
/-- The frame of Pend at its label. -/
def PendOut (lv : Value) (e : Int) (a' : Act) : Prop := ∃ u0 u1 u2 u3 u5 u7 u8 u9 u10 u11 u12 u13 u14 u15 u16 u17 u18 u19 u20 u21 u22 u23 u24 u25 u26 u27 u28 u29 u30 u31 u32 u33 : Value, a' = { tmps := #[u0, u1, u2, u3, lv, u5, .int .i64 e, u7, u8, u9, u10, u11, u12, u13, u14, u15, u16, u17, u18, u19, u20, u21, u22, u23, u24, u25, u26, u27, u28, u29, u30, u31, u32, u33], defers := [] }
end
section
theorem pend_ok (A : Ab) : (pendOf A).1.length ≤ 400 ∧ ∀ p ∈ (pendOf A).1, 401 ≤ p.1 := by
  unfold pendOf
  split
  · exact ⟨by simp, fun p hp => by simp at hp⟩
  · have hs := countOf_spec A
    split
    · exact ⟨by simp, fun p hp => by simp at hp⟩
    · rename_i l hl
      have h := pagesOf_length _ _ hl
      exact ⟨by show l.length ≤ 400; omega, fun p hp => (h.2 p hp).1⟩
theorem recover_pend (A : Ab) : A.recover = if (pendOf A).2 = 0 ∧ (pendOf A).1.length ≠ 0 then recOf A ((pendOf A).1.length : Nat) (some (pendOf A).1) else (0, (pendOf A).2, A) := by
  by_cases h0 : A.fault 0 = 0
  · by_cases hl : isLog A.now.length (A.now.getD 0 [])
    · have hcnt : countOf A = cntOf (A.now.getD 0 []) := by unfold countOf; rw [if_pos ⟨h0, hl⟩]
      have hpd : pendOf A = match pagesOf A.now (cntOf (A.now.getD 0 [])).toNat with | none => ([], 9) | some l => (l, 0) := by unfold pendOf; rw [if_neg (fun h => h h0), hcnt]; try (cases pagesOf A.now (cntOf (A.now.getD 0 [])).toNat <;> rfl)
      have hrec : A.recover = recOf A (cntOf (A.now.getD 0 [])) (pagesOf A.now (cntOf (A.now.getD 0 [])).toNat) := by
        unfold Ab.recover
        rw [if_neg (fun h => h h0), if_pos hl]
        cases pagesOf A.now (cntOf (A.now.getD 0 [])).toNat <;> rfl
      have hc : 1 ≤ cntOf (A.now.getD 0 []) := hl.2.1
      rw [hrec, hpd]
      cases hp : pagesOf A.now (cntOf (A.now.getD 0 [])).toNat with
      | none => rfl
      | some l =>
        have h := (pagesOf_length _ _ hp).1
        have hn : l.length ≠ 0 := by omega
        have hi : ((l.length : Nat) : Int) = cntOf (A.now.getD 0 []) := by omega
        show recOf A _ (some l) = if (0 : Int) = 0 ∧ l.length ≠ 0 then recOf A ((l.length : Nat) : Int) (some l) else (0, 0, A)
        rw [if_pos ⟨rfl, hn⟩, hi]
    · have hcnt : countOf A = 0 := by unfold countOf; rw [if_neg (fun h => hl h.2)]
      have hpd : pendOf A = ([], 0) := by unfold pendOf; rw [if_neg (fun h => h h0), hcnt]; rfl
      have hrec : A.recover = (0, 0, A) := by unfold Ab.recover; rw [if_neg (fun h => h h0), if_neg hl]
      rw [hrec, hpd]
      rfl
  · have hpd : pendOf A = ([], A.fault 0) := by unfold pendOf; rw [if_pos h0]
    have hrec : A.recover = (0, A.fault 0, A) := by unfold Ab.recover; rw [if_pos h0]
    rw [hrec, hpd, if_neg (fun h => h.2 rfl)]
/-- The frame of Recov at its label. -/
def RecovOut (e : Int) (a' : Act) : Prop := ∃ u0 u1 u2 u3 u4 u6 u7 u8 u9 u10 u11 u12 u13 u14 u15 u16 u17 u18 u19 u20 u21 u22 u23 u24 u25 : Value, a' = { tmps := #[u0, u1, u2, u3, u4, .int .i64 e, u6, u7, u8, u9, u10, u11, u12, u13, u14, u15, u16, u17, u18, u19, u20, u21, u22, u23, u24, u25], defers := [] }
end
section
/-- Of what w0 had, and of X, nothing has turned. -/
def Mx (w0 : World) (X : Nat → Prop) (w w' : World) : Prop := Moved (fun k => w0.heap.size ≤ k ∧ ¬ X k) w w'
theorem Mx.bs {w0 w w' : World} {X : Nat → Prop} {v : Value} {l : List UInt8} (h : Mx w0 X w w') (hp : Bs w v l) (hS : ∀ g, v.ownBlock = some g → g < w0.heap.size ∨ X g) : Bs w' v l :=
  hp.moved h (fun g hg hj => by rcases hS g hg with e | e; omega; exact hj.2 e)
theorem Ss.moved {P : Nat → Prop} {w w' : World} {v : Value} {l : List ByteArray} (h : Ss w v l) (hm : Moved P w w') (hP : 0 < l.length → ∀ k, v.ownBlock = some k → ¬ P k) : Ss w' v l := by
  obtain ⟨ao, cap, rfl, h1, h2, h3, h4⟩ := h
  refine ⟨ao, cap, rfl, h1, h2, h3, fun ad had j u hu => ?_⟩
  have hc := h4 ad had j u hu
  subst had
  have hlt := World.block_lt_of_cell? w _ hc
  rw [block_add] at hlt
  have h0 : 0 < l.length := by
    have := (List.getElem?_eq_some_iff.1 hu).1
    unfold strs at this
    rw [List.length_map] at this; omega
  rw [World.cell?_of_block (w := w) (hm.block _ (by rw [block_add]; exact hlt) (by rw [block_add]; exact hP h0 _ rfl))]
  exact hc
theorem Mx.ss {w0 w w' : World} {X : Nat → Prop} {v : Value} {l : List ByteArray} (h : Mx w0 X w w') (hp : Ss w v l) (hS : 0 < l.length → ∀ g, v.ownBlock = some g → g < w0.heap.size ∨ X g) : Ss w' v l :=
  hp.moved h (fun h0 g hg hj => by rcases hS h0 g hg with e | e; omega; exact hj.2 e)
theorem Pus.mono {w : World} {S S' : Nat → Prop} {v : Value} {l : Pages} (h : Pus w S v l) (hS : ∀ g, S g → S' g) : Pus w S' v l := by
  obtain ⟨ao, cap, rfl, h1, h2, h3⟩ := h
  refine ⟨ao, cap, rfl, h1, h2, fun k hk => ?_⟩
  obtain ⟨b, off, e, hb, c0, u, c1, hbs, hu⟩ := h3 k hk
  exact ⟨b, off, e, hS b hb, c0, u, c1, hbs, fun h0 g hg => hS g (hu h0 g hg)⟩
section
variable {w0 w : World} {X : Nat → Prop} {r : Nat} {A : Ab}
end
theorem new_synced (n : Nat) : Synced (Ab.new n) (List.replicate n (zeros 512)) := ⟨rfl, rfl, rfl, rfl⟩
theorem new_small (n k : Nat) : Small (Ab.new n) k := ⟨Nat.zero_le _, Nat.zero_le _, Nat.zero_le _⟩
theorem Before.self {K : List (List UInt8)} (h : K[0]? = some (zeros 512)) : Before K K := ⟨rfl, h, fun _ _ => rfl⟩
theorem After.self {K H : List (List UInt8)} {l : Pages} (h : After K H l) : Before K K := Before.self h.head
theorem commit_good {A : Ab} {K : List (List UInt8)} {l : Pages} (hS : Synced A K) (hK : K[0]? = some (zeros 512)) (hl : Pagess K.length l) (hs : A.stop = 0) :
    (A.commit l).1 = 0 ∧ (∃ K', Synced (A.commit l).2 K' ∧ After K' K l) ∧ (A.commit l).2.ops = A.ops + (2 * l.length + 6) ∧ (A.commit l).2.stop = 0 := by
  have hc : A.commit l = A.run (commitOps l) := by unfold Ab.commit; rw [if_pos ((fits_iff _ _).2 (by rw [hS.now]; exact hl))]
  rw [hc]
  rcases commit_out hS (Before.self hK) hl with ⟨q1, q2, q3, q4⟩ | ⟨-, -, q⟩
  · exact ⟨q1, q2, q3, by rw [q4, hs, Nat.zero_sub]⟩
  · omega
theorem Synced.small {A : Ab} {K : List (List UInt8)} (h : Synced A K) {k : Nat} (h1 : A.ops ≤ k) (h2 : A.stop ≤ 1073741824) : Small A k := ⟨h1, by rw [h.since]; exact Nat.zero_le _, h2⟩
end
section
open Go.RowKit Go.ChangeShapes Go.WideShapes
end
section
open Go.RowKit Go.ChangeShapes Go.WideShapes
end
section
end
end Go.Proofs.YtbkokckpjmbjhaaDoor
