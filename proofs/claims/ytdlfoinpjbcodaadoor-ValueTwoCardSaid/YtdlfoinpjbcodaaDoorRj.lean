/- DecAdds: the walk. -/
import Derived.Test.YtdlfoinpjbcodaaDoorRi
import Derived.Deep.DeepCutAuto
namespace Go.Proofs.YtdlfoinpjbcodaaDoor
open Go.RowKit Go.Shelf Flo
set_option maxRecDepth 100000
set_option linter.unusedVariables false
set_option linter.unusedSimpArgs false

/-- Cmp, said by six digits. -/
theorem cmp_six (w : World) (m s m2 s2 : Int) (h : GoodD m s) (h2 : GoodD m2 s2) (hP : PowAt w) :
    Calls Tryd.prog 23 #[.agg #[.int .i64 m, .int .i64 s], .agg #[.int .i64 m2, .int .i64 s2]] w fun e w' =>
      e = .returned (.int .i64 (cmpI (sixI m s.toNat) (sixI m2 s2.toNat))) ∧ Below w.heap.size w w' := by
  obtain ⟨k, rfl⟩ : ∃ k : Nat, s = k := ⟨s.toNat, by have := h.2.2.1; omega⟩
  obtain ⟨k2, rfl⟩ : ∃ k : Nat, s2 = k := ⟨s2.toNat, by have := h2.2.2.1; omega⟩
  have := cmp_any w m k m2 k2 h h2 hP
  simp only [Int.toNat_natCast] at this ⊢
  rw [← cmp_same m m2 k k2 (by have := h.2.2.2.1; omega) (by have := h2.2.2.2.1; omega)]
  exact this

/-- a number that fits into 64 bits. -/
def In64 (x : Int) : Prop := -9223372036854775808 ≤ x ∧ x ≤ 9223372036854775807
theorem in64_wf {a : Int} (h : (Lit.int .i64 a).wf = true) : In64 a := by
  have h' : IntKind.i64.min ≤ a ∧ a ≤ IntKind.i64.max := by simpa [Lit.wf] using h
  have e1 : IntKind.i64.min = -9223372036854775808 := by decide
  have e2 : IntKind.i64.max = 9223372036854775807 := by decide
  rw [e1, e2] at h'
  exact h'
/-- some blocks of decimals. -/
def Blks (w : World) (l : List (Nat × Int × Int)) : Prop := ∀ x ∈ l, DecB w x.1 x.2.1 x.2.2
theorem Blks.below {w w' : World} {l : List (Nat × Int × Int)} (h : Blks w l) (hb : Below w.heap.size w w') : Blks w' l := fun x hx => (h x hx).below hb
theorem Blks.more {w : World} {l : List (Nat × Int × Int)} {b : Nat} {m s : Int} (h : Blks w l) (hb : DecB w b m s) : Blks w ((b, m, s) :: l) := fun x hx => by
  rcases List.mem_cons.1 hx with rfl | hx
  · exact hb
  · exact h x hx
theorem Blks.new {w : World} {l : List (Nat × Int × Int)} {m s : Int} {t : TypeId} (h : Blks w l) : Blks (w.alloc (.cells #[.int .i64 m, .int .i64 s] t)) ((w.heap.size, m, s) :: l) :=
  (h.below ((Below.refl _ _).alloc (Nat.le_refl _) _)).more (DecB.new w m s t)
theorem Blks.head {w : World} {l : List (Nat × Int × Int)} {b : Nat} {m s : Int} (h : Blks w ((b, m, s) :: l)) : DecB w b m s := h _ (List.mem_cons_self ..)
theorem Blks.tail {w : World} {l : List (Nat × Int × Int)} {x : Nat × Int × Int} (h : Blks w (x :: l)) : Blks w l := fun y hy => h y (List.mem_cons_of_mem _ hy)

theorem nrm_last : ∀ (k : Nat) (n : Int), (nrm n k).2 = 0 ∨ ¬ (nrm n k).1 % 10 = 0
  | 0, n => .inl rfl
  | k + 1, n => by
    by_cases h : n % 10 = 0
    · rw [nrm_go (k + 1) (by omega) h]; exact nrm_last k (n / 10)
    · rw [nrm_stay _ _ h]; exact .inr h
/-- what comes of a sum is a decimal of that number. -/
theorem dec_of {Z vm vs : Int} (h : decP (nrm Z 6) = .tuple #[.agg #[.int .i64 vm, .int .i64 vs], .bool true]) : GoodD vm vs ∧ sixI vm vs.toNat = Z := by
  unfold decP at h
  split at h
  · rename_i hf
    simp at h
    obtain ⟨h1, h2⟩ := h
    simp [fitsL] at hf
    have hl := nrm_last 6 Z
    have hs := six_nrm 6 Z (by decide)
    rw [h1] at hl hf hs
    have h3 : (nrm Z 6).2 = vs.toNat := by omega
    rw [h3] at hl hf hs
    refine ⟨⟨by omega, by omega, by omega, by omega, by omega⟩, ?_⟩
    rw [hs]; unfold sixI; simp
  · simp at h
theorem dec_self {m s : Int} (h : GoodD m s) : decP (m, s.toNat) = .tuple #[.agg #[.int .i64 m, .int .i64 s], .bool true] := by
  have h0 := h.2.2.1
  have h1 := h.2.2.2.1
  have h2 := h.abs
  unfold decP
  rw [if_pos (by simp [fitsL]; omega)]
  simp; omega
theorem nrm_back {Z m s : Int} (B : Int) (hZ : Z = sixI m s.toNat + B) (h : GoodD m s) : nrm (Z + -B) 6 = (m, s.toNat) := by
  rw [hZ, show sixI m s.toNat + B + -B = sixI m s.toNat by omega]
  have h' : GoodD m (s.toNat : Int) := by rw [show ((s.toNat : Nat) : Int) = s by have := h.2.2.1; omega]; exact h
  exact nrm_six h'

theorem cmp_shift (A B : Int) : cmpI (A + B) A = cmpI B 0 := by
  unfold cmpI
  (repeat' split) <;> first | rfl | omega
theorem six_nil : sixI 0 (0 : Int).toNat = 0 := rfl
theorem good_nil : GoodD 0 0 := ⟨by omega, by omega, by omega, by omega, by omega⟩

end Go.Proofs.YtdlfoinpjbcodaaDoor
