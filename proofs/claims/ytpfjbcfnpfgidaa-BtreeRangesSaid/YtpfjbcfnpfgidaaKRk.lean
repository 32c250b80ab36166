/- Rk -/
import Derived.Test.YtpfjbcfnpfgidaaKRi
namespace Go.Proofs.Ytpfjbcfnpfgidaa
open Go.RowKit Go.Maps
set_option maxRecDepth 100000
set_option linter.unusedVariables false
/-- What a range answers, at both. -/
def RgTo (a0 : World) (A V : List ByteArray) (ee : Int) (e : Ending) (w' : World) : Prop := ∃ a b, e = .returned (.tuple #[a, b, .int .i64 ee]) ∧ Ss w' a A ∧ Ss w' b V ∧ Below a0.heap.size a0 w'
theorem Ss.nil9 (w : World) : Ss w (.slice none 0 0) [] := ⟨none, 0, rfl, Nat.le_refl _, by simp [maxLen], fun _ => rfl, fun ad h => by cases h⟩
theorem both_range {w0 w : World} {X : Nat → Prop} {r p N M c : Nat} {G H : Lg} {n : Nat} {t : BT Ent n} {tot B x : Nat} {kv vv : Value} (h : Bo w0 w X r p N M c G H t tot B x kv vv) (fr to : ByteArray) (mm : Int) (hl : t.flat.length ≤ 1000) :
 ∃ A V ee, A.length ≤ 1000 ∧ V.length ≤ 1000 ∧ (∀ u, Below w.heap.size w u → Calls Try.prog 10 #[.pointer (some ⟨p, 0, none⟩), .int .i64 (t.page : Int), .string fr, .string to, .int .i64 mm] u (RgTo u A V ee)) ∧
  (∀ u, Below w.heap.size w u → Calls Try.prog 12 #[.pointer (some ⟨x, 0, none⟩), .string fr, .string to, .int .i64 mm] u (RgTo u A V ee)) ∧ (0 ≤ mm → ee = 0 ∧ A = (rangeL fr to mm.toNat t.flat).map Ent.key ∧ V = (rangeL fr to mm.toNat t.flat).map Ent.val) := by
 by_cases hm : mm < 0
 ·refine ⟨[], [], 1, by simp, by simp, fun u hu => (range_neg p _ fr to mm hm u).mono ?_, fun u hu => (rrange_neg x fr to mm hm u).mono ?_, fun h => by omega⟩
  ·rintro e w' ⟨rfl, hb⟩
   exact ⟨_, _, rfl, Ss.nil9 _, Ss.nil9 _, hb⟩
  ·rintro e w' ⟨rfl, rfl⟩
   exact ⟨_, _, rfl, Ss.nil9 _, Ss.nil9 _, Below.refl _ _⟩
 ·obtain ⟨m, rfl⟩ : ∃ m : Nat, mm = m := ⟨mm.toNat, by omega⟩
  have hle := rangeL_length fr to m t.flat
  have hlk : (valsL t.flat).length = (keysL t.flat).length := by unfold valsL keysL; rw [List.length_map, List.length_map]
  have hll : (keysL t.flat).length ≤ 90000 := by unfold keysL; rw [List.length_map]; omega
  have hkk := range_keys fr to m h.tree.sorted
  refine ⟨(rangeL fr to m t.flat).map Ent.key, (rangeL fr to m t.flat).map Ent.val, 0, by rw [List.length_map]; omega, by rw [List.length_map]; omega, fun u hu => (range_tree (h.read hu).pb (H := some H) h.tree (by omega) fr to m).mono ?_, fun u hu => (rrange_any (h.read hu).map hlk fr to m hll).mono ?_, fun _ => ⟨rfl, rfl, rfl⟩⟩
  ·rintro e w' ⟨a, b, rfl, h1, h2, -, h4⟩
   exact ⟨a, b, rfl, h1.ss, h2.ss, h4⟩
  ·rintro e w' ⟨a, b, rfl, h1, h2, h4⟩
   rw [← hkk.1] at h1
   rw [← hkk.2] at h2
   exact ⟨a, b, rfl, h1.ss, h2.ss, h4⟩
end Go.Proofs.Ytpfjbcfnpfgidaa
