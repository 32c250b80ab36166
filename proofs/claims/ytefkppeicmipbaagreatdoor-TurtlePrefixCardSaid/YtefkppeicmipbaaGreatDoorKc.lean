/- References: the library's functions. -/
import Derived.Test.YtefkppeicmipbaaGreatDoorKb
import Derived.Test.YtefkppeicmipbaaGreatDoorShelf
namespace Go.Proofs.YtefkppeicmipbaaGreatDoor
open Go.RowKit Go.Shelf
set_option maxRecDepth 100000
set_option linter.unusedVariables false
theorem spre_anyK (s p : ByteArray) (w : World) : Calls Tryz.prog 29 #[.string s, .string p] w fun e w' => e = .returned (.bool (Lib.hasPrefix s.data.toList p.data.toList)) ∧ w' = w := Any.strings_HasPrefix Tryz.lays99 s p w
theorem strimp_anyK (s p : ByteArray) (w : World) : Calls Tryz.prog 64 #[.string s, .string p] w fun e w' => e = .returned (.string ⟨(Lib.trimPrefix s.data.toList p.data.toList).toArray⟩) ∧ w' = w := Any.strings_TrimPrefix Tryz.lays101 s p w
theorem sclone_anyK (s : ByteArray) (w : World) (hs : s.size ≤ 1000000) : Calls Tryz.prog 13 #[.string s] w fun e w' => e = .returned (.string s) ∧ Below w.heap.size w w' := by
  have HC := Lib.hid (fun w => Any.stringslite_Clone Tryz.laysM316 s w (by omega))
  go_enter Tryz.func13, Tryz.ntmps13
  go_wp2_with fail
  refine (HC.out _).mono ?_
  rintro e w' ⟨rfl, hb⟩
  go_wp2_with fail
  go_ret
  exact ⟨rfl, hb⟩
theorem ascii_allK {l : List UInt8} (h : l.all (fun c => decide (c.toNat < 128)) = true) : ∀ (j : Nat) b, l[j]? = some b → b.toNat < 128 := fun j b hj =>
  of_decide_eq_true (List.all_eq_true.1 h b (List.mem_of_getElem? hj))
/-- The last '/' from a text's end: -1 where there is none. -/
def lastI (l : List UInt8) : Int := if l.contains 47 then ((cutLK l).length : Int) else -1
theorem lastI_snoc (x : List UInt8) (c : UInt8) : lastI (x ++ [c]) = if c = 47 then (x.length : Int) else lastI x := by
  unfold lastI
  rw [cut_snoc]
  by_cases h : c = 47
  · subst h; simp
  · have h2 : (x ++ [c]).contains 47 = x.contains 47 := by
      cases hx : x.contains 47 with
      | true => rw [List.contains_iff_mem] at hx ⊢; exact List.mem_append_left _ hx
      | false =>
        rw [← Bool.not_eq_true, List.contains_iff_mem] at hx ⊢
        intro hm
        rcases List.mem_append.1 hm with h1 | h1
        · exact hx h1
        · exact h (List.mem_singleton.1 h1).symm
    rw [h2, if_neg h, if_neg h]
theorem lastIdx_lastI (s : ByteArray) (l : List UInt8) (hl : l = s.data.toList) : ∀ k, k ≤ l.length → Lib.lastIdx s 47 k = lastI (l.take k)
  | 0, _ => by rw [List.take_zero]; rfl
  | k + 1, h => by
    have hk : k < s.size := by rw [Lib.size_eq, ← hl]; omega
    have e : s.data[k]! = l[k] := by
      rw [LastIndex.byteBang s k hk]
      subst hl
      rfl
    have ih := lastIdx_lastI s l hl k (by omega)
    rw [take_snoc (by omega), lastI_snoc]
    unfold Lib.lastIdx
    rw [e, ih, List.length_take, Nat.min_eq_left (by omega)]
    by_cases h47 : l[k] = 47
    · rw [if_pos h47, if_pos (by rw [h47]; rfl)]
    · rw [if_neg h47, if_neg (fun e => h47 (UInt8.toNat_inj.1 (by have : ((47 : UInt8).toNat : Int) = 47 := rfl; omega)))]
theorem slast_any (s : ByteArray) (hs : s.size ≤ 1000000) (w : World) : Calls Tryz.prog 112 #[.string s, .int .u8 47] w fun e w' => e = .returned (.int .i64 (lastI s.data.toList)) ∧ w' = w := by
  have h := Any.strings_LastIndexByte Tryz.lays149 s 47 (by omega) w
  have e := lastIdx_lastI s _ rfl s.size (by rw [Lib.size_eq]; exact Nat.le_refl _)
  rw [List.take_of_length_le (by rw [Lib.size_eq]; exact Nat.le_refl _)] at e
  rw [← e]
  exact h
/-- What IndexAny answers: where the first of some marks stands. -/
def AnyAt (s m : ByteArray) : Prop := ∀ w, Calls Tryz.prog 128 #[.string s, .string m] w fun e w' => e = .returned (.int .i64 (Lib.indexAny s.data.toList m.data.toList)) ∧ Below w.heap.size w w'
theorem anyAt_ascii (s m : ByteArray) (hs : s.size ≤ 1000000) (hm : m.size ≤ 1000000) (h1 : ∀ (j : Nat) b, s.data.toList[j]? = some b → b.toNat < 128) (h2 : ∀ (j : Nat) b, m.data.toList[j]? = some b → b.toNat < 128) : AnyAt s m := fun w =>
  Any.strings_IndexAny_laid Tryz.lays153 (by kernel_rfl) s m w (by omega) (by omega) h1 h2
theorem byteExtra : Builder.Extra Tryz.prog Tryz.lays156_ren where
  sizeBuilder := by kernel_rfl
  liesBuilder := by kernel_rfl
  t5 := Tryz.underlying5
  a5 := Tryz.isAgg5
  z5 := Tryz.sizeOf5
  v5 := Tryz.zeroValue5
  infoByte := by kernel_rfl
  cellsByte := by kernel_rfl
  sizeByte := by kernel_rfl
  neB5 := by decide
theorem sjoin_any (b : Nat) (xs : List ByteArray) (w : World) (hx : ∀ (j : Nat) x, xs[j]? = some x → w.cell? ⟨b, j, none⟩ = some (.string x)) (hb : b < w.heap.size) (c : Nat) (hN : xs.length ≤ 5) (hc : xs.length ≤ c) (hlen : (xs.map (·.data.toList)).flatten.length ≤ 1000000) :
    Calls Tryz.prog 101 #[.slice (some ⟨b, 0, none⟩) xs.length c, .string ⟨#[]⟩] w fun e w' => e = .returned (.string ⟨(xs.map (·.data.toList)).flatten.toArray⟩) ∧ Below w.heap.size w w' := by
  have e : Lib.join (xs.map (·.data.toList)) [] = (xs.map (·.data.toList)).flatten := by
    generalize xs.map (·.data.toList) = ys
    cases ys with
    | nil => rfl
    | cons y r => rw [Lib.join_cons]; simp [Lib.joinTail]
  have h := Any.strings_Join Tryz.lays156 byteExtra b 0 c xs ⟨#[]⟩ w (by simpa using hx) hb (by omega) hc (by show (Lib.join _ []).length ≤ _; rw [e]; omega)
  rw [show (⟨#[]⟩ : ByteArray).data.toList = [] from rfl, e] at h
  exact h
end Go.Proofs.YtefkppeicmipbaaGreatDoor
