/- Ta; Tb; Tg -/
import Derived.Test.YtecomfhbdonkbaaGreatDoorGc
import Derived.Laws.Externs
import Derived.Lib.Bytealg
import Derived.Lib.IndexLaws
namespace Go.Proofs.YtecomfhbdonkbaaGreatDoor
open Go.RowKit
set_option maxRecDepth 100000
theorem ret_bool {a b : Bool} (h : a = b) : Ending.returned (.bool a) = .returned (.bool b) := by rw [h]
theorem ret_str {a b : ByteArray} (h : a = b) : Ending.returned (.string a) = .returned (.string b) := by rw [h]
/-- May a byte stand in an IRI, in a label, in a language? -/
def sgn (c : UInt8) : Bool := decide (32 < c.toNat) && decide (c.toNat ≠ 60) && decide (c.toNat ≠ 62) && decide (c.toNat ≠ 34) && decide (c.toNat ≠ 123) && decide (c.toNat ≠ 125) && decide (c.toNat ≠ 124) && decide (c.toNat ≠ 94) && decide (c.toNat ≠ 92) && decide (c.toNat ≠ 96)
def sml (c : UInt8) : Bool := decide (97 ≤ c.toNat) && decide (c.toNat ≤ 122)
def wrd (c : UInt8) : Bool := sml c || decide (65 ≤ c.toNat) && decide (c.toNat ≤ 90) || decide (48 ≤ c.toNat) && decide (c.toNat ≤ 57) || decide (c.toNat = 95)
def lng (c : UInt8) : Bool := sml c || decide (c.toNat = 45)
theorem all_snoc {l : List UInt8} {p : UInt8 → Bool} {k : Nat} {c : UInt8} (h : l[k]? = some c) (ha : (l.take k).all p = true) (hc : p c = true) : (l.take (k + 1)).all p = true := by
  obtain ⟨hk, rfl⟩ := List.getElem?_eq_some_iff.1 h
  rw [List.take_succ_eq_append_getElem hk, List.all_append, ha]
  simp [hc]
theorem all_false {l : List UInt8} {p : UInt8 → Bool} {k : Nat} {c : UInt8} (h : l[k]? = some c) (hc : p c = false) : l.all p = false := by
  rw [List.all_eq_false]
  exact ⟨c, List.mem_of_getElem? h, by simp [hc]⟩
theorem byte_cases (c : UInt8) : ∃ n : Nat, n = c.toNat ∧ n < 256 := ⟨_, rfl, c.toNat_lt⟩
set_option maxHeartbeats 1000000 in
theorem indexByte_barred (c : UInt8) (w : World) :
    Calls Tryz.prog 159 #[.string ⟨#[60, 62, 34, 123, 125, 124, 94, 92, 96]⟩, .int .u8 c.toNat] w fun e w' => e = .returned (.int .i64 (Lib.indexByte [60, 62, 34, 123, 125, 124, 94, 92, 96] c)) ∧ w = w' := by
  go_enter Tryz.func159, Tryz.ntmps159
  go_wp2
  rw [run_callFunc_extern (f := 141) (P := Tryz.prog) (fn := Tryz.f141) (by kernel_rfl) (by kernel_rfl) (by kernel_rfl) (by kernel_rfl) (e := Extern.BytealgIndexByte.indexByte) (by kernel_rfl), Lib.run_indexByteString]
  simp only [Result.andThen]
  rw [Oper.upon_value]
  go_wp2
  go_ret
  exact ⟨rfl, rfl⟩
theorem barred_sgn (c : UInt8) (h : 32 < c.toNat) : decide (Lib.indexByte [60, 62, 34, 123, 125, 124, 94, 92, 96] c < 0) = sgn c := by
  have key : ∀ n : Fin 256, 32 < (UInt8.ofNat n.val).toNat → decide (Lib.indexByte [60, 62, 34, 123, 125, 124, 94, 92, 96] (UInt8.ofNat n.val) < 0) = sgn (UInt8.ofNat n.val) := by decide +kernel
  have := key ⟨c.toNat, c.toNat_lt⟩
  simp only [UInt8.ofNat_toNat] at this
  exact this h
end Go.Proofs.YtecomfhbdonkbaaGreatDoor
namespace Go.Proofs.YtecomfhbdonkbaaGreatDoor
open Go.RowKit
set_option maxRecDepth 100000
/-- May a text be an IRI's, a label, a language? -/
def refB (s : ByteArray) : Bool := !s.toList.isEmpty && s.data.toList.all sgn
def labB (s : ByteArray) : Bool := !s.toList.isEmpty && decide (s.size ≤ 20) && s.data.toList.all wrd
def lanB (s : ByteArray) : Bool := !Lib.hasPrefix s.data.toList [45] && s.data.toList.all lng
set_option maxHeartbeats 1000000 in
theorem hasPrefix_any (s p : ByteArray) (w : World) :
    Calls Tryz.prog 127 #[.string s, .string p] w fun e w' => e = .returned (.bool (Lib.hasPrefix s.data.toList p.data.toList)) ∧ w = w' := by
  rw [← Lib.hasPrefix_of_take, ← Lib.size_eq, ← Lib.size_eq]
  go_enter Tryz.func127, Tryz.ntmps127
  go_wp2
  · rename_i h
    go_ret
    refine ⟨?_, rfl⟩
    show Ending.returned (Value.bool ((s.extract 0 p.size).toList == p.toList)) = _
    rw [Lib.extract_toList, Lib.toList_data]
    simp [h]
  · rename_i h
    go_ret
    refine ⟨?_, rfl⟩
    show Ending.returned (Value.bool false) = _
    simp [h]
theorem prefix_any (s p : ByteArray) (w : World) :
    Calls Tryz.prog 149 #[.string s, .string p] w fun e w' => e = .returned (.bool (Lib.hasPrefix s.data.toList p.data.toList)) ∧ w = w' := by
  go_enter Tryz.func149, Tryz.ntmps149
  go_wp2_with fail
  refine (hasPrefix_any s p _).mono ?_
  rintro e w' ⟨rfl, rfl⟩
  obtain ⟨b, hb⟩ : ∃ b, b = Lib.hasPrefix s.data.toList p.data.toList := ⟨_, rfl⟩
  rw [← hb]
  have HB := Lib.hid hb
  clear hb
  go_wp2
  go_ret
  exact ⟨ret_bool HB.out, rfl⟩
/-- A term. -/
structure Tm where
  k : Int
  s : ByteArray
  l : ByteArray
  t : ByteArray
def Tm.val (x : Tm) : Value := .agg #[.int .i64 x.k, .string x.s, .string x.l, .string x.t]
/-- Its texts are texts. -/
structure Tm.Ok (x : Tm) : Prop where
  k : (Lit.int .i64 x.k).wf = true
  s : x.s.size ≤ maxLen
  l : x.l.size ≤ maxLen
  t : x.t.size ≤ maxLen
theorem bcell {W w1 : World} (hb : Below W.heap.size W w1) : (∀ b o, b < W.heap.size → w1.cell? ⟨b, o, none⟩ = W.cell? ⟨b, o, none⟩) ∧ (∀ b o, b < W.heap.size → w1.frozen? ⟨b, o, none⟩ = W.frozen? ⟨b, o, none⟩) :=
  ⟨fun b o h => hb.cell (p := ⟨b, o, none⟩) h, fun b o h => hb.frozen (p := ⟨b, o, none⟩) h⟩
def barB (x : Tm) : Bool := x.l.toList.isEmpty && x.t.toList.isEmpty
def tagB (x : Tm) : Bool := if x.l.toList.isEmpty then x.t.toList.isEmpty || refB x.t else if x.t.toList.isEmpty then lanB x.l else false
def rankOf (k : Int) : Int := if k = 2 then 0 else if k = 1 then 1 else if k = 3 then 2 else 3
def checkOf (x : Tm) : Int :=
  if x.k < 1 ∨ 3 < x.k then 3
  else if 60 < x.s.size ∨ 60 < x.t.size ∨ 8 < x.l.size then 5
  else if x.k = 1 then (if barB x && refB x.s then 0 else 1)
  else if x.k = 2 then (if barB x && labB x.s then 0 else 1)
  else (if tagB x then 0 else 1)
end Go.Proofs.YtecomfhbdonkbaaGreatDoor
namespace Go.Proofs.YtecomfhbdonkbaaGreatDoor
open Go.RowKit
set_option maxRecDepth 100000
/-- Bytes as a string. -/
def bl (l : List UInt8) : ByteArray := ⟨l.toArray⟩
theorem bl_toList (l : List UInt8) : (bl l).data.toList = l := rfl
theorem gba_ext {a b : ByteArray} (h : a.data.toList = b.data.toList) : a = b := by
  cases a; cases b; simp at h; exact congrArg _ h
theorem ba_app (a b : ByteArray) : (a ++ b).data.toList = a.data.toList ++ b.data.toList := by simp
/-- A byte within a literal's quotes; a text; a literal's. -/
def quo (c : UInt8) : List UInt8 :=
  if c.toNat = 9 then [92, 116] else if c.toNat = 10 then [92, 110] else if c.toNat = 13 then [92, 114] else if c.toNat = 34 then [92, 34] else if c.toNat = 92 then [92, 92] else [c]
def quoL (l : List UInt8) : List UInt8 := 34 :: (l.flatMap quo ++ [34])
def tagL (x : Tm) : List UInt8 := if x.l.toList.isEmpty then (if x.t.toList.isEmpty then [] else 94 :: 94 :: 60 :: (x.t.data.toList ++ [62])) else 64 :: x.l.data.toList
def textL (x : Tm) : List UInt8 := if x.k = 1 then 60 :: (x.s.data.toList ++ [62]) else if x.k = 2 then 95 :: 58 :: x.s.data.toList else quoL x.s.data.toList ++ tagL x
theorem quo_length (c : UInt8) : (quo c).length ≤ 2 := by unfold quo; repeat' split
                                                          all_goals simp
theorem quos_length (l : List UInt8) : (l.flatMap quo).length ≤ 2 * l.length := by
  induction l with
  | nil => simp
  | cons c t ih => have := quo_length c; simp only [List.flatMap_cons, List.length_append, List.length_cons]; omega
theorem bl_size (l : List UInt8) : (bl l).size = l.length := by simp [bl, ByteArray.size]
theorem tagL_length (x : Tm) : (tagL x).length ≤ x.l.size + x.t.size + 4 := by
  have h1 : x.t.data.toList.length = x.t.size := by simp
  have h2 : x.l.data.toList.length = x.l.size := by simp
  unfold tagL
  split
  · split
    · simp
    · simp only [List.length_cons, List.length_append, List.length_nil]; omega
  · simp only [List.length_cons]; omega
theorem quoL_length (s : ByteArray) : (quoL s.data.toList).length ≤ 2 * s.size + 2 := by
  have h1 := quos_length s.data.toList
  have h2 : s.data.toList.length = s.size := by simp
  unfold quoL
  simp only [List.length_cons, List.length_append, List.length_nil]
  omega
end Go.Proofs.YtecomfhbdonkbaaGreatDoor
