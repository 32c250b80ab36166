/- Package dec: read, front, Parse. -/
import Derived.Test.YtecomfhbdonkbaaGreatDoorEc
import Derived.Test.YtecomfhbdonkbaaGreatDoorShelf
import Derived.Lib.SlTrimSet
import Derived.Shelf.Small.Wraps
import Derived.ScopeJumps
namespace Go.Proofs.YtecomfhbdonkbaaGreatDoor
open Go.RowKit Go.Shelf Flo
set_option maxRecDepth 100000
set_option linter.unusedVariables false
set_option linter.unusedSimpArgs false

/-- the word is the number n, or too great as n is. -/
def PosN (x n : Nat) : Prop := (n < 2 ^ 53 ∧ Rep x (n : Int)) ∨ (2 ^ 53 ≤ n ∧ Big (2 ^ 53) false x)
theorem PosN.lt {x n : Nat} (h : PosN x n) : x < 2 ^ 64 := by
  rcases h with h | h
  · exact h.2.lt
  · exact h.2.2

theorem add_pos {x y n b : Nat} (hx : PosN x n) (hy : Rep y (b : Int)) : ∃ r, Ieee.double.add x y = some r ∧ PosN r (n + b) := by
  rcases hx with ⟨h1, h2⟩ | ⟨h1, h2⟩
  · have e : ((n : Int) + b).natAbs = n + b := by omega
    have e2 : ((n + b : Nat) : Int) = (n : Int) + b := by omega
    by_cases h : n + b < 2 ^ 53
    · obtain ⟨r, hr1, hr2⟩ := add_rep h2 hy (by
        by_cases h0 : (n : Int) + b = 0
        · exact .inl h0
        · exact .inr (Ex.small (by omega) (by omega)))
      exact ⟨r, hr1, .inl ⟨h, by rw [e2]; exact hr2⟩⟩
    · obtain ⟨r, hr1, hr2⟩ := add_over (t := 53) (by decide) h2 hy (by omega)
      have : decide ((n : Int) + b < 0) = false := by simp; omega
      rw [this] at hr2
      exact ⟨r, hr1, .inr ⟨by omega, hr2⟩⟩
  · obtain ⟨r, hr1, hr2⟩ := add_big (t := 53) (C := 0) (by decide) h2 hy (by simp) (Nat.two_pow_pos _) (by simp)
    exact ⟨r, hr1, .inr ⟨by omega, hr2⟩⟩

theorem mul_pos {x y n b : Nat} (hx : PosN x n) (hy : Rep y (b : Int)) (h0 : b ≠ 0) : ∃ r, Ieee.double.mul x y = some r ∧ PosN r (n * b) := by
  have hle : n ≤ n * b := Nat.le_mul_of_pos_right _ (by omega)
  rcases hx with ⟨h1, h2⟩ | ⟨h1, h2⟩
  · have e2 : ((n * b : Nat) : Int) = (n : Int) * b := Int.natCast_mul _ _
    have e : ((n : Int) * b).natAbs = n * b := by rw [← e2]; rfl
    by_cases h : n * b < 2 ^ 53
    · obtain ⟨r, hr1, hr2⟩ := mul_rep h2 hy (by
        by_cases h9 : (n : Int) * b = 0
        · exact .inl h9
        · exact .inr (Ex.small (by omega) (by omega)))
      exact ⟨r, hr1, .inl ⟨h, by rw [e2]; exact hr2⟩⟩
    · obtain ⟨r, hr1, hr2⟩ := mul_over (t := 53) (by decide) h2 hy (by omega)
      have : decide ((n : Int) * b < 0) = false := by rw [← e2]; simp; omega
      rw [this] at hr2
      exact ⟨r, hr1, .inr ⟨by omega, hr2⟩⟩
  · obtain ⟨r, hr1, hr2⟩ := mul_big (t := 53) (by decide) h2 hy (by omega)
    have : (false ^^ decide ((b : Int) < 0)) = false := by simp
    rw [this] at hr2
    exact ⟨r, hr1, .inr ⟨by omega, hr2⟩⟩

/-- digits behind others. -/
def dval (n : Nat) (l : List UInt8) : Nat := l.foldl (fun a c => 10 * a + (c.toNat - 48)) n
def digC (c : UInt8) : Bool := ([48, 49, 50, 51, 52, 53, 54, 55, 56, 57] : List UInt8).contains c
theorem digC_iff (c : UInt8) : digC c = true ↔ 48 ≤ c.toNat ∧ c.toNat ≤ 57 := by
  have key : ∀ n : Fin 256, (digC (UInt8.ofNat n.val) = true ↔ 48 ≤ (UInt8.ofNat n.val).toNat ∧ (UInt8.ofNat n.val).toNat ≤ 57) := by decide +kernel
  have := key ⟨c.toNat, c.toNat_lt⟩
  rwa [show UInt8.ofNat c.toNat = c from UInt8.ofNat_toNat] at this

/-- one digit more. -/
theorem read_step {re im sr si n k c d : Nat} (hr : PosN re n) (hi : Rep im (k : Int)) (hk : k ≤ 1000) (hs : Rep sr 0) (hc : Rep si (c : Int)) (hc1 : c ≤ 1) (hd : d ≤ 9) :
    ∃ r1 r2 i2 r3 i3, Ieee.double.mul re 4621819117588971520 = some r1 ∧ cSumBits .add .f64 r1 im (floatOfInt .f64 (d : Int)) 0 = some (r2, i2) ∧
      cSumBits .add .f64 r2 i2 sr si = some (r3, i3) ∧ PosN r3 (10 * n + d) ∧ Rep i3 ((k + c : Nat) : Int) := by
  obtain ⟨r1, a1, a2⟩ := mul_pos hr rep10 (by decide)
  obtain ⟨r2, b1, b2⟩ := add_pos a2 (rep_int (d : Int) (by rw [p53]; omega))
  obtain ⟨i2, c1, c2⟩ := add_rep hi rep0 (by
    by_cases h0 : (k : Int) + 0 = 0
    · exact .inl h0
    · exact .inr (Ex.small (by omega) (by rw [p53]; omega)))
  rw [Int.add_zero] at c2
  obtain ⟨r3, d1, d2⟩ := add_pos (b := 0) b2 hs
  obtain ⟨i3, e1, e2⟩ := add_rep c2 hc (by
    by_cases h0 : (k : Int) + c = 0
    · exact .inl h0
    · exact .inr (Ex.small (by omega) (by rw [p53]; omega)))
  refine ⟨r1, r2, i2, r3, i3, a1, ?_, ?_, ?_, ?_⟩
  · have f1 : floatBits .add .f64 r1 (floatOfInt .f64 (d : Int)) = some r2 := b1
    have f2 : floatBits .add .f64 im 0 = some i2 := c1
    simp [cSumBits, f1, f2]
  · have f1 : floatBits .add .f64 r2 sr = some r3 := d1
    have f2 : floatBits .add .f64 i2 si = some i3 := e1
    simp [cSumBits, f1, f2]
  · rw [Nat.mul_comm]; exact d2
  · exact e2

theorem dval_snoc (n : Nat) (l : List UInt8) (c : UInt8) : dval n (l ++ [c]) = 10 * dval n l + (c.toNat - 48) := by
  unfold dval; rw [List.foldl_append]; rfl

/-- what read's loop keeps. -/
def ReadSt (s : ByteArray) (n k c : Nat) (z i : Value) : Prop := ∃ re im j : Nat, j ≤ s.size ∧ z = .complex .f64 re im ∧ i = .int .i64 (j : Int) ∧ PosN re (dval n (s.data.toList.take j)) ∧ Rep im ((k + c * j : Nat) : Int)

theorem read_any (w : World) (re im sr si n k c : Nat) (s : ByteArray) (hr : PosN re n) (hi : Rep im (k : Int)) (hk : k ≤ 400) (hs : Rep sr 0) (hc : Rep si (c : Int)) (hc1 : c ≤ 1) (hd : ∀ x ∈ s.data.toList, digC x = true) (hz : s.size ≤ 400) :
    Calls Tryz.prog 83 #[.complex .f64 re im, .string s, .complex .f64 sr si] w fun e w' => ∃ r i, e = .returned (.complex .f64 r i) ∧ PosN r (dval n s.data.toList) ∧ Rep i ((k + c * s.size : Nat) : Int) ∧ w = w' := by
  have HD := Lib.hid hd
  have HS := Lib.hid (And.intro hs (And.intro hc hc1))
  have HK := Lib.hid hk
  have HR := Lib.hid (And.intro hr hi)
  clear hd hs hc hc1 hk hr hi
  go_enter Tryz.func83, Tryz.ntmps83
  go_wp2_with fail
  go_loop [0, 10] (fun z i => ReadSt s n k c z i) (fun _ i => s.size - (intOf i).toNat)
  case atStart => exact ⟨re, im, 0, Nat.zero_le _, rfl, rfl, HR.out.1, HR.out.2⟩
  case round =>
    obtain ⟨re1, im1, j, hj, rfl, rfl, h1, h2⟩ := hrel
    have HH := Lib.hid (And.intro h1 h2)
    clear h1 h2
    by_cases hlt : j < s.size
    · have hdg := HD.out s[j] (by
        have : s[j] = s.data.toList[j]'(by simpa using hlt) := rfl
        rw [this]; exact List.getElem_mem _)
      have hdg2 : 48 ≤ s[j].toNat ∧ s[j].toNat ≤ 57 := (digC_iff _).1 hdg
      have hcj : c * j ≤ 400 := by
        have := HS.out.2.2
        have h := Nat.mul_le_mul this (show j ≤ 400 by omega)
        omega
      obtain ⟨r1, r2, i2, r3, i3, a1, a2, a3, a4, a5⟩ := read_step (d := s[j].toNat - 48) HH.out.1 HH.out.2 (by have := HK.out; omega) HS.out.1 HS.out.2.1 HS.out.2.2 (by omega)
      have t1 := fun t w => run_float_arith (P := Tryz.prog) w .mul t .f64 re1 4621819117588971520 r1 a1
      have e0 : ((s[j].toNat - 48 : Nat) : Int) = (s[j].toNat : Int) - 48 := by omega
      rw [e0] at a2
      have t2 := fun t w => run_complex_sum (P := Tryz.prog) w .add (.inl rfl) t .f64 _ _ _ _ _ _ a2
      have t3 := fun t w => run_complex_sum (P := Tryz.prog) w .add (.inl rfl) t .f64 _ _ _ _ _ _ a3
      have HF := Lib.hid (And.intro a4 a5)
      clear a1 a2 a3 a4 a5 e0
      go_wp2_with fail
      refine ⟨⟨r3, i3, j + 1, hlt, rfl, by go_num, ?_, ?_⟩, by simp [intOf]; omega⟩
      · rw [List.take_succ_eq_append_getElem (by simpa using hlt), dval_snoc]
        exact HF.out.1
      · have : k + c * (j + 1) = k + c * j + c := by rw [Nat.mul_succ]; omega
        rw [this]
        exact HF.out.2
    · have e : j = s.size := by omega
      have HE := Lib.hid e
      clear e
      go_wp2_with fail
      go_ret
      refine ⟨_, _, rfl, ?_, ?_, rfl⟩
      · have := HH.out.1
        rw [HE.out, List.take_of_length_le (by simp)] at this
        exact this
      · have := HH.out.2
        rw [HE.out] at this
        exact this

theorem stl_any (s : ByteArray) (w : World) : Calls Tryz.prog 108 #[.string s, .string ⟨#[48, 49, 50, 51, 52, 53, 54, 55, 56, 57]⟩] w fun e w' => e = .returned (.string ⟨(s.data.toList.dropWhile digC).toArray⟩) ∧ Below w.heap.size w w' := by
  have h := Any.strings_TrimLeft_laid Tryz.lays161 (by kernel_rfl) s ⟨#[48, 49, 50, 51, 52, 53, 54, 55, 56, 57]⟩ w (by decide) (fun j b hj => by
    have : ∀ x ∈ ([48, 49, 50, 51, 52, 53, 54, 55, 56, 57] : List UInt8), x.toNat < 128 := by decide
    exact this b (List.mem_of_getElem? hj))
  exact h
theorem strimp_any (s p : ByteArray) (w : World) : Calls Tryz.prog 81 #[.string s, .string p] w fun e w' => e = .returned (.string ⟨(Lib.trimPrefix s.data.toList p.data.toList).toArray⟩) ∧ w' = w := Any.strings_TrimPrefix Tryz.lays101 s p w
theorem scutp_any (s p : ByteArray) (w : World) : Calls Tryz.prog 80 #[.string s, .string p] w fun e w' => e = .returned (.tuple #[.string ⟨(Lib.trimPrefix s.data.toList p.data.toList).toArray⟩, .bool (Lib.hasPrefix s.data.toList p.data.toList)]) ∧ w' = w := Any.strings_CutPrefix Tryz.lays103 s p w
theorem strimr_any (s : ByteArray) (w : World) (hs : s.size ≤ 9223372036854775807) : Calls Tryz.prog 84 #[.string s, .string ⟨#[48]⟩] w fun e w' => e = .returned (.string ⟨(Lib.trimRightB s.data.toList 48).toArray⟩) ∧ w' = w := Any.strings_TrimRight_one Tryz.lays162 s 48 (by decide) w hs

theorem ba_ext {s : ByteArray} {l : List UInt8} (h : s.data.toList = l) : s = ⟨l.toArray⟩ := by
  subst h; simp

theorem ba_extract (s : ByteArray) (n : Nat) (h : n ≤ s.size) : (s.extract 0 n).data.toList = s.data.toList.take n := by
  simp [ByteArray.data_extract]
theorem take_while (p : UInt8 → Bool) : ∀ l : List UInt8, l.take (l.takeWhile p).length = l.takeWhile p
  | [] => rfl
  | c :: r => by
    rw [List.takeWhile_cons]
    split
    · rw [List.length_cons, List.take_succ_cons, take_while p r]
    · rfl

theorem front_any (s : ByteArray) (w : World) (hs : s.size ≤ 100000) : Calls Tryz.prog 82 #[.string s] w fun e w' => ∃ r1 r2 : ByteArray, e = .returned (.tuple #[.string r1, .string r2]) ∧ r1.data.toList = s.data.toList.takeWhile digC ∧ r2.data.toList = s.data.toList.dropWhile digC ∧ Below w.heap.size w w' := by
  have HT := Lib.hid (stl_any s w)
  obtain ⟨y, hy⟩ : ∃ y : ByteArray, y = ⟨(s.data.toList.dropWhile digC).toArray⟩ := ⟨_, rfl⟩
  rw [← hy] at HT
  have hyl : y.data.toList = s.data.toList.dropWhile digC := by rw [hy]
  have hlen : (s.data.toList.takeWhile digC).length + y.size = s.size := by
    rw [Lib.size_eq y, Lib.size_eq s, hyl, ← List.length_append, List.takeWhile_append_dropWhile]
  have HY := Lib.hid (And.intro hyl hlen)
  have hle : y.size ≤ s.size := by omega
  clear hy hyl hlen
  go_enter Tryz.func82, Tryz.ntmps82
  go_wp2_with fail
  refine (HT.out).mono ?_
  rintro e w' ⟨rfl, hb⟩
  go_wp2_with fail
  go_ret2
  refine ⟨_, _, rfl, ?_, HY.out.1, hb⟩
  rw [ba_extract _ _ (by omega), show s.size - y.size = (s.data.toList.takeWhile digC).length by have := HY.out.2; omega]
  exact take_while _ _

def Exit.twoX (J0 J1 : Act → World → Prop) (Q : Exit → Act → World → Prop) : Exit → Act → World → Prop
  | .goto l, a, w => (l = 0 ∧ J0 a w) ∨ (l = 1 ∧ J1 a w)
  | e, a, w => Q e a w
theorem Exit.twoX_ret {J0 J1 : Act → World → Prop} {Q : Exit → Act → World → Prop} {a : Act} {w : World} : Exit.twoX J0 J1 Q .ret a w = Q .ret a w := rfl
theorem wp_scope_two10 {P : Program} {a : Act} {w : World} {Q : Exit → Act → World → Prop} {c r0 r1 : Code} (J0 J1 : Act → World → Prop) (μ : Act → World → Nat) (h0 : findLabel c 0 = some (Code.seq .skip r0)) (h1 : findLabel c 1 = some (Code.seq .skip r1))
    (out : ∀ a w, J1 a w → r1.wp P (Exit.noGoto Q) a w)
    (pass : ∀ a w, J0 a w → r0.wp P (Exit.twoX (fun a' w' => J0 a' w' ∧ μ a' w' < μ a w) J1 Q) a w)
    (first : (∀ a w, J0 a w → r0.wp P (Exit.twoX J0 J1 Q) a w) → c.wp P (Exit.twoX J0 J1 Q) a w) : (Code.scope c).wp P Q a w := by
  have pass' : ∀ a w, J0 a w → (Code.seq .skip r0).wp P (Exit.twoX (fun a' w' => J0 a' w' ∧ μ a' w' < μ a w) J1 Q) a w := fun a w hJ => wp_seq (wp_skip (pass a w hJ))
  have out' : ∀ a w, J1 a w → (Code.seq .skip r1).wp P (Exit.noGoto Q) a w := fun a w hJ => wp_seq (wp_skip (Code.wp_mono (by
    intro e a w h
    cases e with
    | normal => exact h
    | _ => exact h) (out a w hJ)))
  intro b k cs
  have hg0 : gotoIn 0 (.inScope c :: k) = some (.code (Code.seq .skip r0) :: .inScope c :: k) := by simp [gotoIn, h0]
  have hg1 : gotoIn 1 (.inScope c :: k) = some (.code (Code.seq .skip r1) :: .inScope c :: k) := by simp [gotoIn, h1]
  have last : ∀ a w, J1 a w → ∃ e a' w', Q e a' w' ∧ Arrives P (lone (b.at a (.code (Code.seq .skip r1) :: .inScope c :: k)) cs w) b k cs e a' w' := by
    intro a w hJ
    obtain ⟨e, a₁, w₁, hq, harr⟩ := out' a w hJ b (.inScope c :: k) cs
    cases e with
    | normal => exact ⟨.normal, a₁, w₁, hq, Steps.trans harr (.one step_inScope)⟩
    | exit id => exact ⟨.exit id, a₁, w₁, hq, fun k' hk => harr k' (by simp [exitTo, hk])⟩
    | goto l' => exact hq.elim
    | ret => exact ⟨_, a₁, w₁, hq, harr⟩
    | panic ch => exact ⟨_, a₁, w₁, hq, harr⟩
    | outgrown => exact ⟨_, a₁, w₁, hq, harr⟩
  have key : ∀ n a w, μ a w = n → J0 a w → ∃ e a' w', Q e a' w' ∧ Arrives P (lone (b.at a (.code (Code.seq .skip r0) :: .inScope c :: k)) cs w) b k cs e a' w' := by
    intro n
    induction n using Nat.strongRecOn with
    | _ n ih =>
      intro a w hn hJ
      obtain ⟨e, a₁, w₁, hq, harr⟩ := pass' a w hJ b (.inScope c :: k) cs
      cases e with
      | normal => exact ⟨.normal, a₁, w₁, hq, Steps.trans harr (.one step_inScope)⟩
      | exit id => exact ⟨.exit id, a₁, w₁, hq, fun k' hk => harr k' (by simp [exitTo, hk])⟩
      | goto l' =>
        rcases hq with ⟨rfl, hJ', hlt⟩ | ⟨rfl, hJ'⟩
        · obtain ⟨e₂, a₂, w₂, hq₂, harr₂⟩ := ih _ (by omega) a₁ w₁ rfl hJ'
          exact ⟨e₂, a₂, w₂, hq₂, .of_steps (harr _ hg0) harr₂⟩
        · obtain ⟨e₂, a₂, w₂, hq₂, harr₂⟩ := last a₁ w₁ hJ'
          exact ⟨e₂, a₂, w₂, hq₂, .of_steps (harr _ hg1) harr₂⟩
      | ret => exact ⟨_, a₁, w₁, hq, harr⟩
      | panic ch => exact ⟨_, a₁, w₁, hq, harr⟩
      | outgrown => exact ⟨_, a₁, w₁, hq, harr⟩
  obtain ⟨e, a₁, w₁, hq, harr⟩ := (first (fun a w hJ => Code.wp_mono (by
    intro e a w h
    cases e with
    | goto l' => exact h.imp (fun k => ⟨k.1, k.2.1⟩) id
    | _ => exact h) (pass a w hJ))) b (.inScope c :: k) cs
  cases e with
  | normal => exact ⟨.normal, a₁, w₁, hq, .head step_scope (Steps.trans harr (.one step_inScope))⟩
  | exit id => exact ⟨.exit id, a₁, w₁, hq, fun k' hk => .head step_scope (harr k' (by simp [exitTo, hk]))⟩
  | goto l' =>
    rcases hq with ⟨rfl, hJ'⟩ | ⟨rfl, hJ'⟩
    · obtain ⟨e₂, a₂, w₂, hq₂, harr₂⟩ := key _ a₁ w₁ rfl hJ'
      exact ⟨e₂, a₂, w₂, hq₂, .of_steps (.head step_scope (harr _ hg0)) harr₂⟩
    · obtain ⟨e₂, a₂, w₂, hq₂, harr₂⟩ := last a₁ w₁ hJ'
      exact ⟨e₂, a₂, w₂, hq₂, .of_steps (.head step_scope (harr _ hg1)) harr₂⟩
  | ret => exact ⟨_, a₁, w₁, hq, .of_steps (.one step_scope) harr⟩
  | panic ch => exact ⟨_, a₁, w₁, hq, .of_steps (.one step_scope) harr⟩
  | outgrown => exact ⟨_, a₁, w₁, hq, .of_steps (.one step_scope) harr⟩

end Go.Proofs.YtecomfhbdonkbaaGreatDoor
