/- Triples as text: Digits. -/
import Derived.Test.YtpoedjbodkdglaaGreatDoorUw
import Derived.Test.YtpoedjbodkdglaaGreatDoorUx
namespace Go.Proofs.YtpoedjbodkdglaaGreatDoor
open Go.RowKit Go.Shelf
set_option maxRecDepth 100000
set_option linter.unusedVariables false
set_option linter.unusedSimpArgs false
/-- A number's digits, below a thousand. -/
def dig1 (n : Nat) : List UInt8 := [UInt8.ofNat (48 + n)]
def digL (n : Nat) : List UInt8 := if n < 10 then dig1 n else if n < 100 then dig1 (n / 10) ++ dig1 (n % 10) else (dig1 (n / 100) ++ dig1 (n / 10 % 10)) ++ dig1 (n % 10)
def DigTo (l : ByteArray) (w0 : World) (e : Ending) (w' : World) : Prop := e = .returned (.string l) ∧ Below w0.heap.size w0 w'
theorem dig_base (n : Nat) (hn : n < 10) (w : World) : Calls Tryz.prog 13 #[.int .i64 (n : Int)] w (DigTo ⟨(dig1 n).toArray⟩ w) := by
  obtain ⟨y, hy⟩ : ∃ y, y = UInt8.ofNat (48 + n) := ⟨_, rfl⟩
  have hyn : (y.toNat : Int) = 48 + (n : Int) := by
    rw [hy, UInt8.toNat_ofNat']
    omega
  have hcb := run_convert_bytes_back (P := Tryz.prog) (w.alloc (.cells #[.int .u8 (48 + (n : Int))] 5)) 49 9 5 ⟨w.heap.size, 0, none⟩ 1 [y] Tryz.underlying49 Tryz.underlying5 Tryz.underlying9 (by
    intro q hq
    have : q = 0 := by simp at hq; omega
    subst this
    simp [Addr.add]
    omega)
  simp only [List.length_cons, List.length_nil, Nat.zero_add] at hcb
  obtain ⟨Y, hY⟩ : ∃ Y : ByteArray, Y = ⟨(dig1 n).toArray⟩ := ⟨_, rfl⟩
  have hcb' : (convert 49 9 (Value.slice (some ⟨w.heap.size, 0, none⟩) 1 1)).run Tryz.prog (w.alloc (.cells #[.int .u8 (48 + (n : Int))] 5)) = .ok (.string Y) (w.alloc (.cells #[.int .u8 (48 + (n : Int))] 5)) := by
    rw [hY]
    unfold dig1
    rw [← hy]
    exact hcb
  rw [← hY]
  have hni : (n : Int) < 10 := by omega
  have hn0 : (0 : Int) ≤ n := by omega
  clear hcb hY hy hyn hn
  go_enter Tryz.func13, Tryz.ntmps13
  go_wp2_with fail
  go_ret
  exact ⟨rfl, (Below.refl _ w).alloc (Nat.le_refl _) _⟩
set_option maxHeartbeats 4000000 in
theorem dig_step (n : Nat) (h10 : 10 ≤ n) (hn : n < 1000) (A B : ByteArray) (ha : A.size ≤ 10) (hb : B.size ≤ 10) (HA : ∀ w, Calls Tryz.prog 13 #[.int .i64 ((n / 10 : Nat) : Int)] w (DigTo A w)) (HB : ∀ w, Calls Tryz.prog 13 #[.int .i64 ((n % 10 : Nat) : Int)] w (DigTo B w)) (w : World) :
    Calls Tryz.prog 13 #[.int .i64 (n : Int)] w (DigTo (A ++ B) w) := by
  have HA := Lib.hid HA
  have HB := Lib.hid HB
  have hq : Int.tdiv (n : Int) 10 = ((n / 10 : Nat) : Int) := by rw [Int.tdiv_eq_ediv_of_nonneg (by omega)]; omega
  have hr : Int.tmod (n : Int) 10 = ((n % 10 : Nat) : Int) := by rw [Int.tmod_eq_emod_of_nonneg (by omega)]; omega
  have hni : (n : Int) < 1000 := by omega
  have hn0 : (10 : Int) ≤ n := by omega
  clear h10 hn
  go_enter Tryz.func13, Tryz.ntmps13
  go_wp2_with (first | rw [hq] | rw [hr] | fail)
  refine (HA.out _).mono ?_
  rintro e w1 ⟨rfl, hb1⟩
  go_wp2_with (first | rw [hq] | rw [hr] | fail)
  refine (HB.out _).mono ?_
  rintro e w2 ⟨rfl, hb2⟩
  go_wp2_with fail
  go_ret
  exact ⟨rfl, hb1.trans (hb2.mono hb1.size)⟩
theorem ba_apl (a b : List UInt8) : (⟨a.toArray⟩ : ByteArray) ++ ⟨b.toArray⟩ = ⟨(a ++ b).toArray⟩ := by
  apply ba_ext
  rw [ByteArray.data_append]
  simp
theorem dig1_size (n : Nat) : (⟨(dig1 n).toArray⟩ : ByteArray).size = 1 := rfl
theorem dig1_le (n : Nat) : (⟨(dig1 n).toArray⟩ : ByteArray).size ≤ 10 := by rw [dig1_size]; decide
theorem digits12 (n : Nat) (hn : n < 1000) (w : World) : Calls Tryz.prog 13 #[.int .i64 (n : Int)] w (DigTo ⟨(digL n).toArray⟩ w) := by
  unfold digL
  by_cases h1 : n < 10
  · rw [if_pos h1]; exact dig_base n h1 w
  rw [if_neg h1]
  by_cases h2 : n < 100
  · rw [if_pos h2, ← ba_apl]
    exact dig_step n (by omega) hn _ _ (dig1_le _) (dig1_le _) (dig_base _ (by omega)) (dig_base _ (by omega)) w
  rw [if_neg h2, ← ba_apl, ← ba_apl]
  refine dig_step n (by omega) hn _ _ ?_ (dig1_le _) (dig_step _ (by omega) (by omega) _ _ (dig1_le _) (dig1_le _) ?_ (dig_base _ (by omega))) (dig_base _ (by omega)) w
  · rw [ByteArray.size_append, dig1_size, dig1_size]; decide
  · have e : n / 10 / 10 = n / 100 := by omega
    rw [e]
    exact dig_base _ (by omega)
end Go.Proofs.YtpoedjbodkdglaaGreatDoor
/- Triples as text: TurtleDeep's documents. -/
namespace Go.Proofs.YtpoedjbodkdglaaGreatDoor
open Go.RowKit Go.Shelf
set_option maxRecDepth 1000000
set_option linter.unusedVariables false
/-- What opens n deep, and what shuts it. -/
def preU (r : Bool) : List UInt8 := match r with | true => [40, 32] | false => [91, 32, 60, 112, 58, 112, 62, 32]
def posU (r : Bool) : List UInt8 := match r with | true => [32, 41] | false => [32, 93]
def preL (r : Bool) : Nat → List UInt8
  | 0 => []
  | n + 1 => preL r n ++ preU r
def posL (r : Bool) : Nat → List UInt8
  | 0 => []
  | n + 1 => posL r n ++ posU r
def deepL (r : Bool) (n : Nat) : List UInt8 := [60, 115, 58, 115, 62, 32, 60, 112, 58, 112, 62, 32] ++ ((preL r n ++ [49]) ++ posL r n) ++ [32, 46]
def manyL : Nat → List UInt8
  | 0 => [60, 115, 58, 115, 62, 32, 60, 112, 58, 112, 62, 32, 48]
  | n + 1 => (manyL n ++ [44]) ++ digL (n + 1)
theorem preL_len (r : Bool) (n : Nat) : (preL r n).length ≤ 8 * n := by
  induction n with
  | zero => exact Nat.le_refl _
  | succ n ih => rw [preL, List.length_append]; have : (preU r).length ≤ 8 := by cases r <;> decide
                 omega
theorem posL_len (r : Bool) (n : Nat) : (posL r n).length ≤ 8 * n := by
  induction n with
  | zero => exact Nat.le_refl _
  | succ n ih => rw [posL, List.length_append]; have : (posU r).length ≤ 8 := by cases r <;> decide
                 omega
theorem digL_len (n : Nat) : (digL n).length ≤ 3 := by
  unfold digL
  split
  · decide +revert
  split <;> simp [dig1]
theorem manyL_len (n : Nat) : (manyL n).length ≤ 13 + 4 * n := by
  induction n with
  | zero => exact Nat.le_refl _
  | succ n ih => rw [manyL, List.length_append, List.length_append]; have := digL_len (n + 1); simp; omega
def deepOk (r : Bool) (n : Nat) : Bool := (turtleL ⟨#[]⟩ gB (deepL r n)).2 == (if n ≤ 10 then 0 else 10)
def manyOk (m : Nat) : Bool := match turtleL ⟨#[]⟩ gB (manyL (m - 1) ++ [32, 46]) with
  | (l, e) => if m ≤ 300 then e == 0 && l.length == m else e == 4 && l.length == 0
theorem deep_ok (r : Bool) (n : Nat) (h0 : 1 ≤ n) (h : n ≤ 14) : deepOk r n = true := by
  have all : ∀ k : Fin 14, deepOk true (k.val + 1) = true ∧ deepOk false (k.val + 1) = true := by decide +kernel
  have := all ⟨n - 1, by omega⟩
  rw [show n - 1 + 1 = n by omega] at this
  cases r
  · exact this.2
  · exact this.1
theorem many296 : manyOk 296 = true := by decide +kernel
theorem many297 : manyOk 297 = true := by decide +kernel
theorem many298 : manyOk 298 = true := by decide +kernel
theorem many299 : manyOk 299 = true := by decide +kernel
theorem many300 : manyOk 300 = true := by decide +kernel
theorem many301 : manyOk 301 = true := by decide +kernel
theorem many302 : manyOk 302 = true := by decide +kernel
theorem many303 : manyOk 303 = true := by decide +kernel
theorem many_ok (k : Nat) (h : k < 8) : manyOk (296 + k) = true := by
  match k, h with
  | 0, _ => exact many296
  | 1, _ => exact many297
  | 2, _ => exact many298
  | 3, _ => exact many299
  | 4, _ => exact many300
  | 5, _ => exact many301
  | 6, _ => exact many302
  | 7, _ => exact many303
end Go.Proofs.YtpoedjbodkdglaaGreatDoor
/- The walk of TurtleDeep. -/
namespace Go.Proofs.YtpoedjbodkdglaaGreatDoor
open Go.RowKit Go.Shelf
set_option maxRecDepth 100000
set_option linter.unusedVariables false
set_option linter.unusedSimpArgs false
theorem pre_grow (r : Bool) (k : Nat) : (⟨(preL r k).toArray⟩ : ByteArray) ++ ⟨(preU r).toArray⟩ = ⟨(preL r (k + 1)).toArray⟩ := by rw [ba_apl]; rfl
theorem pos_grow (r : Bool) (x : List UInt8) (k : Nat) : (⟨(x ++ posL r k).toArray⟩ : ByteArray) ++ ⟨(posU r).toArray⟩ = ⟨(x ++ posL r (k + 1)).toArray⟩ := by rw [ba_apl, posL, List.append_assoc]
theorem many_grow (k : Nat) : ((⟨(manyL k).toArray⟩ : ByteArray) ++ ⟨#[44]⟩) ++ ⟨(digL (k + 1)).toArray⟩ = ⟨(manyL (k + 1)).toArray⟩ := by
  rw [show (⟨#[44]⟩ : ByteArray) = ⟨([44] : List UInt8).toArray⟩ from rfl, ba_apl, ba_apl]; rfl
theorem ba_len (l : List UInt8) : (⟨l.toArray⟩ : ByteArray).size = l.length := by show l.toArray.size = _; simp
set_option maxHeartbeats 16000000 in
theorem tdeep_walk (x y : Int) (r : Bool) (w : World) (hL : LexAt w) :
    Calls Tryz.prog 5 #[.int .i64 x, .int .i64 y, .bool r] w fun e w' => e = .returned (.bool true) ∧ Below w.heap.size w w' := by
  obtain ⟨n, hn⟩ : ∃ n : Nat, x % 14 = n := ⟨(x % 14).toNat, by omega⟩
  obtain ⟨m, hm⟩ : ∃ m : Nat, y % 8 = m := ⟨(y % 8).toNat, by omega⟩
  have hn2 : n < 14 := by omega
  have hm2 : m < 8 := by omega
  have H1 := Lib.hid hn
  have H2 := Lib.hid hm
  clear hn hm
  have HK := Lib.hid (known12_any w hL)
  have HLA := Lib.hid (fun w' (hb : Below w.heap.size w w') => hL.below hb)
  obtain ⟨R1, hR1⟩ : ∃ R, R = turtleL ⟨#[]⟩ gB (deepL r (n + 1)) := ⟨_, rfl⟩
  obtain ⟨R2, hR2⟩ : ∃ R, R = turtleL ⟨#[]⟩ gB (manyL (296 + m - 1) ++ [32, 46]) := ⟨_, rfl⟩
  have hO1 := deep_ok r (n + 1) (by omega) (by omega)
  have hO2 := many_ok m hm2
  unfold deepOk at hO1
  unfold manyOk at hO2
  rw [← hR1] at hO1
  rw [← hR2] at hO2
  obtain ⟨L1, E1⟩ := R1
  obtain ⟨L2, E2⟩ := R2
  dsimp only at hO1 hO2
  have HO1 := Lib.hid hO1
  have HO2 := Lib.hid hO2
  have HR1 := Lib.hid hR1
  have HR2 := Lib.hid hR2
  have HP := Lib.hid (fun a (ha : a.size ≤ 2000) w (h : LexAt w) => parse12 a ⟨#[]⟩ gB (Nat.le_trans ha (by decide)) (by decide) (by decide) w h)
  unfold gB at HP
  have HN := Lib.hid (And.intro hn2 hm2)
  have hni : (n : Int) < 14 := by omega
  have hmi : (m : Int) < 8 := by omega
  have hn0 : (0 : Int) ≤ n := by omega
  have hm0 : (0 : Int) ≤ m := by omega
  clear hL hO1 hO2 hR1 hR2 hn2 hm2
  go_enter Tryz.func5, Tryz.ntmps5
  go_wp2_with fail
  refine HK.out.mono ?_
  rintro e w1 ⟨rfl, hb1⟩
  have HB1 := Lib.hid hb1
  clear hb1
  go_wp2_with fail
  refine (within12_eq x 14 (by omega) (by omega) _).mono ?_
  rintro e w2 ⟨rfl, hw⟩
  subst hw
  rw [H1.out]
  go_wp2_with fail
  refine (within12_eq y 8 (by omega) (by omega) _).mono ?_
  rintro e w3 ⟨rfl, hw⟩
  subst hw
  rw [H2.out]
  go_wp2_with fail
  go_loopw [7, 8] (fun s7 s8 wr => ∃ j : Nat, j ≤ n + 1 ∧ s8 = .int .i64 j ∧ s7 = .string ⟨(preL r j).toArray⟩ ∧ wr = w3) (fun _ i _ => 20 - (intOf i).toNat)
  case atStart => exact ⟨0, by omega, rfl, rfl, rfl⟩
  case round =>
    obtain ⟨j, hj, rfl, rfl, hwr⟩ := hrel
    replace hwr := hwr.symm
    subst hwr
    have HJ := Lib.hid hj
    have hji : (j : Int) ≤ 1 + n := by omega
    have hj0 : (0 : Int) ≤ j := by omega
    by_cases hjn : (j : Int) < 1 + n
    · have hgr := pre_grow r j
      obtain ⟨X, hX⟩ : ∃ X : ByteArray, X = ⟨(preL r j).toArray⟩ := ⟨_, rfl⟩
      have hxs : X.size ≤ 300 := by
        have := preL_len r j
        rw [hX, ba_len]
        omega
      rw [← hX] at hgr ⊢
      have HG := Lib.hid hgr
      clear hgr hX hj
      cases r
      · go_wp2_with fail
        go_roundw
        case rel => exact ⟨j + 1, by omega, by go_num, by rw [← HG.out]; rfl, by trivial⟩
        case measure => simp [intOf]; omega
      · go_wp2_with fail
        go_roundw
        case rel => exact ⟨j + 1, by omega, by go_num, by rw [← HG.out]; rfl, by trivial⟩
        case measure => simp [intOf]; omega
    · obtain rfl : j = n + 1 := by omega
      clear hjn hj hji hj0
      obtain ⟨X, hX⟩ : ∃ X : ByteArray, X = ⟨(preL r (n + 1)).toArray⟩ := ⟨_, rfl⟩
      have hxs : X.size ≤ 300 := by
        have := preL_len r (n + 1)
        rw [hX, ba_len]
        omega
      rw [← hX]
      have HX := Lib.hid hX
      clear hX
      go_wp2_with fail
      go_loopw [7, 9] (fun s7 s9 wr => ∃ j : Nat, j ≤ n + 1 ∧ s9 = .int .i64 j ∧ s7 = .string ⟨((preL r (n + 1) ++ [49]) ++ posL r j).toArray⟩ ∧ wr = w3) (fun _ i _ => 20 - (intOf i).toNat)
      case atStart =>
        refine ⟨0, by omega, rfl, congrArg Value.string ?_, rfl⟩
        rw [HX.out, show (⟨#[49]⟩ : ByteArray) = ⟨([49] : List UInt8).toArray⟩ from rfl, ba_apl, posL, List.append_nil]
      case round =>
        obtain ⟨j, hj, rfl, rfl, hwr⟩ := hrel
        replace hwr := hwr.symm
        subst hwr
        have HJ := Lib.hid hj
        have hji : (j : Int) ≤ 1 + n := by omega
        have hj0 : (0 : Int) ≤ j := by omega
        by_cases hjn : (j : Int) < 1 + n
        · have hgr := pos_grow r (preL r (n + 1) ++ [49]) j
          obtain ⟨Y, hY⟩ : ∃ Y : ByteArray, Y = ⟨((preL r (n + 1) ++ [49]) ++ posL r j).toArray⟩ := ⟨_, rfl⟩
          have hys : Y.size ≤ 600 := by
            have h1 := preL_len r (n + 1)
            have h2 := posL_len r j
            rw [hY, ba_len, List.length_append, List.length_append]
            simp only [List.length_cons, List.length_nil]
            omega
          rw [← hY] at hgr ⊢
          have HG := Lib.hid hgr
          clear hgr hY hj
          cases r
          · go_wp2_with fail
            go_roundw
            case rel => exact ⟨j + 1, by omega, by go_num, by rw [← HG.out]; rfl, by trivial⟩
            case measure => simp [intOf]; omega
          · go_wp2_with fail
            go_roundw
            case rel => exact ⟨j + 1, by omega, by go_num, by rw [← HG.out]; rfl, by trivial⟩
            case measure => simp [intOf]; omega
        · obtain rfl : j = n + 1 := by omega
          clear hjn hj hji hj0
          have hD : ((⟨#[60, 115, 58, 115, 62, 32, 60, 112, 58, 112, 62, 32]⟩ : ByteArray) ++ ⟨((preL r (n + 1) ++ [49]) ++ posL r (n + 1)).toArray⟩) ++ ⟨#[32, 46]⟩ = ⟨(deepL r (n + 1)).toArray⟩ := by
            rw [show (⟨#[60, 115, 58, 115, 62, 32, 60, 112, 58, 112, 62, 32]⟩ : ByteArray) = ⟨([60, 115, 58, 115, 62, 32, 60, 112, 58, 112, 62, 32] : List UInt8).toArray⟩ from rfl, show (⟨#[32, 46]⟩ : ByteArray) = ⟨([32, 46] : List UInt8).toArray⟩ from rfl, ba_apl, ba_apl]
            rfl
          obtain ⟨Y, hY⟩ : ∃ Y : ByteArray, Y = ⟨((preL r (n + 1) ++ [49]) ++ posL r (n + 1)).toArray⟩ := ⟨_, rfl⟩
          have hys : Y.size ≤ 600 := by
            have h1 := preL_len r (n + 1)
            have h2 := posL_len r (n + 1)
            rw [hY, ba_len, List.length_append, List.length_append]
            simp only [List.length_cons, List.length_nil]
            omega
          rw [← hY] at hD ⊢
          have hQ : ∀ w (h : LexAt w), Calls Tryz.prog 11 #[.string (((⟨#[60, 115, 58, 115, 62, 32, 60, 112, 58, 112, 62, 32]⟩ : ByteArray) ++ Y) ++ ⟨#[32, 46]⟩), .string ⟨#[]⟩, .string ⟨#[103]⟩] w (TurTo (L1, E1) w) := by
            intro w h
            have := HP.out _ (by rw [ByteArray.size_append, ByteArray.size_append]; have h1 : (⟨#[60, 115, 58, 115, 62, 32, 60, 112, 58, 112, 62, 32]⟩ : ByteArray).size = 12 := rfl; have h2 : (⟨#[32, 46]⟩ : ByteArray).size = 2 := rfl; omega : (((⟨#[60, 115, 58, 115, 62, 32, 60, 112, 58, 112, 62, 32]⟩ : ByteArray) ++ Y) ++ ⟨#[32, 46]⟩).size ≤ 2000) w h
            have e : (((⟨#[60, 115, 58, 115, 62, 32, 60, 112, 58, 112, 62, 32]⟩ : ByteArray) ++ Y) ++ ⟨#[32, 46]⟩).data.toList = deepL r (n + 1) := by rw [hD]
            rw [e] at this
            rw [HR1.out]
            exact this
          have HQ := Lib.hid hQ
          clear hD hY hQ
          go_wp2_with fail
          refine (HQ.out _ (HLA.out _ HB1.out)).mono ?_
          intro e w5 h
          unfold TurTo at h
          dsimp only at h
          obtain ⟨ao1, cap1, rfl, hb, ho⟩ := h
          have HB5 := Lib.hid (HB1.out.trans (hb.mono HB1.out.size))
          clear hb ho
          go_wp2_with fail
          go_loopw [12, 13] (fun s12 s13 wr => ∃ j : Nat, j + 1 ≤ 296 + m ∧ s13 = .int .i64 ((j : Int) + 1) ∧ s12 = .string ⟨(manyL j).toArray⟩ ∧ Below w.heap.size w wr) (fun _ i _ => 400 - (intOf i).toNat)
          case atStart => exact ⟨0, by omega, rfl, rfl, HB5.out⟩
          case round =>
            obtain ⟨j, hj, rfl, rfl, hwr⟩ := hrel
            have HB := Lib.hid hwr
            clear hwr
            have HJ := Lib.hid hj
            have hji : (j : Int) + 1 ≤ 296 + m := by omega
            have hj0 : (0 : Int) ≤ j := by omega
            by_cases hjn : (j : Int) + 1 < 296 + m
            · have hgr := many_grow j
              have hdd : ∀ w, Calls Tryz.prog 13 #[.int .i64 ((j : Int) + 1)] w (DigTo ⟨(digL (j + 1)).toArray⟩ w) := digits12 (j + 1) (by omega)
              obtain ⟨X, hX⟩ : ∃ X : ByteArray, X = ⟨(manyL j).toArray⟩ := ⟨_, rfl⟩
              obtain ⟨Z, hZ⟩ : ∃ Z : ByteArray, Z = ⟨(digL (j + 1)).toArray⟩ := ⟨_, rfl⟩
              have hxs : X.size ≤ 1600 := by
                have := manyL_len j
                rw [hX, ba_len]
                omega
              have hzs : Z.size ≤ 3 := by
                have := digL_len (j + 1)
                rw [hZ, ba_len]
                omega
              rw [← hZ] at hdd
              rw [← hX, ← hZ] at hgr
              rw [← hX]
              have HG := Lib.hid hgr
              have HD := Lib.hid hdd
              clear hgr hX hj hdd hZ
              go_wp2_with fail
              refine (HD.out _).mono ?_
              rintro e w6 ⟨rfl, hb6⟩
              have HB6 := Lib.hid (HB.out.trans (hb6.mono HB.out.size))
              clear hb6
              go_wp2_with fail
              go_roundw
              case rel => exact ⟨j + 1, by omega, by go_num, by rw [HG.out], HB6.out⟩
              case measure => simp [intOf]; omega
            · obtain rfl : j = 296 + m - 1 := by omega
              clear hjn hj hji hj0
              have hD : (⟨(manyL (296 + m - 1)).toArray⟩ : ByteArray) ++ ⟨#[32, 46]⟩ = ⟨(manyL (296 + m - 1) ++ [32, 46]).toArray⟩ := by
                rw [show (⟨#[32, 46]⟩ : ByteArray) = ⟨([32, 46] : List UInt8).toArray⟩ from rfl, ba_apl]
              have hcs : ((296 + m - 1 : Nat) : Int) + 1 = 296 + m := by have := HN.out.2; omega
              rw [hcs]
              obtain ⟨X, hX⟩ : ∃ X : ByteArray, X = ⟨(manyL (296 + m - 1)).toArray⟩ := ⟨_, rfl⟩
              have hxs : X.size ≤ 1600 := by
                have := manyL_len (296 + m - 1)
                have := HN.out.2
                rw [hX, ba_len]
                omega
              rw [← hX] at hD ⊢
              have hQ : ∀ w (h : LexAt w), Calls Tryz.prog 11 #[.string (X ++ ⟨#[32, 46]⟩), .string ⟨#[]⟩, .string ⟨#[103]⟩] w (TurTo (L2, E2) w) := by
                intro w h
                have := HP.out _ (by rw [ByteArray.size_append]; have h2 : (⟨#[32, 46]⟩ : ByteArray).size = 2 := rfl; omega : (X ++ ⟨#[32, 46]⟩).size ≤ 2000) w h
                have e : (X ++ ⟨#[32, 46]⟩).data.toList = manyL (296 + m - 1) ++ [32, 46] := by rw [hD]
                rw [e] at this
                rw [HR2.out]
                exact this
              have HQ := Lib.hid hQ
              clear hD hX hQ hcs
              go_wp2_with fail
              refine (HQ.out _ (HLA.out _ HB.out)).mono ?_
              intro e w7 h
              unfold TurTo at h
              dsimp only at h
              obtain ⟨ao2, cap2, rfl, hb, ho⟩ := h
              have HB7 := Lib.hid (HB.out.trans (hb.mono HB.out.size))
              clear hb ho
              have hO1 := HO1.out
              have hO2 := HO2.out
              by_cases hn10 : n + 1 ≤ 10
              · rw [if_pos hn10] at hO1
                obtain rfl : E1 = 0 := by simpa using hO1
                have hni10 : 1 + (n : Int) ≤ 10 := by omega
                by_cases hm3 : 296 + m ≤ 300
                · rw [if_pos hm3, Bool.and_eq_true] at hO2
                  obtain rfl : E2 = 0 := by simpa using hO2.1
                  have hl0 : L2.length = 296 + m := by simpa using hO2.2
                  have hl : (L2.length : Int) = 296 + m := by omega
                  rw [← hl]
                  have hm300 : (L2.length : Int) ≤ 300 := by omega
                  try clear hl0
                  clear hO1 hO2 hl hm3 hn10
                  go_wp2_with fail
                  go_ret
                  exact ⟨rfl, HB7.out⟩
                · rw [if_neg hm3, Bool.and_eq_true] at hO2
                  obtain rfl : E2 = 4 := by simpa using hO2.1
                  have hl : L2.length = 0 := by simpa using hO2.2
                  rw [hl]
                  have hm300 : 300 < 296 + (m : Int) := by omega
                  try clear hl0
                  clear hO1 hO2 hl hm3 hn10
                  go_wp2_with fail
                  go_ret
                  exact ⟨rfl, HB7.out⟩
              · rw [if_neg hn10] at hO1
                obtain rfl : E1 = 10 := by simpa using hO1
                have hni10 : 10 < 1 + (n : Int) := by omega
                by_cases hm3 : 296 + m ≤ 300
                · rw [if_pos hm3, Bool.and_eq_true] at hO2
                  obtain rfl : E2 = 0 := by simpa using hO2.1
                  have hl0 : L2.length = 296 + m := by simpa using hO2.2
                  have hl : (L2.length : Int) = 296 + m := by omega
                  rw [← hl]
                  have hm300 : (L2.length : Int) ≤ 300 := by omega
                  try clear hl0
                  clear hO1 hO2 hl hm3 hn10
                  go_wp2_with fail
                  go_ret
                  exact ⟨rfl, HB7.out⟩
                · rw [if_neg hm3, Bool.and_eq_true] at hO2
                  obtain rfl : E2 = 4 := by simpa using hO2.1
                  have hl : L2.length = 0 := by simpa using hO2.2
                  rw [hl]
                  have hm300 : 300 < 296 + (m : Int) := by omega
                  try clear hl0
                  clear hO1 hO2 hl hm3 hn10
                  go_wp2_with fail
                  go_ret
                  exact ⟨rfl, HB7.out⟩
end Go.Proofs.YtpoedjbodkdglaaGreatDoor
