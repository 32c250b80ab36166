/- Triples as text: Digits. -/
import Derived.Test.YtpoedjbodkdglaaGreatDoorUw
import Derived.Test.YtpoedjbodkdglaaGreatDoorUx
namespace Go.Proofs.YtpoedjbodkdglaaGreatDoor
open Go.RowKit Go.Shelf
set_option maxRecDepth 100000
set_option linter.unusedVariables false
set_option linter.unusedSimpArgs false
/-- A number's digits, below a thousand. -/
def dig1 (n : Nat) : List UInt8 := [UInt8.ofNat (48 + n)]
def digL (n : Nat) : List UInt8 := if n < 10 then dig1 n else if n < 100 then dig1 (n / 10) ++ dig1 (n % 10) else (dig1 (n / 100) ++ dig1 (n / 10 % 10)) ++ dig1 (n % 10)
def DigTo (l : ByteArray) (w0 : World) (e : Ending) (w' : World) : Prop := e = .returned (.string l) ∧ Below w0.heap.size w0 w'
theorem dig_base (n : Nat) (hn : n < 10) (w : World) : Calls Tryz.prog 13 #[.int .i64 (n : Int)] w (DigTo ⟨(dig1 n).toArray⟩ w) := by
  obtain ⟨y, hy⟩ : ∃ y, y = UInt8.ofNat (48 + n) := ⟨_, rfl⟩
  have hyn : (y.toNat : Int) = 48 + (n : Int) := by
    rw [hy, UInt8.toNat_ofNat']
    omega
  have hcb := run_convert_bytes_back (P := Tryz.prog) (w.alloc (.cells #[.int .u8 (48 + (n : Int))] 5)) 49 9 5 ⟨w.heap.size, 0, none⟩ 1 [y] Tryz.underlying49 Tryz.underlying5 Tryz.underlying9 (by
    intro q hq
    have : q = 0 := by simp at hq; omega
    subst this
    simp [Addr.add]
    omega)
  simp only [List.length_cons, List.length_nil, Nat.zero_add] at hcb
  obtain ⟨Y, hY⟩ : ∃ Y : ByteArray, Y = ⟨(dig1 n).toArray⟩ := ⟨_, rfl⟩
  have hcb' : (convert 49 9 (Value.slice (some ⟨w.heap.size, 0, none⟩) 1 1)).run Tryz.prog (w.alloc (.cells #[.int .u8 (48 + (n : Int))] 5)) = .ok (.string Y) (w.alloc (.cells #[.int .u8 (48 + (n : Int))] 5)) := by
    rw [hY]
    unfold dig1
    rw [← hy]
    exact hcb
  rw [← hY]
  have hni : (n : Int) < 10 := by omega
  have hn0 : (0 : Int) ≤ n := by omega
  clear hcb hY hy hyn hn
  go_enter Tryz.func13, Tryz.ntmps13
  go_wp2_with fail
  go_ret
  exact ⟨rfl, (Below.refl _ w).alloc (Nat.le_refl _) _⟩
set_option maxHeartbeats 4000000 in
theorem dig_step (n : Nat) (h10 : 10 ≤ n) (hn : n < 1000) (A B : ByteArray) (ha : A.size ≤ 10) (hb : B.size ≤ 10) (HA : ∀ w, Calls Tryz.prog 13 #[.int .i64 ((n / 10 : Nat) : Int)] w (DigTo A w)) (HB : ∀ w, Calls Tryz.prog 13 #[.int .i64 ((n % 10 : Nat) : Int)] w (DigTo B w)) (w : World) :
    Calls Tryz.prog 13 #[.int .i64 (n : Int)] w (DigTo (A ++ B) w) := by
  have HA := Lib.hid HA
  have HB := Lib.hid HB
  have hq : Int.tdiv (n : Int) 10 = ((n / 10 : Nat) : Int) := by rw [Int.tdiv_eq_ediv_of_nonneg (by omega)]; omega
  have hr : Int.tmod (n : Int) 10 = ((n % 10 : Nat) : Int) := by rw [Int.tmod_eq_emod_of_nonneg (by omega)]; omega
  have hni : (n : Int) < 1000 := by omega
  have hn0 : (10 : Int) ≤ n := by omega
  clear h10 hn
  go_enter Tryz.func13, Tryz.ntmps13
  go_wp2_with (first | rw [hq] | rw [hr] | fail)
  refine (HA.out _).mono ?_
  rintro e w1 ⟨rfl, hb1⟩
  go_wp2_with (first | rw [hq] | rw [hr] | fail)
  refine (HB.out _).mono ?_
  rintro e w2 ⟨rfl, hb2⟩
  go_wp2_with fail
  go_ret
  exact ⟨rfl, hb1.trans (hb2.mono hb1.size)⟩
theorem ba_apl (a b : List UInt8) : (⟨a.toArray⟩ : ByteArray) ++ ⟨b.toArray⟩ = ⟨(a ++ b).toArray⟩ := by
  apply ba_ext
  rw [ByteArray.data_append]
  simp
theorem dig1_size (n : Nat) : (⟨(dig1 n).toArray⟩ : ByteArray).size = 1 := rfl
theorem dig1_le (n : Nat) : (⟨(dig1 n).toArray⟩ : ByteArray).size ≤ 10 := by rw [dig1_size]; decide
theorem digits12 (n : Nat) (hn : n < 1000) (w : World) : Calls Tryz.prog 13 #[.int .i64 (n : Int)] w (DigTo ⟨(digL n).toArray⟩ w) := by
  unfold digL
  by_cases h1 : n < 10
  · rw [if_pos h1]; exact dig_base n h1 w
  rw [if_neg h1]
  by_cases h2 : n < 100
  · rw [if_pos h2, ← ba_apl]
    exact dig_step n (by omega) hn _ _ (dig1_le _) (dig1_le _) (dig_base _ (by omega)) (dig_base _ (by omega)) w
  rw [if_neg h2, ← ba_apl, ← ba_apl]
  refine dig_step n (by omega) hn _ _ ?_ (dig1_le _) (dig_step _ (by omega) (by omega) _ _ (dig1_le _) (dig1_le _) ?_ (dig_base _ (by omega))) (dig_base _ (by omega)) w
  · rw [ByteArray.size_append, dig1_size, dig1_size]; decide
  · have e : n / 10 / 10 = n / 100 := by omega
    rw [e]
    exact dig_base _ (by omega)
end Go.Proofs.YtpoedjbodkdglaaGreatDoor
/- Triples as text: TurtleLists' documents. -/
namespace Go.Proofs.YtpoedjbodkdglaaGreatDoor
open Go.RowKit Go.Shelf
set_option maxRecDepth 1000000
set_option linter.unusedVariables false
/-- The text of a collection, and what it tells. -/
def listL : Nat → List UInt8
  | 0 => [60, 115, 58, 115, 62, 32, 60, 112, 58, 112, 62, 32, 40]
  | n + 1 => ((listL n ++ [32, 60, 111, 58]) ++ digL n) ++ [62]
def listB (n i : Nat) : Tm := if i < n then ⟨2, ⟨(103 :: digL (i + 1)).toArray⟩, nobT, nobT⟩ else named rNilB
def listO (i : Nat) : ByteArray := ⟨([111, 58] ++ digL i).toArray⟩
def listT (n k : Nat) : Tri3 := if k = 2 * n then (named ⟨#[115, 58, 115]⟩, named ⟨#[112, 58, 112]⟩, listB n 0) else if k % 2 = 0 then (listB n (k / 2), named rFirstB, named (listO (k / 2))) else (listB n (k / 2), named rRestB, listB n (k / 2 + 1))
def sameT (a b : Tm) : Bool := a.k == b.k && (a.s.data.toList == b.s.data.toList && (a.l.data.toList == b.l.data.toList && a.t.data.toList == b.t.data.toList))
theorem sameT_eq {a b : Tm} (h : sameT a b = true) : a = b := by
  unfold sameT at h
  simp only [Bool.and_eq_true, beq_iff_eq] at h
  obtain ⟨h1, h2, h3, h4⟩ := h
  obtain ⟨ak, ⟨⟨a1⟩⟩, ⟨⟨a2⟩⟩, ⟨⟨a3⟩⟩⟩ := a
  obtain ⟨bk, ⟨⟨b1⟩⟩, ⟨⟨b2⟩⟩, ⟨⟨b3⟩⟩⟩ := b
  dsimp only at h1 h2 h3 h4
  subst h1; subst h2; subst h3; subst h4
  rfl
def sameR : List Tri3 → List Tri3 → Bool
  | [], [] => true
  | a :: r, b :: s => (sameT a.1 b.1 && (sameT a.2.1 b.2.1 && sameT a.2.2 b.2.2)) && sameR r s
  | _, _ => false
theorem sameR_eq : ∀ {a b : List Tri3}, sameR a b = true → a = b
  | [], [], _ => rfl
  | (a1, a2, a3) :: r, (b1, b2, b3) :: s, h => by
    simp only [sameR, Bool.and_eq_true] at h
    obtain ⟨⟨h1, h2, h3⟩, h4⟩ := h
    rw [sameT_eq h1, sameT_eq h2, sameT_eq h3, sameR_eq h4]
  | [], _ :: _, h => by cases h
  | _ :: _, [], h => by cases h
def listsOk (n : Nat) : Bool := match turtleL ⟨#[]⟩ gB (listL n ++ [32, 41, 32, 46]) with
  | (l, e) => e == 0 && sameR l ((List.range (2 * n + 1)).map (listT n))
theorem lists_all : ∀ k : Fin 30, listsOk k.val = true := by decide +kernel
theorem lists_eq (n : Nat) (h : n < 30) : turtleL ⟨#[]⟩ gB (listL n ++ [32, 41, 32, 46]) = ((List.range (2 * n + 1)).map (listT n), 0) := by
  have := lists_all ⟨n, h⟩
  unfold listsOk at this
  dsimp only at this
  generalize turtleL ⟨#[]⟩ gB (listL n ++ [32, 41, 32, 46]) = R at this ⊢
  obtain ⟨l, e⟩ := R
  dsimp only at this
  rw [Bool.and_eq_true] at this
  rw [sameR_eq this.2, show e = 0 by simpa using this.1]
theorem digL_le3 (n : Nat) : (digL n).length ≤ 3 := by
  unfold digL
  split
  · decide +revert
  split <;> simp [dig1]
theorem listL_len (n : Nat) : (listL n).length ≤ 13 + 8 * n := by
  induction n with
  | zero => exact Nat.le_refl _
  | succ n ih =>
    have := digL_le3 n
    simp only [listL, List.length_append, List.length_cons, List.length_nil]
    omega
theorem listB_ne {n i j : Nat} (hn : n < 30) (hi : i < n) (hj : j < n) (hij : i ≠ j) : sameT (listB n i) (listB n j) = false := by
  have all : ∀ i j : Fin 30, i.val ≠ j.val → (103 :: digL (i.val + 1) == 103 :: digL (j.val + 1)) = false := by decide +kernel
  have h : (103 :: digL (i + 1) == 103 :: digL (j + 1)) = false := all ⟨i, by omega⟩ ⟨j, by omega⟩ hij
  unfold listB
  rw [if_pos hi, if_pos hj]
  unfold sameT
  dsimp only
  rw [h]
  simp
end Go.Proofs.YtpoedjbodkdglaaGreatDoor
/- The walk of TurtleLists. -/
namespace Go.Proofs.YtpoedjbodkdglaaGreatDoor
open Go.RowKit Go.Shelf
set_option maxRecDepth 100000
set_option linter.unusedVariables false
set_option linter.unusedSimpArgs false
theorem list_grow (k : Nat) : (((⟨(listL k).toArray⟩ : ByteArray) ++ ⟨#[32, 60, 111, 58]⟩) ++ ⟨(digL k).toArray⟩) ++ ⟨#[62]⟩ = ⟨(listL (k + 1)).toArray⟩ := by
  rw [show (⟨#[32, 60, 111, 58]⟩ : ByteArray) = ⟨([32, 60, 111, 58] : List UInt8).toArray⟩ from rfl, show (⟨#[62]⟩ : ByteArray) = ⟨([62] : List UInt8).toArray⟩ from rfl, ba_apl, ba_apl, ba_apl]; rfl
theorem ba_len2 (l : List UInt8) : (⟨l.toArray⟩ : ByteArray).size = l.length := by show l.toArray.size = _; simp
theorem list_get (n k : Nat) (h : k ≤ 2 * n) : ((List.range (2 * n + 1)).map (listT n))[k]? = some (listT n k) := by
  rw [List.getElem?_map, List.getElem?_range (by omega)]; rfl
/-- A term's cells. -/
def tmC (t : Tm) : Array Value := #[.int .i64 t.k, .string t.s, .string t.l, .string t.t]
def zeroT : Tm := ⟨0, ⟨#[]⟩, ⟨#[]⟩, ⟨#[]⟩⟩
theorem equal_tm (a b : Tm) (w : World) : (Op.equalIn 10000 34 (.agg #[.int .i64 a.k, .string a.s, .string a.l, .string a.t]) (.agg #[.int .i64 b.k, .string b.s, .string b.l, .string b.t])).run Tryz.prog w = .ok (sameT a b) w := by
  unfold sameT
  rw [← Lib.toList_data a.s, ← Lib.toList_data b.s, ← Lib.toList_data a.l, ← Lib.toList_data b.l, ← Lib.toList_data a.t, ← Lib.toList_data b.t]
  cases h1 : a.k == b.k <;> cases h2 : a.s.toList == b.s.toList <;> cases h3 : a.l.toList == b.l.toList <;> cases h4 : a.t.toList == b.t.toList
  all_goals go_simp
theorem sameT_refl (a : Tm) : sameT a a = true := by simp [sameT]
/-- The k-th triple's cells. -/
structure RowK (w : World) (g k : Nat) (x : Tri3) : Prop where
  a0 : w.cell? ⟨g, k * 12, none⟩ = some (.int .i64 x.1.k)
  a1 : w.cell? ⟨g, k * 12 + 1, none⟩ = some (.string x.1.s)
  a2 : w.cell? ⟨g, k * 12 + 2, none⟩ = some (.string x.1.l)
  a3 : w.cell? ⟨g, k * 12 + 3, none⟩ = some (.string x.1.t)
  b0 : w.cell? ⟨g, k * 12 + 4, none⟩ = some (.int .i64 x.2.1.k)
  b1 : w.cell? ⟨g, k * 12 + 4 + 1, none⟩ = some (.string x.2.1.s)
  c0 : w.cell? ⟨g, k * 12 + 8, none⟩ = some (.int .i64 x.2.2.k)
  c1 : w.cell? ⟨g, k * 12 + 8 + 1, none⟩ = some (.string x.2.2.s)
  c2 : w.cell? ⟨g, k * 12 + 8 + 2, none⟩ = some (.string x.2.2.l)
  c3 : w.cell? ⟨g, k * 12 + 8 + 3, none⟩ = some (.string x.2.2.t)
theorem RowK.of {w : World} {g k : Nat} {x : Tri3} (h : ∀ i v, (rcells1 x)[i]? = some v → w.cell? ⟨g, 12 * k + i, none⟩ = some v) : RowK w g k x := by
  rw [Nat.mul_comm 12 k] at h
  exact ⟨h 0 _ rfl, h 1 _ rfl, h 2 _ rfl, h 3 _ rfl, h 4 _ rfl, h 5 _ rfl, h 8 _ rfl, h 9 _ rfl, h 10 _ rfl, h 11 _ rfl⟩
theorem RowK.below {B : Nat} {w w' : World} {g k : Nat} {x : Tri3} (h : RowK w g k x) (hb : Below B w w') (hg : g < B) : RowK w' g k x :=
  ⟨(hb.cell hg).trans h.a0, (hb.cell hg).trans h.a1, (hb.cell hg).trans h.a2, (hb.cell hg).trans h.a3, (hb.cell hg).trans h.b0, (hb.cell hg).trans h.b1, (hb.cell hg).trans h.c0, (hb.cell hg).trans h.c1, (hb.cell hg).trans h.c2, (hb.cell hg).trans h.c3⟩
/-- A block of four cells, stored anew. -/
theorem Blk.four {w : World} {b : Nat} {o0 o1 o2 o3 : Value} {t : TypeId} (h : Blk w b #[o0, o1, o2, o3] t) (a0 a1 a2 a3 : Value) : Blk ((((w.setCell ⟨b, 0, none⟩ a0).setCell ⟨b, 1, none⟩ a1).setCell ⟨b, 2, none⟩ a2).setCell ⟨b, 3, none⟩ a3) b #[a0, a1, a2, a3] t := by
  have := (((h.set 0 a0).set 1 a1).set 2 a2).set 3 a3
  simpa only [List.setIfInBounds_toArray, List.set_cons_zero, List.set_cons_succ] using this
theorem Blk.four' {w : World} {b c : Nat} {cur : Array Value} {t : TypeId} (h : Blk w b cur t) (hne : b ≠ c) (a0 a1 a2 a3 : Value) : Blk ((((w.setCell ⟨c, 0, none⟩ a0).setCell ⟨c, 1, none⟩ a1).setCell ⟨c, 2, none⟩ a2).setCell ⟨c, 3, none⟩ a3) b cur t :=
  (((h.other ⟨c, 0, none⟩ a0 hne).other ⟨c, 1, none⟩ a1 hne).other ⟨c, 2, none⟩ a2 hne).other ⟨c, 3, none⟩ a3 hne
theorem below_four {B : Nat} {w w' : World} {c : Nat} (h : Below B w w') (hc : B ≤ c) (a0 a1 a2 a3 : Value) : Below B w ((((w'.setCell ⟨c, 0, none⟩ a0).setCell ⟨c, 1, none⟩ a1).setCell ⟨c, 2, none⟩ a2).setCell ⟨c, 3, none⟩ a3) :=
  (((h.setCell (p := ⟨c, 0, none⟩) hc a0).setCell (p := ⟨c, 1, none⟩) hc a1).setCell (p := ⟨c, 2, none⟩) hc a2).setCell (p := ⟨c, 3, none⟩) hc a3
theorem Blk.get4 {w : World} {T : Nat} {a0 a1 a2 a3 : Value} {t : TypeId} (h : Blk w T #[a0, a1, a2, a3] t) : T < w.heap.size ∧ w.cell? ⟨T, 0, none⟩ = some a0 ∧ w.cell? ⟨T, 1, none⟩ = some a1 ∧ w.cell? ⟨T, 2, none⟩ = some a2 ∧ w.cell? ⟨T, 3, none⟩ = some a3 ∧ w.frozen? ⟨T, 0, none⟩ = false ∧ w.frozen? ⟨T, 1, none⟩ = false ∧ w.frozen? ⟨T, 2, none⟩ = false ∧ w.frozen? ⟨T, 3, none⟩ = false :=
  ⟨h.lt, h.cell 0, h.cell 1, h.cell 2, h.cell 3, h.frozen 0, h.frozen 1, h.frozen 2, h.frozen 3⟩
theorem listT_odd (n i : Nat) (h : i < n) : listT n (2 * i + 1) = (listB n i, named rRestB, listB n (i + 1)) := by
  unfold listT
  rw [if_neg (by omega), if_neg (by omega), show (2 * i + 1) / 2 = i by omega]
theorem listT_even (n i : Nat) (h : i < n) : listT n (2 * i) = (listB n i, named rFirstB, named (listO i)) := by
  unfold listT
  rw [if_neg (by omega), if_pos (by omega), show 2 * i / 2 = i by omega]
theorem listT_one (n k : Nat) (h : k < 2 * n) : (listT n k).1 = listB n (k / 2) := by
  unfold listT
  rw [if_neg (by omega)]
  split <;> rfl
theorem Blk.below2 {w w' : World} {b : Nat} {cur : Array Value} {t : TypeId} (h : Blk w b cur t) (hb : Below w.heap.size w w') : Blk w' b cur t := (hb.block b h.lt).trans h
theorem listB_lt {n i : Nat} (h : i < n) : listB n i = ⟨2, ⟨(103 :: digL (i + 1)).toArray⟩, ⟨#[]⟩, ⟨#[]⟩⟩ := if_pos h
theorem lab_ne {n i j : Nat} (hn : n < 30) (hi : i < n) (hj : j < n) (hij : i ≠ j) : (⟨(103 :: digL (i + 1)).toArray⟩ : ByteArray) ≠ ⟨(103 :: digL (j + 1)).toArray⟩ := by
  intro e
  have h := listB_ne hn hi hj hij
  rw [listB_lt hi, listB_lt hj, e, sameT_refl] at h
  cases h
theorem listO_eq (i : Nat) : listO i = (⟨#[111, 58]⟩ : ByteArray) ++ ⟨(digL i).toArray⟩ := (ba_apl [111, 58] (digL i)).symm
theorem rFirst_lit : rFirstB = ⟨#[104, 116, 116, 112, 58, 47, 47, 119, 119, 119, 46, 119, 51, 46, 111, 114, 103, 47, 49, 57, 57, 57, 47, 48, 50, 47, 50, 50, 45, 114, 100, 102, 45, 115, 121, 110, 116, 97, 120, 45, 110, 115, 35, 102, 105, 114, 115, 116]⟩ := by rfl
theorem rRest_lit : rRestB = ⟨#[104, 116, 116, 112, 58, 47, 47, 119, 119, 119, 46, 119, 51, 46, 111, 114, 103, 47, 49, 57, 57, 57, 47, 48, 50, 47, 50, 50, 45, 114, 100, 102, 45, 115, 121, 110, 116, 97, 120, 45, 110, 115, 35, 114, 101, 115, 116]⟩ := by rfl
theorem rNil_lit : rNilB = ⟨#[104, 116, 116, 112, 58, 47, 47, 119, 119, 119, 46, 119, 51, 46, 111, 114, 103, 47, 49, 57, 57, 57, 47, 48, 50, 47, 50, 50, 45, 114, 100, 102, 45, 115, 121, 110, 116, 97, 120, 45, 110, 115, 35, 110, 105, 108]⟩ := by rfl
set_option maxHeartbeats 16000000 in
theorem tlists_walk (x : Int) (w : World) (hL : LexAt w) :
    Calls Tryz.prog 4 #[.int .i64 x] w fun e w' => e = .returned (.bool true) ∧ Below w.heap.size w w' := by
  obtain ⟨n, hn⟩ : ∃ n : Nat, x % 30 = n := ⟨(x % 30).toNat, by omega⟩
  have hn2 : n < 30 := by omega
  have H1 := Lib.hid hn
  clear hn
  have HK := Lib.hid (known12_any w hL)
  have HLA := Lib.hid (fun w' (hb : Below w.heap.size w w') => hL.below hb)
  have HP := Lib.hid (fun a (ha : a.size ≤ 2000) w (h : LexAt w) => parse12 a ⟨#[]⟩ gB (Nat.le_trans ha (by decide)) (by decide) (by decide) w h)
  have HE := Lib.hid (lists_eq n hn2)
  unfold gB at HP HE
  have HN := Lib.hid hn2
  have hni : (n : Int) < 30 := by omega
  have hn0 : (0 : Int) ≤ n := by omega
  clear hL hn2
  go_enter Tryz.func4, Tryz.ntmps4
  go_wp2_with fail
  refine HK.out.mono ?_
  rintro e w1 ⟨rfl, hb1⟩
  have HB1 := Lib.hid hb1
  clear hb1
  go_wp2_with fail
  refine (within12_eq x 30 (by omega) (by omega) _).mono ?_
  rintro e w3 ⟨rfl, hw⟩
  subst hw
  rw [H1.out]
  go_wp2_with fail
  go_loopw [3, 4] (fun s3 s4 wr => ∃ j : Nat, j ≤ n ∧ s4 = .int .i64 (j : Int) ∧ s3 = .string ⟨(listL j).toArray⟩ ∧ Below w.heap.size w wr) (fun _ i _ => 40 - (intOf i).toNat)
  case atStart => exact ⟨0, by omega, rfl, rfl, HB1.out⟩
  case round =>
    obtain ⟨j, hj, rfl, rfl, hwr⟩ := hrel
    have HB := Lib.hid hwr
    clear hwr
    have HJ := Lib.hid hj
    have hji : (j : Int) ≤ n := by omega
    have hj0 : (0 : Int) ≤ j := by omega
    by_cases hjn : (j : Int) < n
    · have hgr := list_grow j
      have hdd : ∀ w, Calls Tryz.prog 13 #[.int .i64 (j : Int)] w (DigTo ⟨(digL j).toArray⟩ w) := digits12 j (by have := HN.out; omega)
      obtain ⟨X, hX⟩ : ∃ X : ByteArray, X = ⟨(listL j).toArray⟩ := ⟨_, rfl⟩
      obtain ⟨Z, hZ⟩ : ∃ Z : ByteArray, Z = ⟨(digL j).toArray⟩ := ⟨_, rfl⟩
      have hxs : X.size ≤ 300 := by
        have := listL_len j
        have := HN.out
        rw [hX, ba_len2]
        omega
      have hzs : Z.size ≤ 3 := by
        have := digL_le3 j
        rw [hZ, ba_len2]
        omega
      rw [← hZ] at hdd
      rw [← hX, ← hZ] at hgr
      rw [← hX]
      have HG := Lib.hid hgr
      have HD := Lib.hid hdd
      clear hgr hX hj hdd hZ
      go_wp2_with fail
      refine (HD.out _).mono ?_
      rintro e w6 ⟨rfl, hb6⟩
      have HB6 := Lib.hid (HB.out.trans (hb6.mono HB.out.size))
      clear hb6
      go_wp2_with fail
      go_roundw
      case rel => exact ⟨j + 1, by omega, by go_num, by rw [HG.out], HB6.out⟩
      case measure => simp [intOf]; omega
    · obtain rfl : j = n := by omega
      clear hjn hj hji hj0
      have hD : (⟨(listL j).toArray⟩ : ByteArray) ++ ⟨#[32, 41, 32, 46]⟩ = ⟨(listL j ++ [32, 41, 32, 46]).toArray⟩ := by
        rw [show (⟨#[32, 41, 32, 46]⟩ : ByteArray) = ⟨([32, 41, 32, 46] : List UInt8).toArray⟩ from rfl, ba_apl]
      obtain ⟨X, hX⟩ : ∃ X : ByteArray, X = ⟨(listL j).toArray⟩ := ⟨_, rfl⟩
      have hxs : X.size ≤ 300 := by
        have := listL_len j
        have := HN.out
        rw [hX, ba_len2]
        omega
      rw [← hX] at hD ⊢
      have hQ : ∀ w (h : LexAt w), Calls Tryz.prog 11 #[.string (X ++ ⟨#[32, 41, 32, 46]⟩), .string ⟨#[]⟩, .string ⟨#[103]⟩] w (TurTo ((List.range (2 * j + 1)).map (listT j), 0) w) := by
        intro w h
        have := HP.out _ (by rw [ByteArray.size_append]; have h2 : (⟨#[32, 41, 32, 46]⟩ : ByteArray).size = 4 := rfl; omega : (X ++ ⟨#[32, 41, 32, 46]⟩).size ≤ 2000) w h
        have e : (X ++ ⟨#[32, 41, 32, 46]⟩).data.toList = listL j ++ [32, 41, 32, 46] := by rw [hD]
        rw [e, HE.out] at this
        exact this
      have HQ := Lib.hid hQ
      clear hD hX hQ
      go_wp2_with fail
      refine (HQ.out _ (HLA.out _ HB.out)).mono ?_
      intro e w5 h
      unfold TurTo at h
      dsimp only at h
      obtain ⟨ao, cap, rfl, hb, ho⟩ := h
      have hll : ((List.range (2 * j + 1)).map (listT j)).length = 2 * j + 1 := by simp
      obtain ⟨g, rfl, hg1, hg2, hg3⟩ := ho.at12 (by rw [hll]; omega)
      have hrow : ∀ k, k ≤ 2 * j → RowK w5 g k (listT j k) := fun k hk => RowK.of (fun i v hv => hg3 k _ (list_get j k hk) i v hv)
      have hlast := hrow (2 * j) (Nat.le_refl _)
      rw [show listT j (2 * j) = (named ⟨#[115, 58, 115]⟩, named ⟨#[112, 58, 112]⟩, listB j 0) from if_pos rfl] at hlast
      obtain ⟨-, -, -, -, -, -, lc0, lc1, lc2, lc3⟩ := hlast
      dsimp only at lc0 lc1 lc2 lc3
      have HB5 := Lib.hid (HB.out.trans (hb.mono HB.out.size))
      have HR := Lib.hid hrow
      have hll2 : ((((List.range (2 * j + 1)).map (listT j)).length : Nat) : Int) = 2 * (j : Int) + 1 := by rw [hll]; omega
      rw [hll]
      clear hb ho hg3 hrow hll hll2
      have HGB := Lib.hid (And.intro hg1 hg2)
      clear hg1
      have hjj : ((2 * j + 1 : Nat) : Int) = 2 * (j : Int) + 1 := by omega
      go_wp2_with (first | rw [hjj] | fail)
      clear lc0 lc1 lc2 lc3
      have HW := Lib.hid (And.intro (Blk.new w5 (tmC (listB j 0)) 34) ((Below.refl w5.heap.size w5).alloc (Nat.le_refl _) (.cells (tmC (listB j 0)) 34)))
      unfold tmC at HW
      generalize w5.alloc _ = w6 at HW ⊢
      generalize hT7 : w5.heap.size = T7 at HW hg2 HGB ⊢
      have HT7 := Lib.hid hT7
      clear hT7
      clear hg2
      go_loopw [8] (fun s8 wx => ∃ i : Nat, i ≤ j ∧ s8 = .int .i64 (i : Int) ∧ Blk wx T7 (tmC (listB j i)) 34 ∧ Below T7 w5 wx) (fun i _ => 40 - (intOf i).toNat)
      case atStart => exact ⟨0, by omega, rfl, HW.out.1, HW.out.2⟩
      case round =>
        obtain ⟨i, hi, rfl, hb7, hbw⟩ := hrel
        have HBW := Lib.hid hbw
        clear hbw
        have hii : (i : Int) ≤ j := by omega
        have hi0 : (0 : Int) ≤ i := by omega
        have HI := Lib.hid hi
        by_cases hij : (i : Int) < j
        · have hijn : i < j := by omega
          have HX := Lib.hid (And.intro (hb7.alloc (.cells #[.int .i64 0, .string ⟨#[]⟩, .string ⟨#[]⟩, .string ⟨#[]⟩] 34)) (And.intro (Blk.new wr #[.int .i64 0, .string ⟨#[]⟩, .string ⟨#[]⟩, .string ⟨#[]⟩] 34) (And.intro (HBW.out.alloc (by have := HBW.out.size; have := HT7.out; omega) (.cells #[.int .i64 0, .string ⟨#[]⟩, .string ⟨#[]⟩, .string ⟨#[]⟩] 34)) hb7.lt)))
          clear hb7 hi
          go_wp2_with fail
          generalize wr.alloc _ = w8 at HX ⊢
          generalize hT11 : wr.heap.size = T11 at HX ⊢
          clear hT11
          go_loopw [9, 10, 12] (fun s9 s10 s12 wz => ∃ k : Nat, k ≤ 2 * j ∧ s12 = .int .i64 (k : Int) ∧ s9 = .int .i64 (if 2 * i < k then 1 else 0) ∧ s10 = .int .i64 (if 2 * i + 1 < k then 1 else 0) ∧ Blk wz T7 (tmC (listB j i)) 34 ∧ Blk wz T11 (tmC (if 2 * i + 1 < k then listB j (i + 1) else zeroT)) 34 ∧ Below T7 w5 wz) (fun _ _ i _ => 80 - (intOf i).toNat)
          case atStart => exact ⟨0, by omega, rfl, rfl, rfl, HX.out.1, HX.out.2.1, HX.out.2.2.1⟩
          case round =>
            obtain ⟨k, hk, rfl, rfl, rfl, h7, h11, hbz⟩ := hrel
            have HZ := Lib.hid (And.intro h7 (And.intro h11 hbz))
            have hne711 : T7 ≠ T11 := by have := HX.out.2.2.2; omega
            unfold tmC at h7 h11
            rw [listB_lt hijn] at h7
            obtain ⟨GA, hGA⟩ : ∃ G : ByteArray, G = ⟨(103 :: digL (i + 1)).toArray⟩ := ⟨_, rfl⟩
            rw [← hGA] at h7
            dsimp only at h7
            obtain ⟨hl7, a0, a1, a2, a3, f0, f1, f2, f3⟩ := h7.get4
            clear h7
            have hki : (k : Int) ≤ 2 * j := by omega
            have hk0 : (0 : Int) ≤ k := by omega
            by_cases hkn : (k : Int) < 2 * j
            · have hk2 : k < 2 * j := by omega
              have hkl : (k : Int) < ((2 * j + 1 : Nat) : Int) := by omega
              have hkl2 : (k : Int) < 2 * (j : Int) + 1 := by omega
              have hkl3 : k < 2 * j + 1 := by omega
              have hrk := (HR.out k hk).below hbz HGB.out.2
              have hjj : ((2 * j + 1 : Nat) : Int) = 2 * (j : Int) + 1 := by omega
              by_cases hki2 : k / 2 = i
              rotate_left
              · have hne := lab_ne HN.out (show k / 2 < j by omega) hijn hki2
                obtain ⟨r0, r1, r2, r3, -, -, -, -, -, -⟩ := hrk
                rw [listT_one _ _ hk2, listB_lt (show k / 2 < j by omega)] at r0 r1 r2 r3
                dsimp only at r0 r1 r2 r3
                rw [← hGA] at hne
                obtain ⟨GB, hGB⟩ : ∃ G : ByteArray, G = ⟨(103 :: digL (k / 2 + 1)).toArray⟩ := ⟨_, rfl⟩
                rw [← hGB] at hne r1
                have hn1 : ¬ GB = GA := hne
                have hn3 : ¬ GB.toList = GA.toList := by rw [Lib.toList_data, Lib.toList_data]; intro e; exact hne (ba_ext e)
                have hn4 : (GB.toList == GA.toList) = false := by simpa using hn3
                clear hGB
                have e1 : (if 2 * i < k + 1 then 1 else 0 : Int) = if 2 * i < k then 1 else 0 := by split <;> split <;> omega
                have e2 : (if 2 * i + 1 < k + 1 then 1 else 0 : Int) = if 2 * i + 1 < k then 1 else 0 := by split <;> split <;> omega
                have e3 : (if 2 * i + 1 < k + 1 then listB j (i + 1) else zeroT) = if 2 * i + 1 < k then listB j (i + 1) else zeroT := by
                  split <;> split <;> first | rfl | omega
                have HE3 := Lib.hid (And.intro e1 (And.intro e2 e3))
                obtain ⟨S9, hS9⟩ : ∃ s : Int, s = if 2 * i < k then 1 else 0 := ⟨_, rfl⟩
                obtain ⟨S10, hS10⟩ : ∃ s : Int, s = if 2 * i + 1 < k then 1 else 0 := ⟨_, rfl⟩
                rw [← hS9, ← hS10]
                have HS := Lib.hid (And.intro hS9 hS10)
                clear hne h11 hbz hGA e1 e2 e3 hS9 hS10
                go_wp2_with (first | rw [hjj] | fail)
                go_quiet (first | rw [hjj] | fail)
                go_wp2_with (first | rw [hjj] | fail)
                go_roundw
                case rel => exact ⟨k + 1, by omega, by go_num, by rw [HE3.out.1, HS.out.1], by rw [HE3.out.2.1, HS.out.2], HZ.out.1.below2 (draws_t _ _), by rw [HE3.out.2.2]; exact HZ.out.2.1.below2 (draws_t _ _), HZ.out.2.2.trans ((draws_t _ _).mono (Nat.le_of_lt hl7))⟩
                case measure => simp [intOf]; omega
              · obtain he | ho : k = 2 * i ∨ k = 2 * i + 1 := by omega
                · have hrow := listT_even j i hijn
                  rw [← he, listB_lt hijn, ← hGA, rFirst_lit] at hrow
                  rw [hrow] at hrk
                  obtain ⟨r0, r1, r2, r3, b0, b1, c0, c1, c2, c3⟩ := hrk
                  unfold named nobT at r0 r1 r2 r3 b0 b1 c0 c1 c2 c3
                  dsimp only at r0 r1 r2 r3 b0 b1 c0 c1 c2 c3
                  rw [if_neg (show ¬ 2 * i < k by omega), if_neg (show ¬ 2 * i + 1 < k by omega)]
                  obtain ⟨DG, hDG⟩ : ∃ d : ByteArray, d = ⟨(digL i).toArray⟩ := ⟨_, rfl⟩
                  rw [listO_eq, ← hDG] at c1
                  have hdd : ∀ w, Calls Tryz.prog 13 #[.int .i64 (i : Int)] w (DigTo DG w) := by
                    rw [hDG]
                    exact digits12 i (by have := HN.out; omega)
                  have hdg : DG.size ≤ 3 := by
                    have := digL_le3 i
                    rw [hDG, ba_len2]
                    omega
                  have hdz : ¬ 9223372036854775807 < 2 + DG.size := Nat.not_lt_of_le (Nat.le_trans (show 2 + DG.size ≤ 5 by omega) (by decide))
                  have HDD := Lib.hid hdd
                  have HHE := Lib.hid he
                  have HLT := Lib.hid hl7
                  have HB1C := Lib.hid b1
                  have HC1C := Lib.hid c1
                  have HGL0 := Lib.hid (Nat.lt_of_lt_of_le HGB.out.2 (show T7 ≤ wr.heap.size from Nat.le_of_lt hl7))
                  clear h11 hbz hGA hrow he hDG hdd
                  go_wp2_with (first | rw [hjj] | fail)
                  go_quiet (first | rw [hjj] | fail)
                  go_wp2_with (first | rw [hjj] | fail)
                  have hdq := draws_t wr nq
                  have HGL := Lib.hid (Nat.lt_of_lt_of_le HGL0.out hdq.size)
                  have hb1q := (hdq.cell (p := ⟨g, k * 12 + 4 + 1, none⟩) HGL0.out).trans HB1C.out
                  have hc1q := (hdq.cell (p := ⟨g, k * 12 + 8 + 1, none⟩) HGL0.out).trans HC1C.out
                  have HDQ := Lib.hid hdq
                  clear HB1C HC1C r0 r1 r2 r3 b0 b1 c0 c1 c2 c3 a0 a1 a2 a3 f0 f1 f2 f3 hdq
                  generalize World.drewN wr nq = wq at HDQ hb1q hc1q HGL ⊢
                  have HB1C := Lib.hid hb1q
                  have HC1C := Lib.hid hc1q
                  clear hb1q hc1q
                  refine wp_region_any (by kernel_rfl) ?_
                  change wpAny _ _ _ _ _ _ _ (World.drew _)
                  refine wpAny_of_held (S := fun w' => Below wq.heap.size wq w') _ _ _ _ ?_
                  have hS : (fun w' => Below wq.heap.size wq w') _ := (Below.refl _ wq).drew
                  refine wpAnyH_take (i := 0) (oi := ⟨some 68, _, _, _, _, _⟩) (v := ?_) rfl (by kernel_rfl) (by kernel_rfl) (by kernel_rfl) (fun _ _ _ h => h) (Or.inl ⟨by simp only [Region.wanted], ?_⟩) hS ?_
                  rotate_left
                  · intro wz hSw
                    clear hSw
                    go_simp
                    first | done | with_reducible rfl
                  try simp only [Act.put, List.setIfInBounds_toArray, List.set_cons_zero, List.set_cons_succ]
                  refine wpAnyH_take (i := 1) (oi := ⟨some 69, _, _, _, _, _⟩) (v := ?_) rfl (by kernel_rfl) (by kernel_rfl) (by kernel_rfl) (fun _ _ _ h => h) (Or.inl ⟨by simp only [Region.wanted], ?_⟩) hS ?_
                  rotate_left
                  · intro wz hSw
                    clear hSw
                    go_simp
                    first | done | with_reducible rfl
                  try simp only [Act.put, List.setIfInBounds_toArray, List.set_cons_zero, List.set_cons_succ]
                  refine wpAnyH_take (i := 2) (oi := ⟨some 70, _, _, _, _, _⟩) (v := ?_) rfl (by kernel_rfl) (by kernel_rfl) (by kernel_rfl) (fun _ _ _ h => h) (Or.inl ⟨by simp only [Region.wanted], ?_⟩) hS ?_
                  rotate_left
                  · intro wz hSw
                    clear hSw
                    go_simp
                    first | done | with_reducible rfl
                  try simp only [Act.put, List.setIfInBounds_toArray, List.set_cons_zero, List.set_cons_succ]
                  refine wpAnyH_take (i := 3) (oi := ⟨some 71, _, _, _, _, _⟩) (v := ?_) rfl (by kernel_rfl) (by kernel_rfl) (by kernel_rfl) (fun _ _ _ h => h) (Or.inl ⟨by simp only [Region.wanted], ?_⟩) hS ?_
                  rotate_left
                  · intro wz hSw
                    clear hSw
                    go_simp
                    first | done | with_reducible rfl
                  try simp only [Act.put, List.setIfInBounds_toArray, List.set_cons_zero, List.set_cons_succ]
                  refine wpAnyH_take (i := 4) (oi := ⟨some 72, _, _, _, _, _⟩) (v := ?_) rfl (by kernel_rfl) (by kernel_rfl) (by kernel_rfl) (fun _ _ _ h => h) (Or.inl ⟨by simp only [Region.wanted], ?_⟩) hS ?_
                  rotate_left
                  · intro wz hSw
                    clear hSw
                    go_simp
                    first | done | with_reducible rfl
                  try simp only [Act.put, List.setIfInBounds_toArray, List.set_cons_zero, List.set_cons_succ]
                  refine wpAnyH_take (i := 5) (oi := ⟨some 73, _, _, _, _, _⟩) (v := ?_) rfl (by kernel_rfl) (by kernel_rfl) (by kernel_rfl) (fun _ _ _ h => h) (Or.inl ⟨by simp only [Region.wanted], ?_⟩) hS ?_
                  rotate_left
                  · intro wz hSw; have q1 := (hSw.cell (p := ⟨g, k * 12 + 4 + 1, none⟩) HGL.out).trans HB1C.out
                    clear hSw
                    go_simp
                    first | done | with_reducible rfl
                  try simp only [Act.put, List.setIfInBounds_toArray, List.set_cons_zero, List.set_cons_succ]
                  refine wpAnyH_take (i := 6) (oi := ⟨some 74, _, _, _, _, _⟩) (v := ?_) rfl (by kernel_rfl) (by kernel_rfl) (by kernel_rfl) (fun _ _ _ h => h) (Or.inl ⟨by simp only [Region.wanted], ?_⟩) hS ?_
                  rotate_left
                  · intro wz hSw
                    clear hSw
                    go_simp
                    first | done | with_reducible rfl
                  try simp only [Act.put, List.setIfInBounds_toArray, List.set_cons_zero, List.set_cons_succ]
                  refine wpAnyH_take (i := 7) (oi := ⟨some 75, _, _, _, _, _⟩) (v := ?_) rfl (by kernel_rfl) (by kernel_rfl) (by kernel_rfl) (fun _ _ _ h => h) (Or.inl ⟨by simp only [Region.wanted], ?_⟩) hS ?_
                  rotate_left
                  · intro wz hSw
                    clear hSw
                    go_simp
                    first | done | with_reducible rfl
                  try simp only [Act.put, List.setIfInBounds_toArray, List.set_cons_zero, List.set_cons_succ]
                  refine wpAnyH_take (i := 8) (oi := ⟨some 76, _, _, _, _, _⟩) (v := ?_) rfl (by kernel_rfl) (by kernel_rfl) (by kernel_rfl) (fun _ _ _ h => h) (Or.inl ⟨by first | rfl | (simp [Region.wanted, yielded]; done), ?_⟩) hS ?_
                  rotate_left
                  · intro wz hSw
                    clear hSw
                    go_simp
                    first | done | with_reducible rfl
                  try simp only [Act.put, List.setIfInBounds_toArray, List.set_cons_zero, List.set_cons_succ]
                  refine wpAnyH_take (i := 9) (oi := ⟨some 77, _, _, _, _, _⟩) (v := ?_) rfl (by kernel_rfl) (by kernel_rfl) (by kernel_rfl) (fun _ _ _ h => h) (Or.inl ⟨by first | rfl | (simp [Region.wanted, yielded]; done), ?_⟩) hS ?_
                  rotate_left
                  · intro wz hSw
                    clear hSw
                    go_simp
                    first | done | with_reducible rfl
                  try simp only [Act.put, List.setIfInBounds_toArray, List.set_cons_zero, List.set_cons_succ]
                  refine wpAnyH_take (i := 10) (oi := ⟨some 78, _, _, _, _, _⟩) (v := ?_) rfl (by kernel_rfl) (by kernel_rfl) (by kernel_rfl) (fun _ _ _ h => h) (Or.inl ⟨by first | rfl | (simp [Region.wanted, yielded]; done), ?_⟩) hS ?_
                  rotate_left
                  · intro wz hSw
                    clear hSw
                    go_simp
                    first | done | with_reducible rfl
                  try simp only [Act.put, List.setIfInBounds_toArray, List.set_cons_zero, List.set_cons_succ]
                  refine wpAnyH_take (i := 11) (oi := ⟨some 79, _, _, _, _, _⟩) (v := ?_) rfl (by kernel_rfl) (by kernel_rfl) (by kernel_rfl) (fun _ _ _ h => h) (Or.inl ⟨by first | rfl | (simp [Region.wanted, yielded]; done), ?_⟩) hS ?_
                  rotate_left
                  · intro wz hSw
                    clear hSw
                    go_simp
                    first | done | with_reducible rfl
                  try simp only [Act.put, List.setIfInBounds_toArray, List.set_cons_zero, List.set_cons_succ]
                  refine wpAnyH_take (i := 12) (oi := ⟨some 80, _, _, _, _, _⟩) (v := ?_) rfl (by kernel_rfl) (by kernel_rfl) (by kernel_rfl) (fun _ _ _ h => h) (Or.inl ⟨by first | rfl | (simp [Region.wanted, yielded]; done), ?_⟩) hS ?_
                  rotate_left
                  · intro wz hSw
                    clear hSw
                    go_simp
                    first | done | with_reducible rfl
                  try simp only [Act.put, List.setIfInBounds_toArray, List.set_cons_zero, List.set_cons_succ]
                  refine wpAnyH_take (i := 13) (oi := ⟨some 81, _, _, _, _, _⟩) (v := ?_) rfl (by kernel_rfl) (by kernel_rfl) (by kernel_rfl) (fun _ _ _ h => h) (Or.inl ⟨by first | rfl | (simp [Region.wanted, yielded]; done), ?_⟩) hS ?_
                  rotate_left
                  · intro wz hSw; have q1 := (hSw.cell (p := ⟨g, k * 12 + 8 + 1, none⟩) HGL.out).trans HC1C.out
                    clear hSw
                    go_simp
                    first | done | with_reducible rfl
                  try simp only [Act.put, List.setIfInBounds_toArray, List.set_cons_zero, List.set_cons_succ]
                  refine wpAnyH_take (i := 14) (oi := ⟨some 82, _, _, _, _, _⟩) (v := ?_) rfl (by kernel_rfl) (by kernel_rfl) (by kernel_rfl) (fun _ _ _ h => h) (Or.inl ⟨by first | rfl | (simp [Region.wanted, yielded]; done), ?_⟩) hS ?_
                  rotate_left
                  · intro wz hSw
                    clear hSw
                    go_simp
                    first | done | with_reducible rfl
                  try simp only [Act.put, List.setIfInBounds_toArray, List.set_cons_zero, List.set_cons_succ]
                  refine wpAnyH_ready (rs := [15]) (by kernel_rfl) (by simp) ?_
                  refine AllReadyH.cons (o := ⟨some 83, _, _, _, _, _⟩) rfl (fun K hK => ?_) AllReadyH.nil
                  go_simp
                  refine (HDD.out _).mono ?_
                  rintro e w9 ⟨rfl, hb9⟩
                  have HB9 := Lib.hid ((show Below wq.heap.size wq _ from hS).trans (hb9.mono (show Below wq.heap.size wq _ from hS).size))
                  clear hb9
                  refine hK.out _ _ (HB9.out) (fun hS => ?_)
                  clear hK K
                  try simp only [Act.put, List.setIfInBounds_toArray, List.set_cons_zero, List.set_cons_succ]
                  refine wpAnyH_take (i := 16) (oi := ⟨some 84, _, _, _, _, _⟩) (v := ?_) rfl (by kernel_rfl) (by kernel_rfl) (by kernel_rfl) (fun _ _ _ h => h) (Or.inl ⟨by first | rfl | (simp [Region.wanted, yielded]; done), ?_⟩) hS ?_
                  rotate_left
                  · intro wz hSw
                    clear hSw
                    go_simp
                    first | done | with_reducible rfl
                  try simp only [Act.put, List.setIfInBounds_toArray, List.set_cons_zero, List.set_cons_succ]
                  refine wpAnyH_take (i := 17) (oi := ⟨some 85, _, _, _, _, _⟩) (v := ?_) rfl (by kernel_rfl) (by kernel_rfl) (by kernel_rfl) (fun _ _ _ h => h) (Or.inl ⟨by first | rfl | (simp [Region.wanted, yielded]; done), ?_⟩) hS ?_
                  rotate_left
                  · intro wz hSw
                    clear hSw
                    go_simp
                    first | done | with_reducible rfl
                  try simp only [Act.put, List.setIfInBounds_toArray, List.set_cons_zero, List.set_cons_succ]
                  refine wpAnyH_take (i := 18) (oi := ⟨some 86, _, _, _, _, _⟩) (v := ?_) rfl (by kernel_rfl) (by kernel_rfl) (by kernel_rfl) (fun _ _ _ h => h) (Or.inl ⟨by simp only [Region.wanted], ?_⟩) hS ?_
                  rotate_left
                  · intro wz hSw
                    clear hSw
                    go_simp
                    first | done | with_reducible rfl
                  try simp only [Act.put, List.setIfInBounds_toArray, List.set_cons_zero, List.set_cons_succ]
                  refine wpAnyH_done (by kernel_rfl) ?_ _
                  try clear hS
                  have b1 := (HB9.out.cell (p := ⟨g, k * 12 + 4 + 1, none⟩) HGL.out).trans HB1C.out
                  have HV := Lib.hid (HDQ.out.trans (HB9.out.mono HDQ.out.size))
                  go_wp2_with (first | rw [hjj] | fail)
                  go_roundw
                  case rel =>
                    have hk3 := HHE.out
                    have h11' := HZ.out.2.1
                    rw [if_neg (show ¬ 2 * i + 1 < k by omega)] at h11'
                    exact ⟨k + 1, by omega, by go_num, by rw [if_pos (by omega)], by rw [if_neg (by omega)], HZ.out.1.below2 HV.out, by rw [if_neg (by omega)]; exact h11'.below2 HV.out, HZ.out.2.2.trans (HV.out.mono (Nat.le_of_lt HLT.out))⟩
                  case measure => simp [intOf]; omega
                · have hrow := listT_odd j i hijn
                  rw [← ho, listB_lt hijn, ← hGA, rRest_lit] at hrow
                  rw [hrow] at hrk
                  obtain ⟨r0, r1, r2, r3, b0, b1, c0, c1, c2, c3⟩ := hrk
                  unfold named nobT at r0 r1 r2 r3 b0 b1 c0 c1 c2 c3
                  dsimp only at r0 r1 r2 r3 b0 b1 c0 c1 c2 c3
                  rw [if_pos (show 2 * i < k by omega), if_neg (show ¬ 2 * i + 1 < k by omega)]
                  rw [if_neg (show ¬ 2 * i + 1 < k by omega)] at h11
                  obtain ⟨hl11, t0, t1, t2, t3, g0, g1, g2, g3⟩ := h11.get4
                  have HH := Lib.hid (And.intro h11 ho)
                  have HLT := Lib.hid (And.intro hl7 hl11)
                  obtain ⟨BK, hBK⟩ : ∃ b : Tm, b = listB j (i + 1) := ⟨_, rfl⟩
                  rw [← hBK] at c0 c1 c2 c3
                  have HBK := Lib.hid hBK
                  have HGA := Lib.hid hGA
                  clear h11 hbz hGA hrow ho hBK
                  go_wp2_with (first | rw [hjj] | fail)
                  go_quiet (first | rw [hjj] | fail)
                  go_wp2_with (first | rw [hjj] | fail)
                  go_quiet (first | rw [hjj] | fail)
                  go_wp2_with (first | rw [hjj] | fail)
                  go_roundw
                  case rel =>
                    have hk3 := HH.out.2
                    have h711 := HX.out.2.2.2
                    refine ⟨k + 1, by omega, by go_num, by rw [if_pos (by omega)], by rw [if_pos (by omega)], (HZ.out.1.below2 (draws_t _ _)).four' hne711 _ _ _ _, ?_, below_four (HZ.out.2.2.trans ((draws_t _ _).mono (Nat.le_of_lt HLT.out.1))) (Nat.le_of_lt h711) _ _ _ _⟩
                    rw [if_pos (by omega), ← HBK.out]
                    exact (HH.out.1.below2 (draws_t _ _)).four _ _ _ _
                  case measure => simp [intOf]; omega
            · have hkj : k = 2 * j := by omega
              rw [if_pos (show 2 * i < k by omega), if_pos (show 2 * i + 1 < k by omega)]
              rw [if_pos (show 2 * i + 1 < k by omega)] at h11
              have hkj2 : (k : Int) = 2 * j := by omega
              rw [hkj2] at hkn ⊢
              obtain ⟨BK, hBK⟩ : ∃ b : Tm, b = listB j (i + 1) := ⟨_, rfl⟩
              rw [← hBK] at h11
              obtain ⟨hl11, t0, t1, t2, t3, g0, g1, g2, g3⟩ := h11.get4
              have HBK := Lib.hid hBK
              have HLT := Lib.hid hl7
              clear h11 hbz hBK hGA hkj hkj2 hkn
              go_wp2_with fail
              go_roundw
              case rel =>
                refine ⟨i + 1, by omega, by go_num, ?_, below_four HZ.out.2.2 (Nat.le_refl _) _ _ _ _⟩
                rw [← HBK.out]
                exact Blk.four HZ.out.1 _ _ _ _
              case measure => simp [intOf]; omega
        · obtain rfl : i = j := by omega
          rw [show listB i i = ⟨1, rNilB, ⟨#[]⟩, ⟨#[]⟩⟩ from if_neg (by omega), rNil_lit] at hb7
          unfold tmC at hb7
          dsimp only at hb7
          obtain ⟨hl7, a0, a1, a2, a3, f0, f1, f2, f3⟩ := hb7.get4
          clear hb7 hi
          go_wp2_with fail
          go_ret
          exact ⟨rfl, HB5.out.trans (HBW.out.mono (by have := HT7.out; have := HB5.out.size; omega))⟩
end Go.Proofs.YtpoedjbodkdglaaGreatDoor
