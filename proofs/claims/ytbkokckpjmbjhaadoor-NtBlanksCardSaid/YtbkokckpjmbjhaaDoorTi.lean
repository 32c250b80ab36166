/- Terms: Compare, package term's and triadref6's. -/
import Derived.Test.YtbkokckpjmbjhaaDoorTh
import Derived.Deep.QuietTactic
import Derived.BigQuiet
import Derived.Deep.RegionHeld3
import Derived.Laws.Cover1
namespace Go.Proofs.YtbkokckpjmbjhaaDoor
open Go.RowKit
set_option maxRecDepth 100000

theorem ret_int9 {a b : Int} (h : a = b) : Ending.returned (.int .i64 a) = .returned (.int .i64 b) := by rw [h]
/-- Two numbers, two texts, held against one another; the first that is not nought. -/
def ordI (a b : Int) : Int := if a < b then -1 else if b < a then 1 else 0
def ordS (a b : ByteArray) : Int := if Op.bytesLess a.toList b.toList then -1 else if a.toList = b.toList then 0 else 1
def orI (a b : Int) : Int := if a = 0 then b else a
def cmpT (x y : Tm) : Int := orI (ordI (rankOf x.k) (rankOf y.k)) (orI (ordI x.k y.k) (orI (ordS x.s y.s) (orI (ordS x.l y.l) (ordS x.t y.t))))
theorem ordI_range (a b : Int) : -1 ≤ ordI a b ∧ ordI a b ≤ 1 := by unfold ordI; repeat' split
                                                                    all_goals omega
theorem ordS_range (a b : ByteArray) : -1 ≤ ordS a b ∧ ordS a b ≤ 1 := by unfold ordS; repeat' split
                                                                          all_goals omega

set_option maxHeartbeats 1000000 in
theorem intsR_any (a b : Int) (w : World) : Calls Tryd.prog 30 #[.int .i64 a, .int .i64 b] w fun e w' => e = .returned (.int .i64 (ordI a b)) ∧ w' = w := by
  unfold ordI
  have hcase : a < b ∨ b < a ∨ a = b := by omega
  rcases hcase with h | h | rfl
  · rw [if_pos h]
    go_enter Tryd.func30, Tryd.ntmps30
    go_wp2
    go_ret
    exact ⟨rfl, rfl⟩
  · rw [if_neg (by omega), if_pos h]
    go_enter Tryd.func30, Tryd.ntmps30
    go_wp2
    go_ret
    exact ⟨rfl, rfl⟩
  · rw [if_neg (by omega), if_neg (by omega)]
    go_enter Tryd.func30, Tryd.ntmps30
    go_wp2
    go_ret
    exact ⟨rfl, rfl⟩
set_option maxHeartbeats 1000000 in
theorem orderR_any (a b : ByteArray) (w : World) : Calls Tryd.prog 32 #[.string a, .string b] w fun e w' => e = .returned (.int .i64 (ordS a b)) ∧ w' = w := by
  unfold ordS
  cases h : Op.bytesLess a.toList b.toList with
  | true =>
    rw [if_pos rfl]
    go_enter Tryd.func32, Tryd.ntmps32
    go_wp2
    go_ret
    exact ⟨rfl, rfl⟩
  | false =>
    rw [if_neg (by simp)]
    by_cases he : a.toList = b.toList
    · rw [if_pos he]
      rw [he] at h
      go_enter Tryd.func32, Tryd.ntmps32
      go_wp2
      go_ret
      exact ⟨rfl, rfl⟩
    · rw [if_neg he]
      have he' : (a.toList == b.toList) = false := by simpa using he
      clear he
      go_enter Tryd.func32, Tryd.ntmps32
      go_wp2
      go_ret
      exact ⟨rfl, rfl⟩
set_option maxHeartbeats 1000000 in
theorem rankR_any (k : Int) (w : World) :
    Calls Tryd.prog 31 #[.int .i64 k] w fun e w' => e = .returned (.int .i64 (rankOf k)) ∧ w' = w := by
  unfold rankOf
  by_cases h2 : k = 2
  · subst h2
    go_enter Tryd.func31, Tryd.ntmps31
    go_wp2
    go_ret
    exact ⟨rfl, rfl⟩
  by_cases h1 : k = 1
  · subst h1
    go_enter Tryd.func31, Tryd.ntmps31
    go_wp2
    go_ret
    exact ⟨rfl, rfl⟩
  by_cases h3 : k = 3
  · subst h3
    go_enter Tryd.func31, Tryd.ntmps31
    go_wp2
    go_ret
    exact ⟨rfl, rfl⟩
  rw [if_neg h2, if_neg h1, if_neg h3]
  have g2 : (k == 2) = false := by simpa using h2
  have g1 : (k == 1) = false := by simpa using h1
  have g3 : (k == 3) = false := by simpa using h3
  clear h1 h2 h3
  go_enter Tryd.func31, Tryd.ntmps31
  go_wp2
  go_ret
  exact ⟨rfl, rfl⟩

def orL : List Int → Int
  | [] => 0
  | a :: t => orI a (orL t)
theorem orL_skip : ∀ (l : List Int) (k : Nat), (∀ x ∈ l.take k, x = 0) → orL l = orL (l.drop k)
  | _, 0, _ => by simp
  | [], _ + 1, _ => by simp
  | a :: t, k + 1, h => by
    have ha : a = 0 := h a (by simp)
    have := orL_skip t k (fun x hx => h x (by simp [hx]))
    simp [orL, orI, ha, this]
set_option maxHeartbeats 8000000 in
theorem rcompare_any (x y : Tm) (w : World) :
    Calls Tryd.prog 21 #[x.val, y.val] w fun e w' => e = .returned (.int .i64 (cmpT x y)) ∧ Below w.heap.size w w' := by
  obtain ⟨k, s, l, t⟩ := x
  obtain ⟨k2, s2, l2, t2⟩ := y
  unfold Tm.val cmpT
  dsimp only
  obtain ⟨o1, h1⟩ : ∃ o, o = ordI (rankOf k) (rankOf k2) := ⟨_, rfl⟩
  obtain ⟨o2, h2⟩ : ∃ o, o = ordI k k2 := ⟨_, rfl⟩
  obtain ⟨o3, h3⟩ : ∃ o, o = ordS s s2 := ⟨_, rfl⟩
  obtain ⟨o4, h4⟩ : ∃ o, o = ordS l l2 := ⟨_, rfl⟩
  obtain ⟨o5, h5⟩ : ∃ o, o = ordS t t2 := ⟨_, rfl⟩
  rw [← h1, ← h2, ← h3, ← h4, ← h5]
  have H1 := Lib.hid h1
  have H2 := Lib.hid h2
  have H3 := Lib.hid h3
  have H4 := Lib.hid h4
  have H5 := Lib.hid h5
  clear h1 h2 h3 h4 h5
  go_enter Tryd.func21, Tryd.ntmps21
  go_wp2_with fail
  go_quiet ((first | (go_at_call 31; exact Calls.quiet_of_same (rankR_any _ _)) | (go_at_call 30; exact Calls.quiet_of_same (intsR_any _ _ _))))
  rw [← H1.out]
  by_cases z1 : o1 = 0
  · subst z1
    go_wp2_with fail
    refine (intsR_any k k2 _).mono ?_
    rintro e w' ⟨rfl, he⟩; replace he := he.symm; subst he
    rw [← H2.out]
    by_cases z2 : o2 = 0
    · subst z2
      go_wp2_with fail
      refine (orderR_any s s2 _).mono ?_
      rintro e w' ⟨rfl, he⟩; replace he := he.symm; subst he
      rw [← H3.out]
      by_cases z3 : o3 = 0
      · subst z3
        go_wp2_with fail
        refine (orderR_any l l2 _).mono ?_
        rintro e w' ⟨rfl, he⟩; replace he := he.symm; subst he
        rw [← H4.out]
        by_cases z4 : o4 = 0
        · subst z4
          go_wp2_with fail
          refine (orderR_any t t2 _).mono ?_
          rintro e w' ⟨rfl, he⟩; replace he := he.symm; subst he
          rw [← H5.out]
          go_wp2_with fail
          go_ret
          exact ⟨ret_int9 (by simp [orI]), drewN_below9 (((Below.refl _ _).alloc (Nat.le_refl _) _).alloc (by simp) _) _⟩
        · have zz : (o4 == 0) = false := by simpa using z4
          have ZZ := Lib.hid z4
          clear z4
          go_wp2_with fail
          go_ret
          exact ⟨ret_int9 (by simp [orI, ZZ.out]), drewN_below9 (((Below.refl _ _).alloc (Nat.le_refl _) _).alloc (by simp) _) _⟩
      · have zz : (o3 == 0) = false := by simpa using z3
        have ZZ := Lib.hid z3
        clear z3
        go_wp2_with fail
        go_ret
        exact ⟨ret_int9 (by simp [orI, ZZ.out]), drewN_below9 (((Below.refl _ _).alloc (Nat.le_refl _) _).alloc (by simp) _) _⟩
    · have zz : (o2 == 0) = false := by simpa using z2
      have ZZ := Lib.hid z2
      clear z2
      go_wp2_with fail
      go_ret
      exact ⟨ret_int9 (by simp [orI, ZZ.out]), drewN_below9 (((Below.refl _ _).alloc (Nat.le_refl _) _).alloc (by simp) _) _⟩
  · have zz : (o1 == 0) = false := by simpa using z1
    have ZZ := Lib.hid z1
    clear z1
    go_wp2_with fail
    go_ret
    exact ⟨ret_int9 (by simp [orI, ZZ.out]), drewN_below9 (((Below.refl _ _).alloc (Nat.le_refl _) _).alloc (by simp) _) _⟩
end Go.Proofs.YtbkokckpjmbjhaaDoor
