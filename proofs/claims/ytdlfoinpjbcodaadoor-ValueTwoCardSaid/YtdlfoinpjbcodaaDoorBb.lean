/- Statements on value: num, within, Term, the chapter's example. -/
import Derived.Test.YtdlfoinpjbcodaaDoorAf
namespace Go.Proofs.YtdlfoinpjbcodaaDoor
open Go.RowKit Go.Shelf Flo
set_option maxRecDepth 100000
set_option linter.unusedVariables false
set_option linter.unusedSimpArgs false

theorem within15_any (x n : Int) (w : World) (hn : 0 < n) (hn2 : n ≤ 1000000) (hx : -9223372036854775808 ≤ x) (hx2 : x ≤ 9223372036854775807) :
    Calls Tryd.prog 17 #[.int .i64 x, .int .i64 n] w fun e w' => e = .returned (.int .i64 (x % n)) ∧ w = w' := by
  obtain ⟨r, hr⟩ : ∃ r, r = x % n := ⟨_, rfl⟩
  rw [← hr]
  have h0 : ¬ n = 0 := by omega
  have h1 : ¬ (n : Int) = -1 := by omega
  rcases Int.lt_or_le x 0 with hlt | hge
  · obtain ⟨t, ht⟩ : ∃ t, t = x.tmod n := ⟨_, rfl⟩
    have htb : -n < t ∧ t ≤ 0 := by
      rw [ht]
      have a := Int.lt_tmod_of_pos x hn
      have b : x.tmod n ≤ 0 := by
        have e : x = -(-x) := by omega
        rw [e, Int.neg_tmod]
        have := Int.tmod_nonneg n (show 0 ≤ -x by omega)
        omega
      omega
    have hrt : (t < 0 → t + n = r) ∧ (¬ t < 0 → t = r) := by
      have e := Int.tmod_add_mul_tdiv x n
      rw [← ht] at e
      constructor
      · intro h
        rw [hr, ← e, Int.add_mul_emod_self_left]
        have : t % n = (t + n) % n := by simp
        rw [this, Int.emod_eq_of_lt (by omega) (by omega)]
      · intro h
        have h0 : t = 0 := by omega
        rw [hr, ← e, Int.add_mul_emod_self_left, h0]; simp
    have HR := Lib.hid hrt
    have ht' := ht.symm
    clear hrt hr ht
    by_cases htn : t < 0
    · have HQ := Lib.hid (HR.out.1 htn)
      go_enter Tryd.func17, Tryd.ntmps17
      go_wp2
      go_ret
      exact ⟨by rw [← HQ.out]; rfl, rfl⟩
    · have HQ := Lib.hid (HR.out.2 htn)
      go_enter Tryd.func17, Tryd.ntmps17
      go_wp2
      go_ret
      exact ⟨by rw [← HQ.out]; rfl, rfl⟩
  · have hr' := hr.symm
    have hrb : 0 ≤ r := by rw [hr]; exact Int.emod_nonneg _ (by omega)
    clear hr
    go_enter Tryd.func17, Tryd.ntmps17
    go_wp2
    go_ret
    exact ⟨by show Ending.returned (.int .i64 (x % n)) = _; rw [hr'], rfl⟩

theorem num15_any (s t : ByteArray) (w : World) : Calls Tryd.prog 14 #[.string s, .string t] w fun e w' => e = .returned (.agg #[.int .i64 3, .string s, .string ⟨#[]⟩, .string t]) ∧ Below w.heap.size w w' := by
  go_enter Tryd.func14, Tryd.ntmps14
  go_wp2
  exact bodyPost_ret (v := .agg #[.int .i64 3, .string s, .string ⟨#[]⟩, .string t]) (by simp [results, Tryd.results14, go_sem]) rfl ⟨rfl, (Below.refl _ _).alloc (Nat.le_refl _) _⟩
def termsT : List Tm := [mkT 3 [48] [] xIntL, mkT 3 [49] [] xIntL, mkT 3 [45, 55] [] xIntL, mkT 3 [48, 48, 55] [] xIntL, mkT 3 [49, 46, 48] [] xDecL, mkT 3 [50, 46, 53, 48] [] xDecL, mkT 3 [57, 57, 57, 57, 57, 57, 57, 57, 57, 57, 57, 57, 57, 57, 57] [] xIntL, mkT 3 [120] [] xIntL, mkT 3 [49, 46, 53] [] xIntL, mkT 3 [97] [] [], mkT 3 [97, 98] [] [], mkT 3 [] [] [], mkT 3 [97] [101, 110] [], mkT 3 [97] [100, 101] [], mkT 3 [116, 114, 117, 101] [] xBoolL, mkT 3 [102, 97, 108, 115, 101] [] xBoolL, mkT 3 [109, 97, 121, 98, 101] [] xBoolL, mkT 3 [97] [] [116, 58, 116], mkT 3 [98] [] [116, 58, 116], mkT 1 [97] [] [], mkT 1 [98] [] [], mkT 2 [97] [] [], mkT 3 [48, 46, 48, 48, 48, 48, 48, 49] [] xDecL, mkT 3 [45, 48] [] xIntL]
/-- The term of a number. -/
def termT (n : Int) : Tm := termsT.getD (n % 24).toNat zeroT
def tmSm (t : Tm) : Bool := decide (1 ≤ t.k) && decide (t.k ≤ 3) && decide (t.s.size ≤ 200) && decide (t.l.size ≤ 200) && decide (t.t.size ≤ 200)
theorem tmSm_of {t : Tm} (h : tmSm t = true) : t.Sm := by
  unfold tmSm at h
  simp only [Bool.and_eq_true, decide_eq_true_eq] at h
  exact ⟨by omega, h.1.1.2, h.1.2, h.2⟩
theorem terms_sm : ∀ k, k < 24 → tmSm (termsT.getD k zeroT) = true := by decide +kernel
theorem termT_sm (n : Int) : (termT n).Sm := tmSm_of (terms_sm _ (by omega))
/-- What may be written is there, and all that was is as it was. -/
def OneQ (w : World) (b : Nat) (v : World) : Prop := Below w.heap.size w v ∧ w.heap.size ≤ b ∧ (∃ x : Tm, TmB v b x) ∧ ∀ j, v.frozen? ⟨b, j, none⟩ = false
theorem OneQ.below {w v v' : World} {b : Nat} (h : OneQ w b v) (hb : Below v.heap.size v v') : OneQ w b v' := by
  obtain ⟨h1, h2, ⟨x, hx⟩, hf⟩ := h
  exact ⟨h1.trans (hb.mono h1.size), h2, ⟨x, hx.below hb⟩, fun j => (hb.frozen (p := ⟨b, j, none⟩) hx.1).trans (hf j)⟩
theorem OneQ.new (w : World) (ty : TypeId) : OneQ w w.heap.size (w.alloc (.cells #[.int .i64 0, .string ⟨#[]⟩, .string ⟨#[]⟩, .string ⟨#[]⟩] ty)) :=
  ⟨(Below.refl _ _).alloc (Nat.le_refl _) _, Nat.le_refl _, ⟨zeroT, TmB.new w zeroT ty⟩, fun j => (Blk.new w #[.int .i64 0, .string ⟨#[]⟩, .string ⟨#[]⟩, .string ⟨#[]⟩] ty).frozen j⟩
theorem OneQ.put {w v : World} {b : Nat} (h : OneQ w b v) (k s l y : Value) : Below w.heap.size w ((((v.setCell ⟨b, 0, none⟩ k).setCell ⟨b, 1, none⟩ s).setCell ⟨b, 2, none⟩ l).setCell ⟨b, 3, none⟩ y) := by
  obtain ⟨h1, h2, -, -⟩ := h
  exact (((h1.setCell h2 _).setCell h2 _).setCell h2 _).setCell h2 _
theorem val_get (k : Nat) (h : k < 24) : (termsT.getD k zeroT) = termsT[k]'h := by rw [List.getD_eq_getElem?_getD, List.getElem?_eq_getElem h]; rfl
set_option maxHeartbeats 8000000 in
theorem term15_any (n : Int) (w : World) (hn : -9223372036854775808 ≤ n) (hn2 : n ≤ 9223372036854775807) : Calls Tryd.prog 7 #[.int .i64 n] w fun e w' => e = .returned (termT n).val ∧ Below w.heap.size w w' := by
  have HU := Lib.hid (fun s t w => num15_any s t w)
  have HI := Lib.hid (fun w => within15_any n 24 w (by decide) (by decide) hn hn2)
  obtain ⟨V, hV⟩ : ∃ V, V = termT n := ⟨_, rfl⟩
  rw [← hV]
  obtain ⟨k, hk, hk2⟩ : ∃ k : Nat, k < 24 ∧ n % 24 = k := ⟨(n % 24).toNat, by omega, by omega⟩
  unfold termT at hV
  rw [hk2, Int.toNat_natCast, val_get k hk] at hV
  rw [hk2] at HI
  have HV := Lib.hid (⟨hk, hV⟩ : ∃ h : k < 24, V = termsT[k]'h)
  have HK := Lib.hid hk
  clear hV hk hk2 hn hn2
  have HT := Lib.hid (OneQ.new w 23)
  go_enter Tryd.func7, Tryd.ntmps7
  go_wp2_with fail
  generalize World.alloc w _ = wr at HT ⊢
  iterate 15 (refine (HU.out _ _ _).mono ?_; rintro e wn ⟨rfl, hb⟩; replace HT := Lib.hid (HT.out.below hb); clear hb; go_wp2_with fail)
  refine (HU.out _ _ _).mono ?_
  rintro e wn ⟨rfl, hb⟩
  replace HT := Lib.hid (HT.out.below hb)
  clear hb
  go_wp2_with fail
  have hblk := Blk.new wn #[.int .i64 3, .string ⟨#[48]⟩, .string ⟨#[]⟩, .string ⟨#[104, 116, 116, 112, 58, 47, 47, 119, 119, 119, 46, 119, 51, 46, 111, 114, 103, 47, 50, 48, 48, 49, 47, 88, 77, 76, 83, 99, 104, 101, 109, 97, 35, 105, 110, 116, 101, 103, 101, 114]⟩, .int .i64 3, .string ⟨#[49]⟩, .string ⟨#[]⟩, .string ⟨#[104, 116, 116, 112, 58, 47, 47, 119, 119, 119, 46, 119, 51, 46, 111, 114, 103, 47, 50, 48, 48, 49, 47, 88, 77, 76, 83, 99, 104, 101, 109, 97, 35, 105, 110, 116, 101, 103, 101, 114]⟩, .int .i64 3, .string ⟨#[45, 55]⟩, .string ⟨#[]⟩, .string ⟨#[104, 116, 116, 112, 58, 47, 47, 119, 119, 119, 46, 119, 51, 46, 111, 114, 103, 47, 50, 48, 48, 49, 47, 88, 77, 76, 83, 99, 104, 101, 109, 97, 35, 105, 110, 116, 101, 103, 101, 114]⟩, .int .i64 3, .string ⟨#[48, 48, 55]⟩, .string ⟨#[]⟩, .string ⟨#[104, 116, 116, 112, 58, 47, 47, 119, 119, 119, 46, 119, 51, 46, 111, 114, 103, 47, 50, 48, 48, 49, 47, 88, 77, 76, 83, 99, 104, 101, 109, 97, 35, 105, 110, 116, 101, 103, 101, 114]⟩, .int .i64 3, .string ⟨#[49, 46, 48]⟩, .string ⟨#[]⟩, .string ⟨#[104, 116, 116, 112, 58, 47, 47, 119, 119, 119, 46, 119, 51, 46, 111, 114, 103, 47, 50, 48, 48, 49, 47, 88, 77, 76, 83, 99, 104, 101, 109, 97, 35, 100, 101, 99, 105, 109, 97, 108]⟩, .int .i64 3, .string ⟨#[50, 46, 53, 48]⟩, .string ⟨#[]⟩, .string ⟨#[104, 116, 116, 112, 58, 47, 47, 119, 119, 119, 46, 119, 51, 46, 111, 114, 103, 47, 50, 48, 48, 49, 47, 88, 77, 76, 83, 99, 104, 101, 109, 97, 35, 100, 101, 99, 105, 109, 97, 108]⟩, .int .i64 3, .string ⟨#[57, 57, 57, 57, 57, 57, 57, 57, 57, 57, 57, 57, 57, 57, 57]⟩, .string ⟨#[]⟩, .string ⟨#[104, 116, 116, 112, 58, 47, 47, 119, 119, 119, 46, 119, 51, 46, 111, 114, 103, 47, 50, 48, 48, 49, 47, 88, 77, 76, 83, 99, 104, 101, 109, 97, 35, 105, 110, 116, 101, 103, 101, 114]⟩, .int .i64 3, .string ⟨#[120]⟩, .string ⟨#[]⟩, .string ⟨#[104, 116, 116, 112, 58, 47, 47, 119, 119, 119, 46, 119, 51, 46, 111, 114, 103, 47, 50, 48, 48, 49, 47, 88, 77, 76, 83, 99, 104, 101, 109, 97, 35, 105, 110, 116, 101, 103, 101, 114]⟩, .int .i64 3, .string ⟨#[49, 46, 53]⟩, .string ⟨#[]⟩, .string ⟨#[104, 116, 116, 112, 58, 47, 47, 119, 119, 119, 46, 119, 51, 46, 111, 114, 103, 47, 50, 48, 48, 49, 47, 88, 77, 76, 83, 99, 104, 101, 109, 97, 35, 105, 110, 116, 101, 103, 101, 114]⟩, .int .i64 3, .string ⟨#[97]⟩, .string ⟨#[]⟩, .string ⟨#[]⟩, .int .i64 3, .string ⟨#[97, 98]⟩, .string ⟨#[]⟩, .string ⟨#[]⟩, .int .i64 3, .string ⟨#[]⟩, .string ⟨#[]⟩, .string ⟨#[]⟩, .int .i64 3, .string ⟨#[97]⟩, .string ⟨#[101, 110]⟩, .string ⟨#[]⟩, .int .i64 3, .string ⟨#[97]⟩, .string ⟨#[100, 101]⟩, .string ⟨#[]⟩, .int .i64 3, .string ⟨#[116, 114, 117, 101]⟩, .string ⟨#[]⟩, .string ⟨#[104, 116, 116, 112, 58, 47, 47, 119, 119, 119, 46, 119, 51, 46, 111, 114, 103, 47, 50, 48, 48, 49, 47, 88, 77, 76, 83, 99, 104, 101, 109, 97, 35, 98, 111, 111, 108, 101, 97, 110]⟩, .int .i64 3, .string ⟨#[102, 97, 108, 115, 101]⟩, .string ⟨#[]⟩, .string ⟨#[104, 116, 116, 112, 58, 47, 47, 119, 119, 119, 46, 119, 51, 46, 111, 114, 103, 47, 50, 48, 48, 49, 47, 88, 77, 76, 83, 99, 104, 101, 109, 97, 35, 98, 111, 111, 108, 101, 97, 110]⟩, .int .i64 3, .string ⟨#[109, 97, 121, 98, 101]⟩, .string ⟨#[]⟩, .string ⟨#[104, 116, 116, 112, 58, 47, 47, 119, 119, 119, 46, 119, 51, 46, 111, 114, 103, 47, 50, 48, 48, 49, 47, 88, 77, 76, 83, 99, 104, 101, 109, 97, 35, 98, 111, 111, 108, 101, 97, 110]⟩, .int .i64 3, .string ⟨#[97]⟩, .string ⟨#[]⟩, .string ⟨#[116, 58, 116]⟩, .int .i64 3, .string ⟨#[98]⟩, .string ⟨#[]⟩, .string ⟨#[116, 58, 116]⟩, .int .i64 1, .string ⟨#[97]⟩, .string ⟨#[]⟩, .string ⟨#[]⟩, .int .i64 1, .string ⟨#[98]⟩, .string ⟨#[]⟩, .string ⟨#[]⟩, .int .i64 2, .string ⟨#[97]⟩, .string ⟨#[]⟩, .string ⟨#[]⟩, .int .i64 3, .string ⟨#[48, 46, 48, 48, 48, 48, 48, 49]⟩, .string ⟨#[]⟩, .string ⟨#[104, 116, 116, 112, 58, 47, 47, 119, 119, 119, 46, 119, 51, 46, 111, 114, 103, 47, 50, 48, 48, 49, 47, 88, 77, 76, 83, 99, 104, 101, 109, 97, 35, 100, 101, 99, 105, 109, 97, 108]⟩, .int .i64 3, .string ⟨#[45, 48]⟩, .string ⟨#[]⟩, .string ⟨#[104, 116, 116, 112, 58, 47, 47, 119, 119, 119, 46, 119, 51, 46, 111, 114, 103, 47, 50, 48, 48, 49, 47, 88, 77, 76, 83, 99, 104, 101, 109, 97, 35, 105, 110, 116, 101, 103, 101, 114]⟩] 23
  have HW := Lib.hid (HT.out.below ((Below.refl wn.heap.size wn).alloc (Nat.le_refl _) (.cells #[.int .i64 3, .string ⟨#[48]⟩, .string ⟨#[]⟩, .string ⟨#[104, 116, 116, 112, 58, 47, 47, 119, 119, 119, 46, 119, 51, 46, 111, 114, 103, 47, 50, 48, 48, 49, 47, 88, 77, 76, 83, 99, 104, 101, 109, 97, 35, 105, 110, 116, 101, 103, 101, 114]⟩, .int .i64 3, .string ⟨#[49]⟩, .string ⟨#[]⟩, .string ⟨#[104, 116, 116, 112, 58, 47, 47, 119, 119, 119, 46, 119, 51, 46, 111, 114, 103, 47, 50, 48, 48, 49, 47, 88, 77, 76, 83, 99, 104, 101, 109, 97, 35, 105, 110, 116, 101, 103, 101, 114]⟩, .int .i64 3, .string ⟨#[45, 55]⟩, .string ⟨#[]⟩, .string ⟨#[104, 116, 116, 112, 58, 47, 47, 119, 119, 119, 46, 119, 51, 46, 111, 114, 103, 47, 50, 48, 48, 49, 47, 88, 77, 76, 83, 99, 104, 101, 109, 97, 35, 105, 110, 116, 101, 103, 101, 114]⟩, .int .i64 3, .string ⟨#[48, 48, 55]⟩, .string ⟨#[]⟩, .string ⟨#[104, 116, 116, 112, 58, 47, 47, 119, 119, 119, 46, 119, 51, 46, 111, 114, 103, 47, 50, 48, 48, 49, 47, 88, 77, 76, 83, 99, 104, 101, 109, 97, 35, 105, 110, 116, 101, 103, 101, 114]⟩, .int .i64 3, .string ⟨#[49, 46, 48]⟩, .string ⟨#[]⟩, .string ⟨#[104, 116, 116, 112, 58, 47, 47, 119, 119, 119, 46, 119, 51, 46, 111, 114, 103, 47, 50, 48, 48, 49, 47, 88, 77, 76, 83, 99, 104, 101, 109, 97, 35, 100, 101, 99, 105, 109, 97, 108]⟩, .int .i64 3, .string ⟨#[50, 46, 53, 48]⟩, .string ⟨#[]⟩, .string ⟨#[104, 116, 116, 112, 58, 47, 47, 119, 119, 119, 46, 119, 51, 46, 111, 114, 103, 47, 50, 48, 48, 49, 47, 88, 77, 76, 83, 99, 104, 101, 109, 97, 35, 100, 101, 99, 105, 109, 97, 108]⟩, .int .i64 3, .string ⟨#[57, 57, 57, 57, 57, 57, 57, 57, 57, 57, 57, 57, 57, 57, 57]⟩, .string ⟨#[]⟩, .string ⟨#[104, 116, 116, 112, 58, 47, 47, 119, 119, 119, 46, 119, 51, 46, 111, 114, 103, 47, 50, 48, 48, 49, 47, 88, 77, 76, 83, 99, 104, 101, 109, 97, 35, 105, 110, 116, 101, 103, 101, 114]⟩, .int .i64 3, .string ⟨#[120]⟩, .string ⟨#[]⟩, .string ⟨#[104, 116, 116, 112, 58, 47, 47, 119, 119, 119, 46, 119, 51, 46, 111, 114, 103, 47, 50, 48, 48, 49, 47, 88, 77, 76, 83, 99, 104, 101, 109, 97, 35, 105, 110, 116, 101, 103, 101, 114]⟩, .int .i64 3, .string ⟨#[49, 46, 53]⟩, .string ⟨#[]⟩, .string ⟨#[104, 116, 116, 112, 58, 47, 47, 119, 119, 119, 46, 119, 51, 46, 111, 114, 103, 47, 50, 48, 48, 49, 47, 88, 77, 76, 83, 99, 104, 101, 109, 97, 35, 105, 110, 116, 101, 103, 101, 114]⟩, .int .i64 3, .string ⟨#[97]⟩, .string ⟨#[]⟩, .string ⟨#[]⟩, .int .i64 3, .string ⟨#[97, 98]⟩, .string ⟨#[]⟩, .string ⟨#[]⟩, .int .i64 3, .string ⟨#[]⟩, .string ⟨#[]⟩, .string ⟨#[]⟩, .int .i64 3, .string ⟨#[97]⟩, .string ⟨#[101, 110]⟩, .string ⟨#[]⟩, .int .i64 3, .string ⟨#[97]⟩, .string ⟨#[100, 101]⟩, .string ⟨#[]⟩, .int .i64 3, .string ⟨#[116, 114, 117, 101]⟩, .string ⟨#[]⟩, .string ⟨#[104, 116, 116, 112, 58, 47, 47, 119, 119, 119, 46, 119, 51, 46, 111, 114, 103, 47, 50, 48, 48, 49, 47, 88, 77, 76, 83, 99, 104, 101, 109, 97, 35, 98, 111, 111, 108, 101, 97, 110]⟩, .int .i64 3, .string ⟨#[102, 97, 108, 115, 101]⟩, .string ⟨#[]⟩, .string ⟨#[104, 116, 116, 112, 58, 47, 47, 119, 119, 119, 46, 119, 51, 46, 111, 114, 103, 47, 50, 48, 48, 49, 47, 88, 77, 76, 83, 99, 104, 101, 109, 97, 35, 98, 111, 111, 108, 101, 97, 110]⟩, .int .i64 3, .string ⟨#[109, 97, 121, 98, 101]⟩, .string ⟨#[]⟩, .string ⟨#[104, 116, 116, 112, 58, 47, 47, 119, 119, 119, 46, 119, 51, 46, 111, 114, 103, 47, 50, 48, 48, 49, 47, 88, 77, 76, 83, 99, 104, 101, 109, 97, 35, 98, 111, 111, 108, 101, 97, 110]⟩, .int .i64 3, .string ⟨#[97]⟩, .string ⟨#[]⟩, .string ⟨#[116, 58, 116]⟩, .int .i64 3, .string ⟨#[98]⟩, .string ⟨#[]⟩, .string ⟨#[116, 58, 116]⟩, .int .i64 1, .string ⟨#[97]⟩, .string ⟨#[]⟩, .string ⟨#[]⟩, .int .i64 1, .string ⟨#[98]⟩, .string ⟨#[]⟩, .string ⟨#[]⟩, .int .i64 2, .string ⟨#[97]⟩, .string ⟨#[]⟩, .string ⟨#[]⟩, .int .i64 3, .string ⟨#[48, 46, 48, 48, 48, 48, 48, 49]⟩, .string ⟨#[]⟩, .string ⟨#[104, 116, 116, 112, 58, 47, 47, 119, 119, 119, 46, 119, 51, 46, 111, 114, 103, 47, 50, 48, 48, 49, 47, 88, 77, 76, 83, 99, 104, 101, 109, 97, 35, 100, 101, 99, 105, 109, 97, 108]⟩, .int .i64 3, .string ⟨#[45, 48]⟩, .string ⟨#[]⟩, .string ⟨#[104, 116, 116, 112, 58, 47, 47, 119, 119, 119, 46, 119, 51, 46, 111, 114, 103, 47, 50, 48, 48, 49, 47, 88, 77, 76, 83, 99, 104, 101, 109, 97, 35, 105, 110, 116, 101, 103, 101, 114]⟩] 23)))
  generalize World.alloc wn (.cells #[.int .i64 3, .string ⟨#[48]⟩, .string ⟨#[]⟩, .string ⟨#[104, 116, 116, 112, 58, 47, 47, 119, 119, 119, 46, 119, 51, 46, 111, 114, 103, 47, 50, 48, 48, 49, 47, 88, 77, 76, 83, 99, 104, 101, 109, 97, 35, 105, 110, 116, 101, 103, 101, 114]⟩, .int .i64 3, .string ⟨#[49]⟩, .string ⟨#[]⟩, .string ⟨#[104, 116, 116, 112, 58, 47, 47, 119, 119, 119, 46, 119, 51, 46, 111, 114, 103, 47, 50, 48, 48, 49, 47, 88, 77, 76, 83, 99, 104, 101, 109, 97, 35, 105, 110, 116, 101, 103, 101, 114]⟩, .int .i64 3, .string ⟨#[45, 55]⟩, .string ⟨#[]⟩, .string ⟨#[104, 116, 116, 112, 58, 47, 47, 119, 119, 119, 46, 119, 51, 46, 111, 114, 103, 47, 50, 48, 48, 49, 47, 88, 77, 76, 83, 99, 104, 101, 109, 97, 35, 105, 110, 116, 101, 103, 101, 114]⟩, .int .i64 3, .string ⟨#[48, 48, 55]⟩, .string ⟨#[]⟩, .string ⟨#[104, 116, 116, 112, 58, 47, 47, 119, 119, 119, 46, 119, 51, 46, 111, 114, 103, 47, 50, 48, 48, 49, 47, 88, 77, 76, 83, 99, 104, 101, 109, 97, 35, 105, 110, 116, 101, 103, 101, 114]⟩, .int .i64 3, .string ⟨#[49, 46, 48]⟩, .string ⟨#[]⟩, .string ⟨#[104, 116, 116, 112, 58, 47, 47, 119, 119, 119, 46, 119, 51, 46, 111, 114, 103, 47, 50, 48, 48, 49, 47, 88, 77, 76, 83, 99, 104, 101, 109, 97, 35, 100, 101, 99, 105, 109, 97, 108]⟩, .int .i64 3, .string ⟨#[50, 46, 53, 48]⟩, .string ⟨#[]⟩, .string ⟨#[104, 116, 116, 112, 58, 47, 47, 119, 119, 119, 46, 119, 51, 46, 111, 114, 103, 47, 50, 48, 48, 49, 47, 88, 77, 76, 83, 99, 104, 101, 109, 97, 35, 100, 101, 99, 105, 109, 97, 108]⟩, .int .i64 3, .string ⟨#[57, 57, 57, 57, 57, 57, 57, 57, 57, 57, 57, 57, 57, 57, 57]⟩, .string ⟨#[]⟩, .string ⟨#[104, 116, 116, 112, 58, 47, 47, 119, 119, 119, 46, 119, 51, 46, 111, 114, 103, 47, 50, 48, 48, 49, 47, 88, 77, 76, 83, 99, 104, 101, 109, 97, 35, 105, 110, 116, 101, 103, 101, 114]⟩, .int .i64 3, .string ⟨#[120]⟩, .string ⟨#[]⟩, .string ⟨#[104, 116, 116, 112, 58, 47, 47, 119, 119, 119, 46, 119, 51, 46, 111, 114, 103, 47, 50, 48, 48, 49, 47, 88, 77, 76, 83, 99, 104, 101, 109, 97, 35, 105, 110, 116, 101, 103, 101, 114]⟩, .int .i64 3, .string ⟨#[49, 46, 53]⟩, .string ⟨#[]⟩, .string ⟨#[104, 116, 116, 112, 58, 47, 47, 119, 119, 119, 46, 119, 51, 46, 111, 114, 103, 47, 50, 48, 48, 49, 47, 88, 77, 76, 83, 99, 104, 101, 109, 97, 35, 105, 110, 116, 101, 103, 101, 114]⟩, .int .i64 3, .string ⟨#[97]⟩, .string ⟨#[]⟩, .string ⟨#[]⟩, .int .i64 3, .string ⟨#[97, 98]⟩, .string ⟨#[]⟩, .string ⟨#[]⟩, .int .i64 3, .string ⟨#[]⟩, .string ⟨#[]⟩, .string ⟨#[]⟩, .int .i64 3, .string ⟨#[97]⟩, .string ⟨#[101, 110]⟩, .string ⟨#[]⟩, .int .i64 3, .string ⟨#[97]⟩, .string ⟨#[100, 101]⟩, .string ⟨#[]⟩, .int .i64 3, .string ⟨#[116, 114, 117, 101]⟩, .string ⟨#[]⟩, .string ⟨#[104, 116, 116, 112, 58, 47, 47, 119, 119, 119, 46, 119, 51, 46, 111, 114, 103, 47, 50, 48, 48, 49, 47, 88, 77, 76, 83, 99, 104, 101, 109, 97, 35, 98, 111, 111, 108, 101, 97, 110]⟩, .int .i64 3, .string ⟨#[102, 97, 108, 115, 101]⟩, .string ⟨#[]⟩, .string ⟨#[104, 116, 116, 112, 58, 47, 47, 119, 119, 119, 46, 119, 51, 46, 111, 114, 103, 47, 50, 48, 48, 49, 47, 88, 77, 76, 83, 99, 104, 101, 109, 97, 35, 98, 111, 111, 108, 101, 97, 110]⟩, .int .i64 3, .string ⟨#[109, 97, 121, 98, 101]⟩, .string ⟨#[]⟩, .string ⟨#[104, 116, 116, 112, 58, 47, 47, 119, 119, 119, 46, 119, 51, 46, 111, 114, 103, 47, 50, 48, 48, 49, 47, 88, 77, 76, 83, 99, 104, 101, 109, 97, 35, 98, 111, 111, 108, 101, 97, 110]⟩, .int .i64 3, .string ⟨#[97]⟩, .string ⟨#[]⟩, .string ⟨#[116, 58, 116]⟩, .int .i64 3, .string ⟨#[98]⟩, .string ⟨#[]⟩, .string ⟨#[116, 58, 116]⟩, .int .i64 1, .string ⟨#[97]⟩, .string ⟨#[]⟩, .string ⟨#[]⟩, .int .i64 1, .string ⟨#[98]⟩, .string ⟨#[]⟩, .string ⟨#[]⟩, .int .i64 2, .string ⟨#[97]⟩, .string ⟨#[]⟩, .string ⟨#[]⟩, .int .i64 3, .string ⟨#[48, 46, 48, 48, 48, 48, 48, 49]⟩, .string ⟨#[]⟩, .string ⟨#[104, 116, 116, 112, 58, 47, 47, 119, 119, 119, 46, 119, 51, 46, 111, 114, 103, 47, 50, 48, 48, 49, 47, 88, 77, 76, 83, 99, 104, 101, 109, 97, 35, 100, 101, 99, 105, 109, 97, 108]⟩, .int .i64 3, .string ⟨#[45, 48]⟩, .string ⟨#[]⟩, .string ⟨#[104, 116, 116, 112, 58, 47, 47, 119, 119, 119, 46, 119, 51, 46, 111, 114, 103, 47, 50, 48, 48, 49, 47, 88, 77, 76, 83, 99, 104, 101, 109, 97, 35, 105, 110, 116, 101, 103, 101, 114]⟩] 23) = wt at hblk HW ⊢
  have hcell : ∀ k (h : k < 24), wt.cell? ⟨wn.heap.size, k * 4, none⟩ = some (.int .i64 (termsT[k]'h).k) ∧ wt.cell? ⟨wn.heap.size, k * 4 + 1, none⟩ = some (.string (termsT[k]'h).s) ∧ wt.cell? ⟨wn.heap.size, k * 4 + 2, none⟩ = some (.string (termsT[k]'h).l) ∧ wt.cell? ⟨wn.heap.size, k * 4 + 3, none⟩ = some (.string (termsT[k]'h).t) := by
    intro k h
    rw [hblk.cell, hblk.cell, hblk.cell, hblk.cell]
    rcases (show k = 0 ∨ k = 1 ∨ k = 2 ∨ k = 3 ∨ k = 4 ∨ k = 5 ∨ k = 6 ∨ k = 7 ∨ k = 8 ∨ k = 9 ∨ k = 10 ∨ k = 11 ∨ k = 12 ∨ k = 13 ∨ k = 14 ∨ k = 15 ∨ k = 16 ∨ k = 17 ∨ k = 18 ∨ k = 19 ∨ k = 20 ∨ k = 21 ∨ k = 22 ∨ k = 23 by omega) with rfl | rfl | rfl | rfl | rfl | rfl | rfl | rfl | rfl | rfl | rfl | rfl | rfl | rfl | rfl | rfl | rfl | rfl | rfl | rfl | rfl | rfl | rfl | rfl
    all_goals exact ⟨rfl, rfl, rfl, rfl⟩
  clear hblk
  refine (HI.out _).mono ?_
  rintro e w3 ⟨rfl, rfl⟩
  obtain ⟨hh, hv⟩ := HV.out
  obtain ⟨c0, c1, c2, c3⟩ := hcell k hh
  rw [← hv] at c0 c1 c2 c3
  have hk1 : (k : Int) < 24 := by omega
  obtain ⟨hb0, hlt, ⟨xz, hlz, kz0, kz1, kz2, kz3⟩, fz⟩ := HW.out
  have fz0 := fz 0
  have fz1 := fz 1
  have fz2 := fz 2
  have fz3 := fz 3
  clear fz hcell HT hv hh HV HU HI HK hb0
  go_wp2_with fail
  refine bodyPost_ret (v := .agg #[.int .i64 V.k, .string V.s, .string V.l, .string V.t]) (by simp [results, Tryd.results7, go_sem, kz0, kz1, kz2, kz3]) rfl ⟨rfl, HW.out.put _ _ _ _⟩
end Go.Proofs.YtdlfoinpjbcodaaDoor
