/- The pager: Free. -/
import Derived.Test.YtcnfnpccbnnplaaPgEnd
namespace Go.Proofs.Ytcnfnpccbnnplaa
open Go.RowKit Go.Maps
set_option maxRecDepth 100000

/-- How many of the numbers behind the first are not 0, among the first k. -/
def freesTo (L : List Int) (k : Nat) : Nat := (((L.take k).drop 1).filter (· != 0)).length
def frees (L : List Int) : Nat := ((L.drop 1).filter (· != 0)).length
theorem freesTo_zero (L : List Int) : freesTo L 0 = 0 := by simp [freesTo]
theorem freesTo_all (L : List Int) : freesTo L L.length = frees L := by simp [freesTo, frees]
theorem freesTo_succ (L : List Int) (k : Nat) (hk : k < L.length) : freesTo L (k + 1) = freesTo L k + if 0 < k ∧ L[k] ≠ 0 then 1 else 0 := by
  unfold freesTo
  rw [List.take_succ_eq_append_getElem hk]
  by_cases h0 : k = 0
  · subst h0
    simp
  · rw [List.drop_append_of_le_length (by rw [List.length_take]; omega), List.filter_append, List.length_append]
    congr 1
    by_cases hx : L[k] = 0
    · simp [hx]
    · have : 0 < k := by omega
      simp [hx, this]
theorem freesTo_le (L : List Int) (k : Nat) : freesTo L k ≤ k := by
  unfold freesTo
  refine Nat.le_trans (List.length_filter_le _ _) ?_
  rw [List.length_drop, List.length_take]
  omega

theorem free_any {w : World} {Q : Nat → Prop} {r p : Nat} {S : Stt} {T : Option Tx} (h : Pg w Q r p S T) :
    Calls Try.prog 36 #[.pointer (some ⟨p, 0, none⟩)] w fun e w' => e = .returned (.int .i64 (frees S.next)) ∧ w' = w := by
  obtain ⟨gn, cn, wr, vw, mv, h, -⟩ := h.cells
  obtain ⟨-, -, c2, -⟩ := h.cells
  obtain ⟨L, hL⟩ : ∃ L, L = S.next := ⟨_, rfl⟩
  have hmx := h.max
  unfold maxLen at hmx
  have hcp := h.cap
  have hrow := h.row
  rw [← hL] at c2 hcp hrow ⊢
  obtain ⟨n, hn⟩ : ∃ n, n = L.length := ⟨_, rfl⟩
  have HN := Lib.hid hn
  have HR := Lib.hid hrow
  have HF := Lib.hid (freesTo_all L)
  rw [← hn] at c2 hcp
  clear h hn hL hrow
  go_enter Try.func36, Try.ntmps36
  go_wp2_with fail
  go_loop [3, 4, 5, 12] (fun c _ _ i => ∃ k : Nat, k ≤ n ∧ i = .int .i64 k ∧ c = .int .i64 (freesTo L k)) (fun _ _ _ i => n - (intOf i).toNat)
  case atStart => exact ⟨0, Nat.zero_le _, rfl, by rw [freesTo_zero]; rfl⟩
  case round =>
    obtain ⟨k, hk, rfl, rfl⟩ := hrel
    have hfl := freesTo_le L k
    by_cases hlt : k < n
    · have hkl : k < L.length := by rw [← HN.out]; exact hlt
      have ck := HR.out.cell k hkl
      have hs := freesTo_succ L k hkl
      obtain ⟨x, hx⟩ : ∃ x, x = L[k] := ⟨_, rfl⟩
      rw [← hx] at ck hs
      obtain ⟨c, hc⟩ : ∃ c, c = freesTo L k := ⟨_, rfl⟩
      rw [← hc] at hs hfl ⊢
      have HS := Lib.hid hs
      clear hs hx hc
      by_cases h0 : k = 0
      · subst h0
        go_wp2_with fail
        go_round
        case rel => exact ⟨1, by omega, by go_num, by rw [HS.out, if_neg (by omega)]; rfl⟩
        case measure => simp [intOf]; omega
      · have h0' : (0 : Int) < k := by omega
        by_cases hx : x = 0
        · have hx' : (x != 0) = false := by simp [hx]
          go_wp2_with fail
          go_round
          case rel => exact ⟨k + 1, by omega, by go_num, by rw [HS.out, if_neg (fun h => h.2 hx)]; rfl⟩
          case measure => simp [intOf]; omega
        · have hx' : (x != 0) = true := by simp [hx]
          go_wp2_with fail
          go_round
          case rel => exact ⟨k + 1, by omega, by go_num, by rw [HS.out, if_pos ⟨by omega, hx⟩]; go_num⟩
          case measure => simp [intOf]; omega
    · obtain rfl : k = n := by omega
      have hf : freesTo L k = frees L := by have h1 := HF.out; rw [← HN.out] at h1; exact h1
      rw [hf]
      go_wp2_with fail
      go_ret
      exact ⟨rfl, rfl⟩
end Go.Proofs.Ytcnfnpccbnnplaa
