/- Gg -/
import Derived.Test.YtbpdapcmaioeiaaGreatKGf
import Derived.WalkArith
import Derived.Deep.DeepMust
import Derived.ChangeKeysEq
namespace Go.Proofs.YtbpdapcmaioeiaaGreat
open Go.RowKit Go.Maps
set_option maxRecDepth 100000
/-- How many of the numbers behind the first are not 0, among the first k. -/
def freesTo (L : List Int) (k : Nat) : Nat := (((L.take k).drop 1).filter (· != 0)).length
def frees (L : List Int) : Nat := ((L.drop 1).filter (· != 0)).length
theorem freesTo_zero (L : List Int) : freesTo L 0 = 0 := by simp [freesTo]
theorem freesTo_all (L : List Int) : freesTo L L.length = frees L := by simp [freesTo, frees]
theorem freesTo_succ (L : List Int) (k : Nat) (hk : k < L.length) : freesTo L (k + 1) = freesTo L k + if 0 < k ∧ L[k] ≠ 0 then 1 else 0 := by
 unfold freesTo
 rw [List.take_succ_eq_append_getElem hk]
 by_cases h0 : k = 0
 ·subst h0
  simp
 ·rw [List.drop_append_of_le_length (by rw [List.length_take]; omega), List.filter_append, List.length_append]
  congr 1
  by_cases hx : L[k] = 0
  ·simp [hx]
  ·have : 0 < k := by omega
   simp [hx, this]
theorem freesTo_le (L : List Int) (k : Nat) : freesTo L k ≤ k := by
 unfold freesTo
 refine Nat.le_trans (List.length_filter_le _ _) ?_
 rw [List.length_drop, List.length_take]
 omega
theorem free_any {w : World} {Q : Nat → Prop} {r p : Nat} {S : Stt} {T : Option Tx} (h : Pg w Q r p S T) :
 Calls Tryz.prog 31 #[.pointer (some ⟨p, 0, none⟩)] w fun e w' => e = .returned (.int .i64 (frees S.next)) ∧ w' = w := by
 obtain ⟨gn, cn, wr, vw, mv, h, -⟩ := h.cells
 obtain ⟨-, -, c2, -⟩ := h.cells
 obtain ⟨L, hL⟩ : ∃ L, L = S.next := ⟨_, rfl⟩
 have hmx := h.max
 unfold maxLen at hmx
 have hcp := h.cap
 have hrow := h.row
 rw [← hL] at c2 hcp hrow ⊢
 obtain ⟨n, hn⟩ : ∃ n, n = L.length := ⟨_, rfl⟩
 have HN := Lib.hid hn
 have HR := Lib.hid hrow
 have HF := Lib.hid (freesTo_all L)
 rw [← hn] at c2 hcp
 clear h hn hL hrow
 go_enter Tryz.func31, Tryz.ntmps31
 go_wp2_with fail
 go_loop [3, 4, 5, 12] (fun c _ _ i => ∃ k : Nat, k ≤ n ∧ i = .int .i64 k ∧ c = .int .i64 (freesTo L k)) (fun _ _ _ i => n - (intOf i).toNat)
 case atStart => exact ⟨0, Nat.zero_le _, rfl, by rw [freesTo_zero]; rfl⟩
 case round =>
  obtain ⟨k, hk, rfl, rfl⟩ := hrel
  have hfl := freesTo_le L k
  by_cases hlt : k < n
  ·have hkl : k < L.length := by rw [← HN.out]; exact hlt
   have ck := HR.out.cell k hkl
   have hs := freesTo_succ L k hkl
   obtain ⟨x, hx⟩ : ∃ x, x = L[k] := ⟨_, rfl⟩
   rw [← hx] at ck hs
   obtain ⟨c, hc⟩ : ∃ c, c = freesTo L k := ⟨_, rfl⟩
   rw [← hc] at hs hfl ⊢
   have HS := Lib.hid hs
   clear hs hx hc
   by_cases h0 : k = 0
   ·subst h0
    go_wp2_with fail
    go_round
    case rel => exact ⟨1, by omega, by go_num, by rw [HS.out, if_neg (by omega)]; rfl⟩
    case measure => simp [intOf]; omega
   ·have h0' : (0 : Int) < k := by omega
    by_cases hx : x = 0
    ·have hx' : (x != 0) = false := by simp [hx]
     go_wp2_with fail
     go_round
     case rel => exact ⟨k + 1, by omega, by go_num, by rw [HS.out, if_neg (fun h => h.2 hx)]; rfl⟩
     case measure => simp [intOf]; omega
    ·have hx' : (x != 0) = true := by simp [hx]
     go_wp2_with fail
     go_round
     case rel => exact ⟨k + 1, by omega, by go_num, by rw [HS.out, if_pos ⟨by omega, hx⟩]; go_num⟩
     case measure => simp [intOf]; omega
  ·obtain rfl : k = n := by omega
   have hf : freesTo L k = frees L := by have h1 := HF.out; rw [← HN.out] at h1; exact h1
   rw [hf]
   go_wp2_with fail
   go_ret
   exact ⟨rfl, rfl⟩
end Go.Proofs.YtbpdapcmaioeiaaGreat
namespace Go.Proofs.YtbpdapcmaioeiaaGreat
open Go.RowKit Go.Maps
set_option maxRecDepth 100000
theorem drop_bad {w : World} {Q : Nat → Prop} {r p : Nat} {S : Stt} {T : Option Tx} (h : Pg w Q r p S T) (i : Int) (hbad : pfaultOf S T i ≠ 0) :
 Calls Tryz.prog 90 #[.pointer (some ⟨p, 0, none⟩), .int .i64 i] w fun e w' => e = .returned (.int .i64 (pfaultOf S T i)) ∧ w' = w := by
 have hf := pfault_any h i
 obtain ⟨f, hF⟩ : ∃ f, f = pfaultOf S T i := ⟨_, rfl⟩
 rw [← hF] at hbad hf ⊢
 have hb : (f != 0) = true := by simpa using hbad
 clear h hF hbad
 go_enter Tryz.func90, Tryz.ntmps90
 go_wp2_with fail
 refine wp_scope_jumps 0 (fun a' w' => ∃ u0 u1 u2 u3 u4 u6 u7 u8 u9 u10 u11 u12 u13 u14 u15 u16 u17 u18 u19 u20 u21 u22 u23 u24 u25 u26 u27 u28 u29 u30 u31 u32 u33 u34 u35 u36 u37 : Value, a' = { tmps := #[u0, u1, u2, u3, u4, .int .i64 f, u6, u7, u8, u9, u10, u11, u12, u13, u14, u15, u16, u17, u18, u19, u20, u21, u22, u23, u24, u25, u26, u27, u28, u29, u30, u31, u32, u33, u34, u35, u36, u37], defers := [] } ∧ w' = w) (fun _ _ => 0) rfl ?_ ?_
 ·go_wp2_with (first | (refine hf.mono ?_; rintro e w' ⟨rfl, rfl⟩) | fail)
  go_step3
  exact ⟨rfl, ⟨_, _, _, _, _, _, _, _, _, _, _, _, _, _, _, _, _, _, _, _, _, _, _, _, _, _, _, _, _, _, _, _, _, _, _, _, _, rfl, rfl⟩⟩
 ·rintro a' w' ⟨u0, u1, u2, u3, u4, u6, u7, u8, u9, u10, u11, u12, u13, u14, u15, u16, u17, u18, u19, u20, u21, u22, u23, u24, u25, u26, u27, u28, u29, u30, u31, u32, u33, u34, u35, u36, u37, rfl, rfl⟩
  go_wp2
  simp only [Exit.jump]
  go_ret
  exact ⟨rfl, rfl⟩
def Tx.drop (t : Tx) (i : Int) : Tx := { t with f := fun j => if j = i then none else t.f j, n := if (t.f i).isSome then t.n - 1 else t.n }
theorem drop_good {w : World} {Q : Nat → Prop} {r p : Nat} {S : Stt} {t : Tx} (h : Pg w Q r p S (some t)) (i : Nat) (h0 : absentOf S i = 0) (hn : 0 < S.next.length) :
 Calls Tryz.prog 90 #[.pointer (some ⟨p, 0, none⟩), .int .i64 i] w fun e w' => e = .returned (.int .i64 0) ∧ PgTo w Q w' r p { S with next := (S.next.set 0 i).set i (S.next.getD 0 0) } (some (t.drop i)) := by
 have hf := pfault_any h i
 have e0 : pfaultOf S (some t) i = 0 := h0
 rw [e0] at hf
 have hi : i < S.next.length := by
  unfold absentOf at h0
  split at h0
  ·omega
  ·cases h0
 obtain ⟨gn, cn, gw, cw, b, h, k⟩ := h
 obtain ⟨-, -, c2, -, -, c5⟩ := h.cells
 have hmx := h.max
 unfold maxLen at hmx
 have hcp := h.cap
 have d0 := h.row.cell 0 hn
 have di : w.cell? ⟨gn, i, none⟩ = some (.int .i64 S.next[i]) := h.row.cell i hi
 obtain ⟨x, hx⟩ : ∃ x, x = S.next[0] := ⟨_, rfl⟩
 obtain ⟨y, hy⟩ : ∃ y, y = S.next[i] := ⟨_, rfl⟩
 have ex : S.next.getD 0 0 = x := by rw [hx]; simp [List.getD, hn]
 rw [ex]
 rw [← hx] at d0
 rw [← hy] at di
 have g0 := h.row.frozen 0
 have gi := h.row.frozen i
 have hgp : gn ≠ p := h.ne
 have hrow := (h.row.set 0 i).set i x
 have hm : Moved (· = gn) w ((w.setCell ⟨gn, 0, none⟩ (.int .i64 i)).setCell ⟨gn, i, none⟩ (.int .i64 x)) := ((Moved.refl (· = gn) w).setCell ⟨gn, 0, none⟩ _ (.inl rfl)).setCell ⟨gn, i, none⟩ _ (.inl rfl)
 have hwf : (Lit.int .i64 (i : Int)).wf = true := WalkArith.wf_i64 (by omega)
 have hmd : Moved (· = gn) w (((w.setCell ⟨gn, 0, none⟩ (.int .i64 i)).setCell ⟨gn, i, none⟩ (.int .i64 x)).drew) := (((Moved.refl (· = gn) w).setCell ⟨gn, 0, none⟩ _ (.inl rfl)).setCell ⟨gn, i, none⟩ _ (.inl rfl)).drew
 have hrow : IRow (((w.setCell ⟨gn, 0, none⟩ (.int .i64 i)).setCell ⟨gn, i, none⟩ (.int .i64 x)).drew) gn ((S.next.set 0 i).set i x) := by
  obtain ⟨cur, q1, q2⟩ := h.row
  obtain ⟨cur', q3, q4⟩ := IRow.set (IRow.set ⟨cur, q1, q2⟩ 0 i) i x
  exact ⟨cur', q3.drew, q4⟩
 obtain ⟨w2, hup, him, htu⟩ := (k.map.moved hmd k.b2).drop hwf 0
 have hmt : Moved (fun j => j = gn ∨ j = b) w w2 := (hmd.mono (fun _ h => .inl h)).trans htu (fun _ h => .inl (.inr h))
 have H : Hid (PgTo w Q w2 r p { S with next := (S.next.set 0 i).set i x } (some (t.drop i))) := Lib.hid ⟨Q, ⟨gn, cn, gw, cw, b, ⟨by
  have := h.top.moved hmt (fun e => e.elim (fun e => hgp e.symm) (fun e => k.b1 e.symm))
  simp only [List.length_set]
  exact this, hrow.moved htu (fun e => k.b2 e.symm), by simpa using h.cap, h.max, h.qp, h.qn, h.ne⟩, ⟨k.row.moved hmt (fun e => e.elim (fun e => k.w2 e) (fun e => k.b3 e.symm)), k.cap, k.max, him, k.qw, k.qb, k.w1, k.w2, k.b1, k.b2, k.b3⟩⟩, hmt.mono (fun j hj => hj.elim (fun e => e ▸ h.qn) (fun e => e ▸ k.qb)), fun _ h => .inl h⟩
 obtain ⟨n, hnn⟩ : ∃ n, n = S.next.length := ⟨_, rfl⟩
 rw [← hnn] at c2 hcp hi hn
 have D0 := Lib.hid d0
 have DI := Lib.hid di
 have hin : (i : Int) < n := by omega
 have hn0 : (0 : Int) < n := by omega
 have f0 : w.drew.frozen? ⟨gn, 0, none⟩ = false := g0
 have fi : (w.drew.setCell ⟨gn, 0, none⟩ (.int .i64 i)).frozen? ⟨gn, i, none⟩ = false := by go_simp
 have hs2 : ∃ z, (w.setCell ⟨gn, 0, none⟩ (.int .i64 i)).cell? ⟨gn, i, none⟩ = some z := cell?_setCell_some (w := w) (p := ⟨gn, 0, none⟩) (x := .int .i64 i) (q := ⟨gn, i, none⟩) (v := .int .i64 y) di
 obtain ⟨z, hz⟩ := hs2
 have hnp : w.cell? ⟨p, 5, none⟩ = some (.map (some b)) → (((w.setCell ⟨gn, 0, none⟩ (.int .i64 i)).setCell ⟨gn, i, none⟩ (.int .i64 x)).drew).cell? ⟨p, 5, none⟩ = some (.map (some b)) := fun e => by
  rw [World.cell?_of_block (w := w) (hmd.block p h.top.lt (fun e => hgp e.symm))]; exact e
 have c5' := hnp c5
 have HGP := Lib.hid hgp
 have HDM := Lib.hid hmd
 have HLT := Lib.hid h.top.lt
 have HC2 := Lib.hid c2
 clear h k hm him htu hmt hrow hnp e0 h0 ex hx hy hnn hmd hwf hgp
 go_enter Tryz.func90, Tryz.ntmps90
 go_wp2_with fail
 go_step3
 go_wp2_with (first | (refine hf.mono ?_; rintro e w' ⟨rfl, he⟩; replace he := he.symm; subst he) | fail)
 refine wp_region_any (by kernel_rfl) ?_
 change wpAny _ _ _ _ _ _ _ (World.drew _)
 refine wpAny_of_held (S := fun (w' : World) => w'.cell? ⟨p, 2, none⟩ = some (.slice (some ⟨gn, 0, none⟩) n cn)) _ _ _ _ ?_
 have hS : (fun (w' : World) => w'.cell? ⟨p, 2, none⟩ = some (.slice (some ⟨gn, 0, none⟩) n cn)) _ := c2
 try simp only [Act.put, List.setIfInBounds_toArray, List.set_cons_zero, List.set_cons_succ]
 refine wpAnyH_take (i := 0) (oi := ⟨some 11, _, _, _, _, _⟩) (v := ?_) rfl (by kernel_rfl) (by kernel_rfl) (by kernel_rfl) (fun _ _ _ h => h) (Or.inl ⟨by simp only [Region.wanted], ?_⟩) hS ?_
 rotate_left
 ·intro wz hSw
  clear hSw
  go_simp
  first | done | with_reducible rfl
 try simp only [Act.put, List.setIfInBounds_toArray, List.set_cons_zero, List.set_cons_succ]
 refine wpAnyH_take (i := 1) (oi := ⟨some 12, _, _, _, _, _⟩) (v := ?_) rfl (by kernel_rfl) (by kernel_rfl) (by kernel_rfl) (fun _ _ _ h => h) (Or.inl ⟨by simp only [Region.wanted], ?_⟩) hS ?_
 rotate_left
 ·intro wz hSw
  clear hSw
  go_simp
  first | done | with_reducible rfl
 try simp only [Act.put, List.setIfInBounds_toArray, List.set_cons_zero, List.set_cons_succ]
 refine wpAnyH_take (i := 2) (oi := ⟨some 13, _, _, _, _, _⟩) (v := ?_) rfl (by kernel_rfl) (by kernel_rfl) (by kernel_rfl) (fun _ _ _ h => h) (Or.inl ⟨by simp only [Region.wanted], ?_⟩) hS ?_
 rotate_left
 ·intro wz hSw
  clear hSw
  go_simp
  first | done | with_reducible rfl
 try simp only [Act.put, List.setIfInBounds_toArray, List.set_cons_zero, List.set_cons_succ]
 refine wpAnyH_take (i := 3) (oi := ⟨some 14, _, _, _, _, _⟩) (v := ?_) rfl (by kernel_rfl) (by kernel_rfl) (by kernel_rfl) (fun _ _ _ h => h) (Or.inl ⟨by simp only [Region.wanted], ?_⟩) hS ?_
 rotate_left
 ·intro wz hSw
  clear hSw
  go_simp
  first | done | with_reducible rfl
 try simp only [Act.put, List.setIfInBounds_toArray, List.set_cons_zero, List.set_cons_succ]
 refine wpAnyH_take (i := 4) (oi := ⟨some 15, _, _, _, _, _⟩) (v := ?_) rfl (by kernel_rfl) (by kernel_rfl) (by kernel_rfl) (fun _ _ _ h => h) (Or.inl ⟨by simp only [Region.wanted], ?_⟩) hS ?_
 rotate_left
 ·intro wz hSw
  (try dsimp only at hSw)
  (try go_split_ands)
  go_simp
  first | done | with_reducible rfl
 try simp only [Act.put, List.setIfInBounds_toArray, List.set_cons_zero, List.set_cons_succ]
 refine wpAnyH_take (i := 5) (oi := ⟨some 16, _, _, _, _, _⟩) (v := ?_) rfl (by kernel_rfl) (by kernel_rfl) (by kernel_rfl) (fun _ _ _ h => h) (Or.inl ⟨by simp only [Region.wanted], ?_⟩) hS ?_
 rotate_left
 ·intro wz hSw
  clear hSw
  go_simp
  first | done | with_reducible rfl
 try simp only [Act.put, List.setIfInBounds_toArray, List.set_cons_zero, List.set_cons_succ]
 refine wpAnyH_take (i := 6) (oi := ⟨some 17, _, _, _, _, _⟩) (v := ?_) rfl (by kernel_rfl) (by kernel_rfl) (by kernel_rfl) (fun _ _ _ h => h) (Or.inl ⟨by simp only [Region.wanted], ?_⟩) hS ?_
 rotate_left
 ·intro wz hSw
  clear hSw
  go_simp
  first | done | with_reducible rfl
 try simp only [Act.put, List.setIfInBounds_toArray, List.set_cons_zero, List.set_cons_succ]
 refine wpAnyH_take (i := 7) (oi := ⟨some 18, _, _, _, _, _⟩) (v := ?_) rfl (by kernel_rfl) (by kernel_rfl) (by kernel_rfl) (fun _ _ _ h => h) (Or.inl ⟨by simp only [Region.wanted], ?_⟩) hS ?_
 rotate_left
 ·intro wz hSw
  clear hSw
  go_simp
  first | done | with_reducible rfl
 try simp only [Act.put, List.setIfInBounds_toArray, List.set_cons_zero, List.set_cons_succ]
 refine wpAnyH_take (i := 8) (oi := ⟨some 19, _, _, _, _, _⟩) (v := ?_) rfl (by kernel_rfl) (by kernel_rfl) (by kernel_rfl) (fun _ _ _ h => h) (Or.inl ⟨by simp only [Region.wanted], ?_⟩) hS ?_
 rotate_left
 ·intro wz hSw
  clear hSw
  go_simp
  first | done | with_reducible rfl
 try simp only [Act.put, List.setIfInBounds_toArray, List.set_cons_zero, List.set_cons_succ]
 refine wpAnyH_take (i := 9) (oi := ⟨some 20, _, _, _, _, _⟩) (v := ?_) rfl (by kernel_rfl) (by kernel_rfl) (by kernel_rfl) (fun _ _ _ h => h) (Or.inl ⟨by simp only [Region.wanted], ?_⟩) hS ?_
 rotate_left
 ·intro wz hSw
  (try dsimp only at hSw)
  (try go_split_ands)
  go_simp
  first | done | with_reducible rfl
 try simp only [Act.put, List.setIfInBounds_toArray, List.set_cons_zero, List.set_cons_succ]
 refine wpAnyH_take (i := 10) (oi := ⟨some 21, _, _, _, _, _⟩) (v := ?_) rfl (by kernel_rfl) (by kernel_rfl) (by kernel_rfl) (fun _ _ _ h => h) (Or.inl ⟨by simp only [Region.wanted], ?_⟩) hS ?_
 rotate_left
 ·intro wz hSw
  clear hSw
  go_simp
  first | done | with_reducible rfl
 try simp only [Act.put, List.setIfInBounds_toArray, List.set_cons_zero, List.set_cons_succ]
 refine wpAnyH_take (i := 11) (oi := ⟨some 22, _, _, _, _, _⟩) (v := ?_) rfl (by kernel_rfl) (by kernel_rfl) (by kernel_rfl) (fun _ _ _ h => h) (Or.inl ⟨by simp only [Region.wanted], ?_⟩) hS ?_
 rotate_left
 ·intro wz hSw
  clear hSw
  go_simp
  first | done | with_reducible rfl
 try simp only [Act.put, List.setIfInBounds_toArray, List.set_cons_zero, List.set_cons_succ]
 refine wpAnyH_take (i := 12) (oi := ⟨some 23, _, _, _, _, _⟩) (v := ?_) rfl (by kernel_rfl) (by kernel_rfl) (by kernel_rfl) (fun _ _ _ h => h) (Or.inl ⟨by simp only [Region.wanted], ?_⟩) hS ?_
 rotate_left
 ·intro wz hSw
  clear hSw
  go_simp
  first | done | with_reducible rfl
 try simp only [Act.put, List.setIfInBounds_toArray, List.set_cons_zero, List.set_cons_succ]
 refine wpAnyH_take (i := 13) (oi := ⟨some 24, _, _, _, _, _⟩) (v := ?_) rfl (by kernel_rfl) (by kernel_rfl) (by kernel_rfl) (fun _ _ _ h => h) (Or.inl ⟨by simp only [Region.wanted], ?_⟩) hS ?_
 rotate_left
 ·intro wz hSw
  clear hSw
  go_simp
  first | done | with_reducible rfl
 try simp only [Act.put, List.setIfInBounds_toArray, List.set_cons_zero, List.set_cons_succ]
 refine wpAnyH_take (i := 14) (oi := ⟨some 25, _, _, _, _, _⟩) (v := ?_) rfl (by kernel_rfl) (by kernel_rfl) (by kernel_rfl) (fun _ _ _ h => h) (Or.inl ⟨by simp only [Region.wanted], ?_⟩) hS ?_
 rotate_left
 ·intro wz hSw
  clear hSw
  go_simp
  first | done | with_reducible rfl
 try simp only [Act.put, List.setIfInBounds_toArray, List.set_cons_zero, List.set_cons_succ]
 refine wpAnyH_take (i := 15) (oi := ⟨some 26, _, _, _, _, _⟩) (v := ?_) rfl (by kernel_rfl) (by kernel_rfl) (by kernel_rfl) (fun _ _ _ h => h) (Or.inl ⟨by simp only [Region.wanted], ?_⟩) hS ?_
 rotate_left
 ·intro wz hSw
  clear hSw
  go_simp
  first | done | with_reducible rfl
 try simp only [Act.put, List.setIfInBounds_toArray, List.set_cons_zero, List.set_cons_succ]
 refine wpAnyH_take (i := 16) (oi := ⟨some 27, _, _, _, _, _⟩) (v := ?_) rfl (by kernel_rfl) (by kernel_rfl) (by kernel_rfl) (fun _ _ _ h => h) (Or.inl ⟨by simp only [Region.wanted], ?_⟩) hS ?_
 rotate_left
 ·intro wz hSw
  (try dsimp only at hSw)
  (try go_split_ands)
  go_simp
  first | done | with_reducible rfl
 try simp only [Act.put, List.setIfInBounds_toArray, List.set_cons_zero, List.set_cons_succ]
 refine wpAnyH_take (i := 17) (oi := ⟨some 28, _, _, _, _, _⟩) (v := ?_) rfl (by kernel_rfl) (by kernel_rfl) (by kernel_rfl) (fun _ _ _ h => h) (Or.inl ⟨by simp only [Region.wanted], ?_⟩) hS ?_
 rotate_left
 ·intro wz hSw
  clear hSw
  go_simp
  first | done | with_reducible rfl
 try simp only [Act.put, List.setIfInBounds_toArray, List.set_cons_zero, List.set_cons_succ]
 clear d0 di
 have d0 := D0.out
 refine wpAnyH_ready (rs := [18]) (by kernel_rfl) (by simp) ?_
 refine AllReadyH.cons (o := ⟨some 29, _, _, _, _, _⟩) rfl (fun K hK => ?_) AllReadyH.nil
 go_simp
 refine hK.out _ _ (c2) (fun hS => ?_)
 clear hK K
 try simp only [Act.put, List.setIfInBounds_toArray, List.set_cons_zero, List.set_cons_succ]
 refine wpAnyH_take (i := 19) (oi := ⟨some 30, _, _, _, _, _⟩) (v := ?_) rfl (by kernel_rfl) (by kernel_rfl) (by kernel_rfl) (fun _ _ _ h => h) (Or.inl ⟨by simp only [Region.wanted], ?_⟩) hS ?_
 rotate_left
 ·intro wz hSw
  clear hSw
  go_simp
  first | done | with_reducible rfl
 try simp only [Act.put, List.setIfInBounds_toArray, List.set_cons_zero, List.set_cons_succ]
 refine wpAnyH_ready (rs := [20]) (by kernel_rfl) (by simp) ?_
 refine AllReadyH.cons (o := ⟨none, _, _, _, _, _⟩) rfl (fun K hK => ?_) AllReadyH.nil
 go_simp
 refine hK.out _ _ ((World.cell?_of_block (a := ⟨p, 2, none⟩) (((Moved.refl (· = gn) w).drew.setCell ⟨gn, 0, none⟩ (.int .i64 i) (.inl rfl)).block p HLT.out (fun e => HGP.out e.symm))).trans HC2.out) (fun hS => ?_)
 clear hK K
 try simp only [Act.put, List.setIfInBounds_toArray, List.set_cons_zero, List.set_cons_succ]
 refine wpAnyH_take (i := 21) (oi := ⟨some 31, _, _, _, _, _⟩) (v := ?_) rfl (by kernel_rfl) (by kernel_rfl) (by kernel_rfl) (fun _ _ _ h => h) (Or.inl ⟨by simp only [Region.wanted], ?_⟩) hS ?_
 rotate_left
 ·intro wz hSw
  clear hSw
  go_simp
  first | done | with_reducible rfl
 try simp only [Act.put, List.setIfInBounds_toArray, List.set_cons_zero, List.set_cons_succ]
 refine wpAnyH_ready (rs := [22]) (by kernel_rfl) (by simp) ?_
 refine AllReadyH.cons (o := ⟨none, _, _, _, _, _⟩) rfl (fun K hK => ?_) AllReadyH.nil
 go_simp
 refine hK.out _ _ ((World.cell?_of_block (a := ⟨p, 2, none⟩) (HDM.out.block p HLT.out (fun e => HGP.out e.symm))).trans HC2.out) (fun hS => ?_)
 clear hK K
 try simp only [Act.put, List.setIfInBounds_toArray, List.set_cons_zero, List.set_cons_succ]
 refine wpAnyH_done (by kernel_rfl) ?_ _
 generalize ((w.setCell ⟨gn, 0, none⟩ (.int .i64 i)).setCell ⟨gn, i, none⟩ (.int .i64 x)).drew = wd at hup c5' ⊢
 clear hS
 go_wp2
 go_step3
 go_wp2
 rw [Exit.noGoto_ret]
 go_ret
 exact ⟨rfl, H.out⟩
end Go.Proofs.YtbpdapcmaioeiaaGreat
namespace Go.Proofs.YtbpdapcmaioeiaaGreat
open Go.RowKit Go.Maps
set_option maxRecDepth 100000
theorem pnew_closed {w : World} {Q : Nat → Prop} {r p : Nat} {S : Stt} (h : Pg w Q r p S none) :
 Calls Tryz.prog 70 #[.pointer (some ⟨p, 0, none⟩)] w fun e w' => e = .returned (.tuple #[.int .i64 0, .int .i64 12]) ∧ w' = w := by
 have hf := closed_any h
 simp only [Option.isSome_none, Bool.false_eq_true, if_false] at hf
 clear h
 go_enter Tryz.func70, Tryz.ntmps70
 go_wp2_with fail
 refine wp_scope_jumps 0 (fun a' w' => ∃ u0 u1 u2 u3 u6 u7 u8 u9 u10 u11 u12 u13 u14 u15 u16 u17 u18 u19 u20 u21 u22 u23 u24 u25 u26 u27 u28 u29 u30 u31 u32 u33 u34 u35 u36 u37 u38 u39 u40 u41 u42 u43 u44 u45 u46 u47 u48 : Value, a' = { tmps := #[u0, u1, u2, u3, .int .i64 0, .int .i64 12, u6, u7, u8, u9, u10, u11, u12, u13, u14, u15, u16, u17, u18, u19, u20, u21, u22, u23, u24, u25, u26, u27, u28, u29, u30, u31, u32, u33, u34, u35, u36, u37, u38, u39, u40, u41, u42, u43, u44, u45, u46, u47, u48], defers := [] } ∧ w' = w) (fun _ _ => 0) rfl ?_ ?_
 ·go_wp2_with (first | (refine hf.mono ?_; rintro e w' ⟨rfl, rfl⟩) | fail)
  go_step3
  exact ⟨rfl, ⟨_, _, _, _, _, _, _, _, _, _, _, _, _, _, _, _, _, _, _, _, _, _, _, _, _, _, _, _, _, _, _, _, _, _, _, _, _, _, _, _, _, _, _, _, _, _, _, rfl, rfl⟩⟩
 ·rintro a' w' ⟨u0, u1, u2, u3, u6, u7, u8, u9, u10, u11, u12, u13, u14, u15, u16, u17, u18, u19, u20, u21, u22, u23, u24, u25, u26, u27, u28, u29, u30, u31, u32, u33, u34, u35, u36, u37, u38, u39, u40, u41, u42, u43, u44, u45, u46, u47, u48, rfl, rfl⟩
  go_wp2
  simp only [Exit.jump]
  go_ret2
  exact ⟨rfl, rfl⟩
theorem pnew_full {w : World} {Q : Nat → Prop} {r p : Nat} {S : Stt} {t : Tx} (h : Pg w Q r p S (some t)) (h0 : frees S.next = 0) :
 Calls Tryz.prog 70 #[.pointer (some ⟨p, 0, none⟩)] w fun e w' => e = .returned (.tuple #[.int .i64 0, .int .i64 14]) ∧ w' = w := by
 have hf := closed_any h
 simp only [Option.isSome_some, if_true] at hf
 have hg := free_any h
 rw [h0] at hg
 have HG := Lib.hid hg
 clear h hg
 go_enter Tryz.func70, Tryz.ntmps70
 go_wp2_with fail
 refine wp_scope_jumps 0 (fun a' w' => ∃ u0 u1 u2 u3 u6 u7 u8 u9 u10 u11 u12 u13 u14 u15 u16 u17 u18 u19 u20 u21 u22 u23 u24 u25 u26 u27 u28 u29 u30 u31 u32 u33 u34 u35 u36 u37 u38 u39 u40 u41 u42 u43 u44 u45 u46 u47 u48 : Value, a' = { tmps := #[u0, u1, u2, u3, .int .i64 0, .int .i64 14, u6, u7, u8, u9, u10, u11, u12, u13, u14, u15, u16, u17, u18, u19, u20, u21, u22, u23, u24, u25, u26, u27, u28, u29, u30, u31, u32, u33, u34, u35, u36, u37, u38, u39, u40, u41, u42, u43, u44, u45, u46, u47, u48], defers := [] } ∧ w' = w) (fun _ _ => 0) rfl ?_ ?_
 ·go_wp2_with (first | (refine hf.mono ?_; rintro e w' ⟨rfl, he⟩; replace he := he.symm; subst he) | (refine HG.out.mono ?_; rintro e w' ⟨rfl, he⟩; replace he := he.symm; subst he) | fail)
  go_step3
  exact ⟨rfl, ⟨_, _, _, _, _, _, _, _, _, _, _, _, _, _, _, _, _, _, _, _, _, _, _, _, _, _, _, _, _, _, _, _, _, _, _, _, _, _, _, _, _, _, _, _, _, _, _, rfl, rfl⟩⟩
 ·rintro a' w' ⟨u0, u1, u2, u3, u6, u7, u8, u9, u10, u11, u12, u13, u14, u15, u16, u17, u18, u19, u20, u21, u22, u23, u24, u25, u26, u27, u28, u29, u30, u31, u32, u33, u34, u35, u36, u37, u38, u39, u40, u41, u42, u43, u44, u45, u46, u47, u48, rfl, rfl⟩
  go_wp2
  simp only [Exit.jump]
  go_ret2
  exact ⟨rfl, rfl⟩
theorem pg_cells : Value.agg Tryz.zeroCells126 = pg (zeros 504) := by kernel_rfl
theorem pnew_good {w : World} {Q : Nat → Prop} {r p : Nat} {S : Stt} {t : Tx} (h : Pg w Q r p S (some t)) (a : Nat) (hn : 0 < S.next.length) (h0 : S.next.getD 0 0 = a) (ha0 : 0 < a) (ha : a < S.next.length) (hfr : 0 < frees S.next) (hm : t.n < 1000000) :
 Calls Tryz.prog 70 #[.pointer (some ⟨p, 0, none⟩)] w fun e w' => e = .returned (.tuple #[.int .i64 a, .int .i64 0]) ∧
  PgTo w Q w' r p { S with next := (S.next.set 0 (S.next.getD a 0)).set a 0 } (some (t.put a (zeros 504))) := by
 have hf := closed_any h
 simp only [Option.isSome_some, if_true] at hf
 have hg := free_any h
 obtain ⟨fr, hfrr⟩ : ∃ n, n = frees S.next := ⟨_, rfl⟩
 rw [← hfrr] at hg hfr
 have hb0 : ((fr : Int) == 0) = false := by simp; omega
 have HG := Lib.hid hg
 obtain ⟨gn, cn, gw, cw, b, h, k⟩ := h
 obtain ⟨-, -, c2, -, -, c5⟩ := h.cells
 have hmx := h.max
 unfold maxLen at hmx
 have hcp := h.cap
 have d0 := h.row.cell 0 hn
 have di : w.cell? ⟨gn, a, none⟩ = some (.int .i64 S.next[a]) := h.row.cell a ha
 obtain ⟨y, hy⟩ : ∃ y, y = S.next[a] := ⟨_, rfl⟩
 have ex : S.next[0] = (a : Int) := by simpa [List.getD, hn] using h0
 have ey : S.next.getD a 0 = y := by rw [hy]; simp [List.getD, ha]
 rw [ey]
 rw [ex] at d0
 rw [← hy] at di
 have g0 := h.row.frozen 0
 have gi := h.row.frozen a
 have hgp : gn ≠ p := h.ne
 have hwf : (Lit.int .i64 (a : Int)).wf = true := WalkArith.wf_i64 (by omega)
 have hmd : Moved (· = gn) w (((w.setCell ⟨gn, 0, none⟩ (.int .i64 y)).setCell ⟨gn, a, none⟩ (.int .i64 0)).drew) := (((Moved.refl (· = gn) w).setCell ⟨gn, 0, none⟩ _ (.inl rfl)).setCell ⟨gn, a, none⟩ _ (.inl rfl)).drew
 have hrow : IRow (((w.setCell ⟨gn, 0, none⟩ (.int .i64 y)).setCell ⟨gn, a, none⟩ (.int .i64 0)).drew) gn ((S.next.set 0 y).set a 0) := by
  obtain ⟨cur, q1, q2⟩ := h.row
  obtain ⟨cur', q3, q4⟩ := IRow.set (IRow.set ⟨cur, q1, q2⟩ 0 y) a 0
  exact ⟨cur', q3.drew, q4⟩
 obtain ⟨w2, hup, him, htu⟩ := (k.map.moved hmd k.b2).store hwf (zeros 504) (by simp [maxLen]; omega)
 have hmt : Moved (fun j => j = gn ∨ j = b) w w2 := (hmd.mono (fun _ h => .inl h)).trans htu (fun _ h => .inl (.inr h))
 have H : Hid (PgTo w Q w2 r p { S with next := (S.next.set 0 y).set a 0 } (some (t.put a (zeros 504)))) := Lib.hid ⟨Q, ⟨gn, cn, gw, cw, b, ⟨by
  have := h.top.moved hmt (fun e => e.elim (fun e => hgp e.symm) (fun e => k.b1 e.symm))
  simp only [List.length_set]
  exact this, hrow.moved htu (fun e => k.b2 e.symm), by simpa using h.cap, h.max, h.qp, h.qn, h.ne⟩, ⟨k.row.moved hmt (fun e => e.elim (fun e => k.w2 e) (fun e => k.b3 e.symm)), k.cap, k.max, him, k.qw, k.qb, k.w1, k.w2, k.b1, k.b2, k.b3⟩⟩, hmt.mono (fun j hj => hj.elim (fun e => e ▸ h.qn) (fun e => e ▸ k.qb)), fun _ h => .inl h⟩
 obtain ⟨n, hnn⟩ : ∃ n, n = S.next.length := ⟨_, rfl⟩
 rw [← hnn] at c2 hcp ha hn
 have D0 := Lib.hid d0
 have DI := Lib.hid di
 have hin : (a : Int) < n := by omega
 have hn0 : (0 : Int) < n := by omega
 have f0 : w.drew.frozen? ⟨gn, 0, none⟩ = false := g0
 have fi : (w.drew.setCell ⟨gn, 0, none⟩ (.int .i64 y)).frozen? ⟨gn, a, none⟩ = false := by go_simp
 have hs2 : ∃ z, (w.setCell ⟨gn, 0, none⟩ (.int .i64 y)).cell? ⟨gn, a, none⟩ = some z := cell?_setCell_some (w := w) (p := ⟨gn, 0, none⟩) (x := .int .i64 y) (q := ⟨gn, a, none⟩) (v := .int .i64 y) di
 obtain ⟨z, hz⟩ := hs2
 have c5' : (((w.setCell ⟨gn, 0, none⟩ (.int .i64 y)).setCell ⟨gn, a, none⟩ (.int .i64 0)).drew).cell? ⟨p, 5, none⟩ = some (.map (some b)) := by
  rw [World.cell?_of_block (w := w) (hmd.block p h.top.lt (fun e => hgp e.symm))]; exact c5
 have HGP := Lib.hid hgp
 have HDM := Lib.hid hmd
 have HLT := Lib.hid h.top.lt
 have HC2 := Lib.hid c2
 rw [← pg_cells] at hup
 clear h k him htu hmt hrow h0 hy hnn hmd hwf hgp ex ey hg hfrr hm
 go_enter Tryz.func70, Tryz.ntmps70
 go_wp2_with fail
 go_step3
 go_wp2_with (first | (refine hf.mono ?_; rintro e w' ⟨rfl, he⟩; replace he := he.symm; subst he) | (refine HG.out.mono ?_; rintro e w' ⟨rfl, he⟩; replace he := he.symm; subst he) | fail)
 refine wp_region_any (by kernel_rfl) ?_
 change wpAny _ _ _ _ _ _ _ (World.drew _)
 refine wpAny_of_held (S := fun (w' : World) => w'.cell? ⟨p, 2, none⟩ = some (.slice (some ⟨gn, 0, none⟩) n cn)) _ _ _ _ ?_
 have hS : (fun (w' : World) => w'.cell? ⟨p, 2, none⟩ = some (.slice (some ⟨gn, 0, none⟩) n cn)) _ := c2
 try simp only [Act.put, List.setIfInBounds_toArray, List.set_cons_zero, List.set_cons_succ]
 refine wpAnyH_take (i := 0) (oi := ⟨some 20, _, _, _, _, _⟩) (v := ?_) rfl (by kernel_rfl) (by kernel_rfl) (by kernel_rfl) (fun _ _ _ h => h) (Or.inl ⟨by simp only [Region.wanted], ?_⟩) hS ?_
 rotate_left
 ·intro wz hSw
  clear hSw
  go_simp
  first | done | with_reducible rfl
 try simp only [Act.put, List.setIfInBounds_toArray, List.set_cons_zero, List.set_cons_succ]
 refine wpAnyH_take (i := 1) (oi := ⟨some 21, _, _, _, _, _⟩) (v := ?_) rfl (by kernel_rfl) (by kernel_rfl) (by kernel_rfl) (fun _ _ _ h => h) (Or.inl ⟨by simp only [Region.wanted], ?_⟩) hS ?_
 rotate_left
 ·intro wz hSw
  clear hSw
  go_simp
  first | done | with_reducible rfl
 try simp only [Act.put, List.setIfInBounds_toArray, List.set_cons_zero, List.set_cons_succ]
 refine wpAnyH_take (i := 2) (oi := ⟨some 22, _, _, _, _, _⟩) (v := ?_) rfl (by kernel_rfl) (by kernel_rfl) (by kernel_rfl) (fun _ _ _ h => h) (Or.inl ⟨by simp only [Region.wanted], ?_⟩) hS ?_
 rotate_left
 ·intro wz hSw
  clear hSw
  go_simp
  first | done | with_reducible rfl
 try simp only [Act.put, List.setIfInBounds_toArray, List.set_cons_zero, List.set_cons_succ]
 refine wpAnyH_take (i := 3) (oi := ⟨some 23, _, _, _, _, _⟩) (v := ?_) rfl (by kernel_rfl) (by kernel_rfl) (by kernel_rfl) (fun _ _ _ h => h) (Or.inl ⟨by simp only [Region.wanted], ?_⟩) hS ?_
 rotate_left
 ·intro wz hSw
  clear hSw
  go_simp
  first | done | with_reducible rfl
 try simp only [Act.put, List.setIfInBounds_toArray, List.set_cons_zero, List.set_cons_succ]
 refine wpAnyH_take (i := 4) (oi := ⟨some 24, _, _, _, _, _⟩) (v := ?_) rfl (by kernel_rfl) (by kernel_rfl) (by kernel_rfl) (fun _ _ _ h => h) (Or.inl ⟨by simp only [Region.wanted], ?_⟩) hS ?_
 rotate_left
 ·intro wz hSw
  (try dsimp only at hSw)
  (try go_split_ands)
  go_simp
  first | done | with_reducible rfl
 try simp only [Act.put, List.setIfInBounds_toArray, List.set_cons_zero, List.set_cons_succ]
 refine wpAnyH_take (i := 5) (oi := ⟨some 25, _, _, _, _, _⟩) (v := ?_) rfl (by kernel_rfl) (by kernel_rfl) (by kernel_rfl) (fun _ _ _ h => h) (Or.inl ⟨by simp only [Region.wanted], ?_⟩) hS ?_
 rotate_left
 ·intro wz hSw
  clear hSw
  go_simp
  first | done | with_reducible rfl
 try simp only [Act.put, List.setIfInBounds_toArray, List.set_cons_zero, List.set_cons_succ]
 refine wpAnyH_take (i := 6) (oi := ⟨some 26, _, _, _, _, _⟩) (v := ?_) rfl (by kernel_rfl) (by kernel_rfl) (by kernel_rfl) (fun _ _ _ h => h) (Or.inl ⟨by simp only [Region.wanted], ?_⟩) hS ?_
 rotate_left
 ·intro wz hSw
  clear hSw
  go_simp
  first | done | with_reducible rfl
 try simp only [Act.put, List.setIfInBounds_toArray, List.set_cons_zero, List.set_cons_succ]
 refine wpAnyH_take (i := 7) (oi := ⟨some 27, _, _, _, _, _⟩) (v := ?_) rfl (by kernel_rfl) (by kernel_rfl) (by kernel_rfl) (fun _ _ _ h => h) (Or.inl ⟨by simp only [Region.wanted], ?_⟩) hS ?_
 rotate_left
 ·intro wz hSw
  clear hSw
  go_simp
  first | done | with_reducible rfl
 try simp only [Act.put, List.setIfInBounds_toArray, List.set_cons_zero, List.set_cons_succ]
 refine wpAnyH_take (i := 8) (oi := ⟨some 28, _, _, _, _, _⟩) (v := ?_) rfl (by kernel_rfl) (by kernel_rfl) (by kernel_rfl) (fun _ _ _ h => h) (Or.inl ⟨by simp only [Region.wanted], ?_⟩) hS ?_
 rotate_left
 ·intro wz hSw
  clear hSw
  go_simp
  first | done | with_reducible rfl
 try simp only [Act.put, List.setIfInBounds_toArray, List.set_cons_zero, List.set_cons_succ]
 refine wpAnyH_take (i := 9) (oi := ⟨some 29, _, _, _, _, _⟩) (v := ?_) rfl (by kernel_rfl) (by kernel_rfl) (by kernel_rfl) (fun _ _ _ h => h) (Or.inl ⟨by simp only [Region.wanted], ?_⟩) hS ?_
 rotate_left
 ·intro wz hSw
  (try dsimp only at hSw)
  (try go_split_ands)
  go_simp
  first | done | with_reducible rfl
 try simp only [Act.put, List.setIfInBounds_toArray, List.set_cons_zero, List.set_cons_succ]
 refine wpAnyH_take (i := 10) (oi := ⟨some 30, _, _, _, _, _⟩) (v := ?_) rfl (by kernel_rfl) (by kernel_rfl) (by kernel_rfl) (fun _ _ _ h => h) (Or.inl ⟨by simp only [Region.wanted], ?_⟩) hS ?_
 rotate_left
 ·intro wz hSw
  clear hSw
  go_simp
  first | done | with_reducible rfl
 try simp only [Act.put, List.setIfInBounds_toArray, List.set_cons_zero, List.set_cons_succ]
 refine wpAnyH_take (i := 11) (oi := ⟨some 31, _, _, _, _, _⟩) (v := ?_) rfl (by kernel_rfl) (by kernel_rfl) (by kernel_rfl) (fun _ _ _ h => h) (Or.inl ⟨by simp only [Region.wanted], ?_⟩) hS ?_
 rotate_left
 ·intro wz hSw
  clear hSw
  go_simp
  first | done | with_reducible rfl
 try simp only [Act.put, List.setIfInBounds_toArray, List.set_cons_zero, List.set_cons_succ]
 refine wpAnyH_take (i := 12) (oi := ⟨some 32, _, _, _, _, _⟩) (v := ?_) rfl (by kernel_rfl) (by kernel_rfl) (by kernel_rfl) (fun _ _ _ h => h) (Or.inl ⟨by simp only [Region.wanted], ?_⟩) hS ?_
 rotate_left
 ·intro wz hSw
  clear hSw
  go_simp
  first | done | with_reducible rfl
 try simp only [Act.put, List.setIfInBounds_toArray, List.set_cons_zero, List.set_cons_succ]
 refine wpAnyH_take (i := 13) (oi := ⟨some 33, _, _, _, _, _⟩) (v := ?_) rfl (by kernel_rfl) (by kernel_rfl) (by kernel_rfl) (fun _ _ _ h => h) (Or.inl ⟨by simp only [Region.wanted], ?_⟩) hS ?_
 rotate_left
 ·intro wz hSw
  clear hSw
  go_simp
  first | done | with_reducible rfl
 try simp only [Act.put, List.setIfInBounds_toArray, List.set_cons_zero, List.set_cons_succ]
 refine wpAnyH_take (i := 14) (oi := ⟨some 34, _, _, _, _, _⟩) (v := ?_) rfl (by kernel_rfl) (by kernel_rfl) (by kernel_rfl) (fun _ _ _ h => h) (Or.inl ⟨by simp only [Region.wanted], ?_⟩) hS ?_
 rotate_left
 ·intro wz hSw
  clear hSw
  go_simp
  first | done | with_reducible rfl
 try simp only [Act.put, List.setIfInBounds_toArray, List.set_cons_zero, List.set_cons_succ]
 refine wpAnyH_take (i := 15) (oi := ⟨some 35, _, _, _, _, _⟩) (v := ?_) rfl (by kernel_rfl) (by kernel_rfl) (by kernel_rfl) (fun _ _ _ h => h) (Or.inl ⟨by simp only [Region.wanted], ?_⟩) hS ?_
 rotate_left
 ·intro wz hSw
  (try dsimp only at hSw)
  (try go_split_ands)
  go_simp
  first | done | with_reducible rfl
 try simp only [Act.put, List.setIfInBounds_toArray, List.set_cons_zero, List.set_cons_succ]
 refine wpAnyH_take (i := 16) (oi := ⟨some 36, _, _, _, _, _⟩) (v := ?_) rfl (by kernel_rfl) (by kernel_rfl) (by kernel_rfl) (fun _ _ _ h => h) (Or.inl ⟨by simp only [Region.wanted], ?_⟩) hS ?_
 rotate_left
 ·intro wz hSw
  clear hSw
  go_simp
  first | done | with_reducible rfl
 try simp only [Act.put, List.setIfInBounds_toArray, List.set_cons_zero, List.set_cons_succ]
 refine wpAnyH_take (i := 17) (oi := ⟨some 37, _, _, _, _, _⟩) (v := ?_) rfl (by kernel_rfl) (by kernel_rfl) (by kernel_rfl) (fun _ _ _ h => h) (Or.inl ⟨by simp only [Region.wanted], ?_⟩) hS ?_
 rotate_left
 ·intro wz hSw
  clear hSw
  go_simp
  first | done | with_reducible rfl
 try simp only [Act.put, List.setIfInBounds_toArray, List.set_cons_zero, List.set_cons_succ]
 clear d0 di
 have di := DI.out
 refine wpAnyH_ready (rs := [18]) (by kernel_rfl) (by simp) ?_
 refine AllReadyH.cons (o := ⟨some 38, _, _, _, _, _⟩) rfl (fun K hK => ?_) AllReadyH.nil
 go_simp
 refine hK.out _ _ (c2) (fun hS => ?_)
 clear hK K
 try simp only [Act.put, List.setIfInBounds_toArray, List.set_cons_zero, List.set_cons_succ]
 clear di
 have d0 := D0.out
 refine wpAnyH_take (i := 19) (oi := ⟨some 39, _, _, _, _, _⟩) (v := ?_) rfl (by kernel_rfl) (by kernel_rfl) (by kernel_rfl) (fun _ _ _ h => h) (Or.inl ⟨by simp only [Region.wanted], ?_⟩) hS ?_
 rotate_left
 ·intro wz hSw
  clear hSw
  go_simp
  first | done | with_reducible rfl
 try simp only [Act.put, List.setIfInBounds_toArray, List.set_cons_zero, List.set_cons_succ]
 refine wpAnyH_ready (rs := [20]) (by kernel_rfl) (by simp) ?_
 refine AllReadyH.cons (o := ⟨none, _, _, _, _, _⟩) rfl (fun K hK => ?_) AllReadyH.nil
 go_simp
 refine hK.out _ _ ((World.cell?_of_block (a := ⟨p, 2, none⟩) (((Moved.refl (· = gn) w).drew.setCell ⟨gn, 0, none⟩ (.int .i64 y) (.inl rfl)).block p HLT.out (fun e => HGP.out e.symm))).trans HC2.out) (fun hS => ?_)
 clear hK K
 try simp only [Act.put, List.setIfInBounds_toArray, List.set_cons_zero, List.set_cons_succ]
 refine wpAnyH_take (i := 21) (oi := ⟨some 40, _, _, _, _, _⟩) (v := ?_) rfl (by kernel_rfl) (by kernel_rfl) (by kernel_rfl) (fun _ _ _ h => h) (Or.inl ⟨by simp only [Region.wanted], ?_⟩) hS ?_
 rotate_left
 ·intro wz hSw
  clear hSw
  go_simp
  first | done | with_reducible rfl
 try simp only [Act.put, List.setIfInBounds_toArray, List.set_cons_zero, List.set_cons_succ]
 refine wpAnyH_ready (rs := [22]) (by kernel_rfl) (by simp) ?_
 refine AllReadyH.cons (o := ⟨none, _, _, _, _, _⟩) rfl (fun K hK => ?_) AllReadyH.nil
 go_simp
 refine hK.out _ _ ((World.cell?_of_block (a := ⟨p, 2, none⟩) (HDM.out.block p HLT.out (fun e => HGP.out e.symm))).trans HC2.out) (fun hS => ?_)
 clear hK K
 try simp only [Act.put, List.setIfInBounds_toArray, List.set_cons_zero, List.set_cons_succ]
 refine wpAnyH_done (by kernel_rfl) ?_ _
 generalize ((w.setCell ⟨gn, 0, none⟩ (.int .i64 y)).setCell ⟨gn, a, none⟩ (.int .i64 0)).drew = wd at hup c5' ⊢
 clear hS
 go_wp2
 go_step3
 go_wp2
 rw [Exit.noGoto_ret]
 go_ret2
 exact ⟨rfl, H.out⟩
end Go.Proofs.YtbpdapcmaioeiaaGreat
namespace Go.Proofs.YtbpdapcmaioeiaaGreat
set_option maxRecDepth 100000
/-- What stands behind page i in the row. -/
def link (N : Nat) : List Nat → Nat → Int
 | [], _ => 0
 | a :: L, i => if i = a then (match L with | [] => (N : Int) | b :: _ => (b : Int)) else link N L i
def headOr (N : Nat) : List Nat → Nat
 | [] => N
 | b :: _ => b
def nextOf (N : Nat) (L : List Nat) : List Int := (List.range N).map (link N (0 :: L))
structure Chn (N : Nat) (L : List Nat) : Prop where
 pos : 0 < N
 nodup : L.Nodup
 all : ∀ a ∈ L, 1 ≤ a ∧ a < N
theorem link_self (N a : Nat) (L : List Nat) : link N (a :: L) a = headOr N L := by
 cases L <;> simp [link, headOr]
theorem link_other {N a i : Nat} {L : List Nat} (h : i ≠ a) : link N (a :: L) i = link N L i := by
 cases L <;> simp [link, h]
theorem link_out {N i : Nat} : ∀ {L : List Nat}, i ∉ L → link N L i = 0
 | [], _ => rfl
 | a :: L, h => by
  rw [link_other (fun e => h (by simp [e])), link_out (fun e => h (by simp [e]))]
theorem link_ne {N : Nat} (hN : 0 < N) : ∀ {L : List Nat} {i : Nat}, i ∈ L → (∀ a ∈ L.tail, 1 ≤ a) → link N L i ≠ 0
 | a :: L, i, hi, h => by
  by_cases e : i = a
  ·subst e
   rw [link_self]
   cases L with
   | nil => simp [headOr]; omega
   | cons b L =>
    have := h b (by simp)
    simp only [headOr]
    omega
  ·rw [link_other e]
   have hi' : i ∈ L := by simpa [e] using hi
   exact link_ne hN hi' (fun a ha => h a (List.mem_of_mem_tail ha))
theorem nextOf_length (N : Nat) (L : List Nat) : (nextOf N L).length = N := by simp [nextOf]
theorem nextOf_at {N i : Nat} (L : List Nat) (h : i < N) : (nextOf N L).getD i 0 = link N (0 :: L) i := by simp [nextOf, List.getD, h]
theorem nextOf_get {N i : Nat} (L : List Nat) (h : i < (nextOf N L).length) : (nextOf N L)[i] = link N (0 :: L) i := by simp [nextOf]
theorem nextOf_zero {N : Nat} (L : List Nat) (h : 0 < N) : (nextOf N L).getD 0 0 = headOr N L := by rw [nextOf_at L h, link_self]
theorem Chn.tail {N a : Nat} {L : List Nat} (h : Chn N (a :: L)) : Chn N L := ⟨h.pos, (List.nodup_cons.1 h.nodup).2, fun b hb => h.all b (by simp [hb])⟩
theorem Chn.cons {N a : Nat} {L : List Nat} (h : Chn N L) (h1 : 1 ≤ a) (h2 : a < N) (h3 : a ∉ L) : Chn N (a :: L) :=
 ⟨h.pos, List.nodup_cons.2 ⟨h3, h.nodup⟩, fun b hb => by rcases List.mem_cons.1 hb with e | e; exact ⟨by omega, by omega⟩; exact h.all b e⟩
theorem Chn.nodup0 {N : Nat} {L : List Nat} (h : Chn N L) : (0 :: L).Nodup := List.nodup_cons.2 ⟨fun e => by have := (h.all 0 e).1; omega, h.nodup⟩
theorem next_new {N a : Nat} {L : List Nat} (h : Chn N (a :: L)) : ((nextOf N (a :: L)).set 0 ((nextOf N (a :: L)).getD a 0)).set a 0 = nextOf N L := by
 have ha := h.all a (by simp)
 have hn := (List.nodup_cons.1 h.nodup).1
 rw [nextOf_at _ ha.2, link_other (a := 0) (by omega), link_self]
 apply List.ext_getElem (by simp [nextOf_length])
 intro i h1 h2
 rw [nextOf_get, List.getElem_set]
 by_cases e : a = i
 ·subst e
  rw [if_pos rfl, link_other (a := 0) (by omega), link_out hn]
 ·rw [if_neg e, List.getElem_set]
  by_cases e0 : 0 = i
  ·subst e0
   rw [if_pos rfl, link_self]
  ·rw [if_neg e0, nextOf_get, link_other (a := 0) (by omega), link_other (a := a) (by omega), link_other (a := 0) (by omega)]
theorem next_drop {N i : Nat} {L : List Nat} (h : Chn N L) (h1 : 1 ≤ i) : ((nextOf N L).set 0 i).set i ((nextOf N L).getD 0 0) = nextOf N (i :: L) := by
 rw [nextOf_zero _ h.pos]
 apply List.ext_getElem (by simp [nextOf_length])
 intro j g1 g2
 rw [nextOf_get, List.getElem_set]
 by_cases e : i = j
 ·subst e
  rw [if_pos rfl, link_other (a := 0) (by omega), link_self]
 ·rw [if_neg e, List.getElem_set]
  by_cases e0 : 0 = j
  ·subst e0
   rw [if_pos rfl, link_self]
   rfl
  ·rw [if_neg e0, nextOf_get, link_other (a := 0) (by omega), link_other (a := 0) (by omega), link_other (a := i) (by omega)]
/-- A page is in use just where it stands not in the row. -/
theorem absent_chn {N : Nat} {L : List Nat} (h : Chn N L) (r : Int) (i : Int) : absentOf ⟨r, nextOf N L⟩ i = if 1 ≤ i ∧ i < N ∧ i.toNat ∉ L then 0 else 1 := by
 unfold absentOf
 simp only [nextOf_length]
 by_cases hi : 0 ≤ i ∧ i < N
 ·obtain ⟨k, rfl⟩ : ∃ k : Nat, i = k := ⟨i.toNat, by omega⟩
  have hk : k < N := by omega
  simp only [Int.toNat_natCast, nextOf_at L hk]
  by_cases h0 : k = 0
  ·subst h0
   have hz := link_ne h.pos (L := 0 :: L) (i := 0) (by simp) (fun a ha => (h.all a ha).1)
   rw [if_neg (fun e => hz e.2.2), if_neg (by omega)]
  ·rw [link_other h0]
   by_cases hL : k ∈ L
   ·have hz := link_ne h.pos hL (fun a ha => (h.all a (List.mem_of_mem_tail ha)).1)
    rw [if_neg (fun e => hz e.2.2), if_neg (fun e => e.2.2 hL)]
   ·rw [if_pos ⟨by omega, by omega, link_out hL⟩, if_pos ⟨by omega, by omega, hL⟩]
 ·rw [if_neg (fun e => hi ⟨e.1, e.2.1⟩), if_neg (fun e => hi ⟨by omega, e.2.1⟩)]
theorem frees_chn {N : Nat} {L : List Nat} (h : Chn N L) : frees (nextOf N L) = L.length := by
 have e : (nextOf N L).drop 1 = ((List.range N).drop 1).map (link N L) := by
  unfold nextOf
  rw [← List.map_drop]
  apply List.map_congr_left
  intro i hi
  refine link_other (fun e => ?_)
  rw [List.range_eq_range', List.drop_range'] at hi
  have := List.mem_range'_1.1 hi
  omega
 unfold frees
 rw [e, List.filter_map, List.length_map]
 have hp : ((List.range N).drop 1).filter ((fun x => x != 0) ∘ link N L) = ((List.range N).drop 1).filter (fun i => decide (i ∈ L)) := by
  apply List.filter_congr
  intro i hi
  simp only [Function.comp]
  by_cases hL : i ∈ L
  ·have := link_ne h.pos hL (fun a ha => (h.all a (List.mem_of_mem_tail ha)).1)
   simp [hL, this]
  ·simp [hL, link_out hL]
 rw [hp]
 refine (List.Perm.length_eq ?_)
 refine (List.perm_ext_iff_of_nodup ?_ h.nodup).2 (fun a => ?_)
 ·exact List.Pairwise.filter _ (List.Pairwise.drop List.nodup_range)
 ·rw [List.mem_filter, List.range_eq_range', List.drop_range', List.mem_range'_1]
  constructor
  ·intro e; simpa using e.2
  ·intro e
   have := h.all a e
   exact ⟨by omega, by simpa using e⟩
def rowTo (N : Nat) (L : List Nat) (j : Nat) : List Int := (List.range N).map fun i => if i ∈ (0 :: L).take j then link N (0 :: L) i else 0
theorem rowTo_length (N : Nat) (L : List Nat) (j : Nat) : (rowTo N L j).length = N := by simp [rowTo]
theorem rowTo_zero (N : Nat) (L : List Nat) : rowTo N L 0 = List.replicate N 0 := by
 apply List.ext_getElem (by simp [rowTo])
 intro i h1 h2
 simp [rowTo]
theorem rowTo_all {N : Nat} (L : List Nat) : rowTo N L (L.length + 1) = nextOf N L := by
 unfold rowTo nextOf
 apply List.map_congr_left
 intro i _
 rw [List.take_of_length_le (by simp)]
 split
 ·rfl
 ·rename_i h; rw [link_out h]
theorem rowTo_succ {N : Nat} {L : List Nat} (j : Nat) (hj : j < (0 :: L).length) : rowTo N L (j + 1) = (rowTo N L j).set ((0 :: L)[j]) (link N (0 :: L) ((0 :: L)[j])) := by
 apply List.ext_getElem (by simp [rowTo])
 intro i h1 h2
 rw [List.getElem_set]
 simp only [rowTo, List.getElem_map, List.getElem_range]
 rw [List.take_succ_eq_append_getElem hj]
 by_cases e : (0 :: L)[j] = i
 ·rw [if_pos e]
  subst e
  rw [if_pos (List.mem_append.2 (.inr (List.mem_singleton.2 rfl)))]
 ·rw [if_neg e]
  have : i ∈ (0 :: L).take j ++ [(0 :: L)[j]] ↔ i ∈ (0 :: L).take j := by
   rw [List.mem_append]
   constructor
   ·intro h; rcases h with h | h
    ·exact h
    ·exact absurd (List.mem_singleton.1 h).symm e
   ·exact .inl
  simp only [this]
theorem rowTo_fresh {N : Nat} {L : List Nat} (h : Chn N L) (j : Nat) (hj : j < (0 :: L).length) (hN : (0 :: L)[j] < (rowTo N L j).length) : (rowTo N L j)[(0 :: L)[j]] = 0 := by
 simp only [rowTo, List.getElem_map, List.getElem_range]
 rw [if_neg]
 intro hm
 obtain ⟨i, hi, e⟩ := List.mem_iff_getElem.1 hm
 have hi' : i < j := by rw [List.length_take] at hi; omega
 rw [List.getElem_take] at e
 have := (List.getElem_inj h.nodup0).1 e
 omega
theorem seq_lt {N : Nat} {L : List Nat} (h : Chn N L) (j : Nat) (hj : j < (0 :: L).length) : (0 :: L)[j] < N := by
 cases j with
 | zero => exact h.pos
 | succ j =>
  simp only [List.getElem_cons_succ]
  exact (h.all _ (List.getElem_mem _)).2
/-- The place behind. -/
theorem link_seq {N : Nat} : ∀ {l : List Nat} (j : Nat) (hj : j < l.length), l.Nodup → link N l l[j] = ((l.tail ++ [N])[j]'(by simp; omega) : Nat)
 | a :: L, 0, _, _ => by
  rw [List.getElem_cons_zero, link_self]
  cases L <;> simp [headOr]
 | a :: L, j + 1, hj, h => by
  have hj' : j < L.length := by simpa using hj
  have hn := List.nodup_cons.1 h
  rw [List.getElem_cons_succ, link_other (fun e => hn.1 (by rw [← e]; exact List.getElem_mem _)), link_seq j hj' hn.2]
  congr 1
  cases L with
  | nil => simp at hj'
  | cons b L => simp
end Go.Proofs.YtbpdapcmaioeiaaGreat
