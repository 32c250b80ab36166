/- The pager: Drop, New. -/
import Derived.Test.YtcnfnpccbnnplaaPgPut
import Derived.WalkArith
namespace Go.Proofs.Ytcnfnpccbnnplaa
open Go.RowKit Go.Maps
set_option maxRecDepth 100000

theorem drop_bad {w : World} {Q : Nat → Prop} {r p : Nat} {S : Stt} {T : Option Tx} (h : Pg w Q r p S T) (i : Int) (hbad : pfaultOf S T i ≠ 0) :
    Calls Try.prog 48 #[.pointer (some ⟨p, 0, none⟩), .int .i64 i] w fun e w' => e = .returned (.int .i64 (pfaultOf S T i)) ∧ w' = w := by
  have hf := pfault_any h i
  obtain ⟨f, hF⟩ : ∃ f, f = pfaultOf S T i := ⟨_, rfl⟩
  rw [← hF] at hbad hf ⊢
  have hb : (f != 0) = true := by simpa using hbad
  clear h hF hbad
  go_enter Try.func48, Try.ntmps48
  go_wp2_with fail
  refine wp_scope_jumps 0 (fun a' w' => ∃ u0 u1 u2 u3 u4 u6 u7 u8 u9 u10 u11 u12 u13 u14 u15 u16 u17 u18 u19 u20 u21 u22 u23 u24 u25 u26 u27 u28 u29 u30 u31 u32 u33 u34 u35 u36 u37 : Value, a' = { tmps := #[u0, u1, u2, u3, u4, .int .i64 f, u6, u7, u8, u9, u10, u11, u12, u13, u14, u15, u16, u17, u18, u19, u20, u21, u22, u23, u24, u25, u26, u27, u28, u29, u30, u31, u32, u33, u34, u35, u36, u37], defers := [] } ∧ w' = w) (fun _ _ => 0) rfl ?_ ?_
  · go_wp2_with (first | (refine hf.mono ?_; rintro e w' ⟨rfl, rfl⟩) | fail)
    go_step3
    exact ⟨rfl, ⟨_, _, _, _, _, _, _, _, _, _, _, _, _, _, _, _, _, _, _, _, _, _, _, _, _, _, _, _, _, _, _, _, _, _, _, _, _, rfl, rfl⟩⟩
  · rintro a' w' ⟨u0, u1, u2, u3, u4, u6, u7, u8, u9, u10, u11, u12, u13, u14, u15, u16, u17, u18, u19, u20, u21, u22, u23, u24, u25, u26, u27, u28, u29, u30, u31, u32, u33, u34, u35, u36, u37, rfl, rfl⟩
    go_wp2
    simp only [Exit.jump]
    go_ret
    exact ⟨rfl, rfl⟩

def Tx.drop (t : Tx) (i : Int) : Tx := { t with f := fun j => if j = i then none else t.f j, n := if (t.f i).isSome then t.n - 1 else t.n }

theorem drop_good {w : World} {Q : Nat → Prop} {r p : Nat} {S : Stt} {t : Tx} (h : Pg w Q r p S (some t)) (i : Nat) (h0 : absentOf S i = 0) (hn : 0 < S.next.length) :
    Calls Try.prog 48 #[.pointer (some ⟨p, 0, none⟩), .int .i64 i] w fun e w' => e = .returned (.int .i64 0) ∧ PgTo w Q w' r p { S with next := (S.next.set 0 i).set i (S.next.getD 0 0) } (some (t.drop i)) := by
  have hf := pfault_any h i
  have e0 : pfaultOf S (some t) i = 0 := h0
  rw [e0] at hf
  have hi : i < S.next.length := by
    unfold absentOf at h0
    split at h0
    · omega
    · cases h0
  obtain ⟨gn, cn, gw, cw, b, h, k⟩ := h
  obtain ⟨-, -, c2, -, -, c5⟩ := h.cells
  have hmx := h.max
  unfold maxLen at hmx
  have hcp := h.cap
  have d0 := h.row.cell 0 hn
  have di : w.cell? ⟨gn, i, none⟩ = some (.int .i64 S.next[i]) := h.row.cell i hi
  obtain ⟨x, hx⟩ : ∃ x, x = S.next[0] := ⟨_, rfl⟩
  obtain ⟨y, hy⟩ : ∃ y, y = S.next[i] := ⟨_, rfl⟩
  have ex : S.next.getD 0 0 = x := by rw [hx]; simp [List.getD, hn]
  rw [ex]
  rw [← hx] at d0
  rw [← hy] at di
  have g0 := h.row.frozen 0
  have gi := h.row.frozen i
  have hgp : gn ≠ p := h.ne
  have hrow := (h.row.set 0 i).set i x
  have hm : Moved (· = gn) w ((w.setCell ⟨gn, 0, none⟩ (.int .i64 i)).setCell ⟨gn, i, none⟩ (.int .i64 x)) := ((Moved.refl (· = gn) w).setCell ⟨gn, 0, none⟩ _ (.inl rfl)).setCell ⟨gn, i, none⟩ _ (.inl rfl)
  have hwf : (Lit.int .i64 (i : Int)).wf = true := WalkArith.wf_i64 (by omega)
  have hmd : Moved (· = gn) w (((w.setCell ⟨gn, 0, none⟩ (.int .i64 i)).setCell ⟨gn, i, none⟩ (.int .i64 x)).drew) := (((Moved.refl (· = gn) w).setCell ⟨gn, 0, none⟩ _ (.inl rfl)).setCell ⟨gn, i, none⟩ _ (.inl rfl)).drew
  have hrow : IRow (((w.setCell ⟨gn, 0, none⟩ (.int .i64 i)).setCell ⟨gn, i, none⟩ (.int .i64 x)).drew) gn ((S.next.set 0 i).set i x) := by
    obtain ⟨cur, q1, q2⟩ := h.row
    obtain ⟨cur', q3, q4⟩ := IRow.set (IRow.set ⟨cur, q1, q2⟩ 0 i) i x
    exact ⟨cur', q3.drew, q4⟩
  obtain ⟨w2, hup, him, htu⟩ := (k.map.moved hmd k.b2).drop hwf 0
  have hmt : Moved (fun j => j = gn ∨ j = b) w w2 := (hmd.mono (fun _ h => .inl h)).trans htu (fun _ h => .inl (.inr h))
  have H : Hid (PgTo w Q w2 r p { S with next := (S.next.set 0 i).set i x } (some (t.drop i))) := Lib.hid ⟨Q, ⟨gn, cn, gw, cw, b, ⟨by
      have := h.top.moved hmt (fun e => e.elim (fun e => hgp e.symm) (fun e => k.b1 e.symm))
      simp only [List.length_set]
      exact this, hrow.moved htu (fun e => k.b2 e.symm), by simpa using h.cap, h.max, h.qp, h.qn, h.ne⟩, ⟨k.row.moved hmt (fun e => e.elim (fun e => k.w2 e) (fun e => k.b3 e.symm)), k.cap, k.max, him, k.qw, k.qb, k.w1, k.w2, k.b1, k.b2, k.b3⟩⟩, hmt.mono (fun j hj => hj.elim (fun e => e ▸ h.qn) (fun e => e ▸ k.qb)), fun _ h => .inl h⟩
  obtain ⟨n, hnn⟩ : ∃ n, n = S.next.length := ⟨_, rfl⟩
  rw [← hnn] at c2 hcp hi hn
  have D0 := Lib.hid d0
  have DI := Lib.hid di
  have hin : (i : Int) < n := by omega
  have hn0 : (0 : Int) < n := by omega
  have f0 : w.drew.frozen? ⟨gn, 0, none⟩ = false := g0
  have fi : (w.drew.setCell ⟨gn, 0, none⟩ (.int .i64 i)).frozen? ⟨gn, i, none⟩ = false := by go_simp
  have hs2 : ∃ z, (w.setCell ⟨gn, 0, none⟩ (.int .i64 i)).cell? ⟨gn, i, none⟩ = some z := cell?_setCell_some (w := w) (p := ⟨gn, 0, none⟩) (x := .int .i64 i) (q := ⟨gn, i, none⟩) (v := .int .i64 y) di
  obtain ⟨z, hz⟩ := hs2
  have hnp : w.cell? ⟨p, 5, none⟩ = some (.map (some b)) → (((w.setCell ⟨gn, 0, none⟩ (.int .i64 i)).setCell ⟨gn, i, none⟩ (.int .i64 x)).drew).cell? ⟨p, 5, none⟩ = some (.map (some b)) := fun e => by
    rw [World.cell?_of_block (w := w) (hmd.block p h.top.lt (fun e => hgp e.symm))]; exact e
  have c5' := hnp c5
  have HGP := Lib.hid hgp
  have HDM := Lib.hid hmd
  have HLT := Lib.hid h.top.lt
  have HC2 := Lib.hid c2
  clear h k hm him htu hmt hrow hnp e0 h0 ex hx hy hnn hmd hwf hgp
  go_enter Try.func48, Try.ntmps48
  go_wp2_with fail
  go_step3
  go_wp2_with (first | (refine hf.mono ?_; rintro e w' ⟨rfl, he⟩; replace he := he.symm; subst he) | fail)
  refine wp_region_any (by kernel_rfl) ?_
  change wpAny _ _ _ _ _ _ _ (World.drew _)
  refine wpAny_of_held (S := fun (w' : World) => w'.cell? ⟨p, 2, none⟩ = some (.slice (some ⟨gn, 0, none⟩) n cn)) _ _ _ _ ?_
  have hS : (fun (w' : World) => w'.cell? ⟨p, 2, none⟩ = some (.slice (some ⟨gn, 0, none⟩) n cn)) _ := c2
  try simp only [Act.put, List.setIfInBounds_toArray, List.set_cons_zero, List.set_cons_succ]
  refine wpAnyH_take (i := 0) (oi := ⟨some 11, _, _, _, _, _⟩) (v := ?_) rfl (by kernel_rfl) (by kernel_rfl) (by kernel_rfl) (fun _ _ _ h => h) (Or.inl ⟨by simp only [Region.wanted], ?_⟩) hS ?_
  rotate_left
  · intro wz hSw
    clear hSw
    go_simp
    first | done | with_reducible rfl
  try simp only [Act.put, List.setIfInBounds_toArray, List.set_cons_zero, List.set_cons_succ]
  refine wpAnyH_take (i := 1) (oi := ⟨some 12, _, _, _, _, _⟩) (v := ?_) rfl (by kernel_rfl) (by kernel_rfl) (by kernel_rfl) (fun _ _ _ h => h) (Or.inl ⟨by simp only [Region.wanted], ?_⟩) hS ?_
  rotate_left
  · intro wz hSw
    clear hSw
    go_simp
    first | done | with_reducible rfl
  try simp only [Act.put, List.setIfInBounds_toArray, List.set_cons_zero, List.set_cons_succ]
  refine wpAnyH_take (i := 2) (oi := ⟨some 13, _, _, _, _, _⟩) (v := ?_) rfl (by kernel_rfl) (by kernel_rfl) (by kernel_rfl) (fun _ _ _ h => h) (Or.inl ⟨by simp only [Region.wanted], ?_⟩) hS ?_
  rotate_left
  · intro wz hSw
    clear hSw
    go_simp
    first | done | with_reducible rfl
  try simp only [Act.put, List.setIfInBounds_toArray, List.set_cons_zero, List.set_cons_succ]
  refine wpAnyH_take (i := 3) (oi := ⟨some 14, _, _, _, _, _⟩) (v := ?_) rfl (by kernel_rfl) (by kernel_rfl) (by kernel_rfl) (fun _ _ _ h => h) (Or.inl ⟨by simp only [Region.wanted], ?_⟩) hS ?_
  rotate_left
  · intro wz hSw
    clear hSw
    go_simp
    first | done | with_reducible rfl
  try simp only [Act.put, List.setIfInBounds_toArray, List.set_cons_zero, List.set_cons_succ]
  refine wpAnyH_take (i := 4) (oi := ⟨some 15, _, _, _, _, _⟩) (v := ?_) rfl (by kernel_rfl) (by kernel_rfl) (by kernel_rfl) (fun _ _ _ h => h) (Or.inl ⟨by simp only [Region.wanted], ?_⟩) hS ?_
  rotate_left
  · intro wz hSw
    (try dsimp only at hSw)
    (try go_split_ands)
    go_simp
    first | done | with_reducible rfl
  try simp only [Act.put, List.setIfInBounds_toArray, List.set_cons_zero, List.set_cons_succ]
  refine wpAnyH_take (i := 5) (oi := ⟨some 16, _, _, _, _, _⟩) (v := ?_) rfl (by kernel_rfl) (by kernel_rfl) (by kernel_rfl) (fun _ _ _ h => h) (Or.inl ⟨by simp only [Region.wanted], ?_⟩) hS ?_
  rotate_left
  · intro wz hSw
    clear hSw
    go_simp
    first | done | with_reducible rfl
  try simp only [Act.put, List.setIfInBounds_toArray, List.set_cons_zero, List.set_cons_succ]
  refine wpAnyH_take (i := 6) (oi := ⟨some 17, _, _, _, _, _⟩) (v := ?_) rfl (by kernel_rfl) (by kernel_rfl) (by kernel_rfl) (fun _ _ _ h => h) (Or.inl ⟨by simp only [Region.wanted], ?_⟩) hS ?_
  rotate_left
  · intro wz hSw
    clear hSw
    go_simp
    first | done | with_reducible rfl
  try simp only [Act.put, List.setIfInBounds_toArray, List.set_cons_zero, List.set_cons_succ]
  refine wpAnyH_take (i := 7) (oi := ⟨some 18, _, _, _, _, _⟩) (v := ?_) rfl (by kernel_rfl) (by kernel_rfl) (by kernel_rfl) (fun _ _ _ h => h) (Or.inl ⟨by simp only [Region.wanted], ?_⟩) hS ?_
  rotate_left
  · intro wz hSw
    clear hSw
    go_simp
    first | done | with_reducible rfl
  try simp only [Act.put, List.setIfInBounds_toArray, List.set_cons_zero, List.set_cons_succ]
  refine wpAnyH_take (i := 8) (oi := ⟨some 19, _, _, _, _, _⟩) (v := ?_) rfl (by kernel_rfl) (by kernel_rfl) (by kernel_rfl) (fun _ _ _ h => h) (Or.inl ⟨by simp only [Region.wanted], ?_⟩) hS ?_
  rotate_left
  · intro wz hSw
    clear hSw
    go_simp
    first | done | with_reducible rfl
  try simp only [Act.put, List.setIfInBounds_toArray, List.set_cons_zero, List.set_cons_succ]
  refine wpAnyH_take (i := 9) (oi := ⟨some 20, _, _, _, _, _⟩) (v := ?_) rfl (by kernel_rfl) (by kernel_rfl) (by kernel_rfl) (fun _ _ _ h => h) (Or.inl ⟨by simp only [Region.wanted], ?_⟩) hS ?_
  rotate_left
  · intro wz hSw
    (try dsimp only at hSw)
    (try go_split_ands)
    go_simp
    first | done | with_reducible rfl
  try simp only [Act.put, List.setIfInBounds_toArray, List.set_cons_zero, List.set_cons_succ]
  refine wpAnyH_take (i := 10) (oi := ⟨some 21, _, _, _, _, _⟩) (v := ?_) rfl (by kernel_rfl) (by kernel_rfl) (by kernel_rfl) (fun _ _ _ h => h) (Or.inl ⟨by simp only [Region.wanted], ?_⟩) hS ?_
  rotate_left
  · intro wz hSw
    clear hSw
    go_simp
    first | done | with_reducible rfl
  try simp only [Act.put, List.setIfInBounds_toArray, List.set_cons_zero, List.set_cons_succ]
  refine wpAnyH_take (i := 11) (oi := ⟨some 22, _, _, _, _, _⟩) (v := ?_) rfl (by kernel_rfl) (by kernel_rfl) (by kernel_rfl) (fun _ _ _ h => h) (Or.inl ⟨by simp only [Region.wanted], ?_⟩) hS ?_
  rotate_left
  · intro wz hSw
    clear hSw
    go_simp
    first | done | with_reducible rfl
  try simp only [Act.put, List.setIfInBounds_toArray, List.set_cons_zero, List.set_cons_succ]
  refine wpAnyH_take (i := 12) (oi := ⟨some 23, _, _, _, _, _⟩) (v := ?_) rfl (by kernel_rfl) (by kernel_rfl) (by kernel_rfl) (fun _ _ _ h => h) (Or.inl ⟨by simp only [Region.wanted], ?_⟩) hS ?_
  rotate_left
  · intro wz hSw
    clear hSw
    go_simp
    first | done | with_reducible rfl
  try simp only [Act.put, List.setIfInBounds_toArray, List.set_cons_zero, List.set_cons_succ]
  refine wpAnyH_take (i := 13) (oi := ⟨some 24, _, _, _, _, _⟩) (v := ?_) rfl (by kernel_rfl) (by kernel_rfl) (by kernel_rfl) (fun _ _ _ h => h) (Or.inl ⟨by simp only [Region.wanted], ?_⟩) hS ?_
  rotate_left
  · intro wz hSw
    clear hSw
    go_simp
    first | done | with_reducible rfl
  try simp only [Act.put, List.setIfInBounds_toArray, List.set_cons_zero, List.set_cons_succ]
  refine wpAnyH_take (i := 14) (oi := ⟨some 25, _, _, _, _, _⟩) (v := ?_) rfl (by kernel_rfl) (by kernel_rfl) (by kernel_rfl) (fun _ _ _ h => h) (Or.inl ⟨by simp only [Region.wanted], ?_⟩) hS ?_
  rotate_left
  · intro wz hSw
    clear hSw
    go_simp
    first | done | with_reducible rfl
  try simp only [Act.put, List.setIfInBounds_toArray, List.set_cons_zero, List.set_cons_succ]
  refine wpAnyH_take (i := 15) (oi := ⟨some 26, _, _, _, _, _⟩) (v := ?_) rfl (by kernel_rfl) (by kernel_rfl) (by kernel_rfl) (fun _ _ _ h => h) (Or.inl ⟨by simp only [Region.wanted], ?_⟩) hS ?_
  rotate_left
  · intro wz hSw
    clear hSw
    go_simp
    first | done | with_reducible rfl
  try simp only [Act.put, List.setIfInBounds_toArray, List.set_cons_zero, List.set_cons_succ]
  refine wpAnyH_take (i := 16) (oi := ⟨some 27, _, _, _, _, _⟩) (v := ?_) rfl (by kernel_rfl) (by kernel_rfl) (by kernel_rfl) (fun _ _ _ h => h) (Or.inl ⟨by simp only [Region.wanted], ?_⟩) hS ?_
  rotate_left
  · intro wz hSw
    (try dsimp only at hSw)
    (try go_split_ands)
    go_simp
    first | done | with_reducible rfl
  try simp only [Act.put, List.setIfInBounds_toArray, List.set_cons_zero, List.set_cons_succ]
  refine wpAnyH_take (i := 17) (oi := ⟨some 28, _, _, _, _, _⟩) (v := ?_) rfl (by kernel_rfl) (by kernel_rfl) (by kernel_rfl) (fun _ _ _ h => h) (Or.inl ⟨by simp only [Region.wanted], ?_⟩) hS ?_
  rotate_left
  · intro wz hSw
    clear hSw
    go_simp
    first | done | with_reducible rfl
  try simp only [Act.put, List.setIfInBounds_toArray, List.set_cons_zero, List.set_cons_succ]
  clear d0 di
  have d0 := D0.out
  refine wpAnyH_ready (rs := [18]) (by kernel_rfl) (by simp) ?_
  refine AllReadyH.cons (o := ⟨some 29, _, _, _, _, _⟩) rfl (fun K hK => ?_) AllReadyH.nil
  go_simp
  refine hK.out _ _ (c2) (fun hS => ?_)
  clear hK K
  try simp only [Act.put, List.setIfInBounds_toArray, List.set_cons_zero, List.set_cons_succ]
  refine wpAnyH_take (i := 19) (oi := ⟨some 30, _, _, _, _, _⟩) (v := ?_) rfl (by kernel_rfl) (by kernel_rfl) (by kernel_rfl) (fun _ _ _ h => h) (Or.inl ⟨by simp only [Region.wanted], ?_⟩) hS ?_
  rotate_left
  · intro wz hSw
    clear hSw
    go_simp
    first | done | with_reducible rfl
  try simp only [Act.put, List.setIfInBounds_toArray, List.set_cons_zero, List.set_cons_succ]
  refine wpAnyH_ready (rs := [20]) (by kernel_rfl) (by simp) ?_
  refine AllReadyH.cons (o := ⟨none, _, _, _, _, _⟩) rfl (fun K hK => ?_) AllReadyH.nil
  go_simp
  refine hK.out _ _ ((World.cell?_of_block (a := ⟨p, 2, none⟩) (((Moved.refl (· = gn) w).drew.setCell ⟨gn, 0, none⟩ (.int .i64 i) (.inl rfl)).block p HLT.out (fun e => HGP.out e.symm))).trans HC2.out) (fun hS => ?_)
  clear hK K
  try simp only [Act.put, List.setIfInBounds_toArray, List.set_cons_zero, List.set_cons_succ]
  refine wpAnyH_take (i := 21) (oi := ⟨some 31, _, _, _, _, _⟩) (v := ?_) rfl (by kernel_rfl) (by kernel_rfl) (by kernel_rfl) (fun _ _ _ h => h) (Or.inl ⟨by simp only [Region.wanted], ?_⟩) hS ?_
  rotate_left
  · intro wz hSw
    clear hSw
    go_simp
    first | done | with_reducible rfl
  try simp only [Act.put, List.setIfInBounds_toArray, List.set_cons_zero, List.set_cons_succ]
  refine wpAnyH_ready (rs := [22]) (by kernel_rfl) (by simp) ?_
  refine AllReadyH.cons (o := ⟨none, _, _, _, _, _⟩) rfl (fun K hK => ?_) AllReadyH.nil
  go_simp
  refine hK.out _ _ ((World.cell?_of_block (a := ⟨p, 2, none⟩) (HDM.out.block p HLT.out (fun e => HGP.out e.symm))).trans HC2.out) (fun hS => ?_)
  clear hK K
  try simp only [Act.put, List.setIfInBounds_toArray, List.set_cons_zero, List.set_cons_succ]
  refine wpAnyH_done (by kernel_rfl) ?_ _
  generalize ((w.setCell ⟨gn, 0, none⟩ (.int .i64 i)).setCell ⟨gn, i, none⟩ (.int .i64 x)).drew = wd at hup c5' ⊢
  clear hS
  go_wp2
  go_step3
  go_wp2
  rw [Exit.noGoto_ret]
  go_ret
  exact ⟨rfl, H.out⟩
end Go.Proofs.Ytcnfnpccbnnplaa
