/- The pager: Put. -/
import Derived.Test.YtcnfnpccbnnplaaPgFree
namespace Go.Proofs.Ytcnfnpccbnnplaa
open Go.RowKit Go.Maps
set_option maxRecDepth 100000

theorem pfault_cases (S : Stt) (T : Option Tx) (i : Int) : pfaultOf S T i = 0 ∨ pfaultOf S T i = 1 ∨ pfaultOf S T i = 12 := by
  unfold pfaultOf absentOf
  split
  · split
    · exact .inl rfl
    · exact .inr (.inl rfl)
  · exact .inr (.inr rfl)

/-- What Put answers. -/
def putOf (S : Stt) (T : Option Tx) (i : Int) (l : List UInt8) : Int := if pfaultOf S T i ≠ 0 then pfaultOf S T i else if 504 < l.length then 5 else 0

def Tx.put (t : Tx) (i : Int) (l : List UInt8) : Tx := { t with f := fun j => if j = i then some l else t.f j, n := if (t.f i).isSome then t.n else t.n + 1 }

theorem put_bad {w : World} {Q : Nat → Prop} {r p : Nat} {S : Stt} {T : Option Tx} (h : Pg w Q r p S T) (i : Int) (v : Value) (l : List UInt8) (hv : Bs w v l) (hbad : putOf S T i l ≠ 0) :
    Calls Try.prog 46 #[.pointer (some ⟨p, 0, none⟩), .int .i64 i, v] w fun e w' => e = .returned (.int .i64 (putOf S T i l)) ∧ w' = w := by
  have hf := pfault_any h i
  by_cases h0 : pfaultOf S T i = 0
  · have hlen : 504 < l.length := by
      by_cases h5 : 504 < l.length
      · exact h5
      · exact absurd (by unfold putOf; rw [if_neg (fun h => h h0), if_neg h5]) hbad
    have e : putOf S T i l = 5 := by unfold putOf; rw [if_neg (fun h => h h0), if_pos hlen]
    rw [e]
    rw [h0] at hf
    obtain ⟨ao, cap, rfl, hc1, hc2, -⟩ := hv
    obtain ⟨m, hm⟩ : ∃ m, m = l.length := ⟨_, rfl⟩
    rw [← hm] at hlen ⊢
    have hlen' : (504 : Int) < m := by omega
    clear h e hbad h0 hc1 hm
    go_enter Try.func46, Try.ntmps46
    go_wp2_with fail
    refine wp_scope_jumps 0 (fun a' w' => ∃ u0 u1 u2 u3 u4 u5 u6 u8 u9 u10 u11 u12 u13 u14 u15 u16 u17 u18 u19 u20 u21 u22 u23 : Value, a' = { tmps := #[u0, u1, u2, u3, u4, u5, u6, .int .i64 5, u8, u9, u10, u11, u12, u13, u14, u15, u16, u17, u18, u19, u20, u21, u22, u23], defers := [] } ∧ w' = w) (fun _ _ => 0) rfl ?_ ?_
    · go_wp2_with (first | (refine hf.mono ?_; rintro e w' ⟨rfl, rfl⟩) | fail)
      go_step3
      exact ⟨rfl, ⟨_, _, _, _, _, _, _, _, _, _, _, _, _, _, _, _, _, _, _, _, _, _, _, rfl, rfl⟩⟩
    · rintro a' w' ⟨u0, u1, u2, u3, u4, u5, u6, u8, u9, u10, u11, u12, u13, u14, u15, u16, u17, u18, u19, u20, u21, u22, u23, rfl, rfl⟩
      go_wp2
      simp only [Exit.jump]
      go_ret
      exact ⟨rfl, rfl⟩
  · have e : putOf S T i l = pfaultOf S T i := by unfold putOf; rw [if_pos h0]
    rw [e]
    obtain ⟨f, hF⟩ : ∃ f, f = pfaultOf S T i := ⟨_, rfl⟩
    rw [← hF] at h0 hf ⊢
    have hb : (f != 0) = true := by simpa using h0
    clear h e hF hbad h0 hv
    go_enter Try.func46, Try.ntmps46
    go_wp2_with fail
    refine wp_scope_jumps 0 (fun a' w' => ∃ u0 u1 u2 u3 u4 u5 u6 u8 u9 u10 u11 u12 u13 u14 u15 u16 u17 u18 u19 u20 u21 u22 u23 : Value, a' = { tmps := #[u0, u1, u2, u3, u4, u5, u6, .int .i64 f, u8, u9, u10, u11, u12, u13, u14, u15, u16, u17, u18, u19, u20, u21, u22, u23], defers := [] } ∧ w' = w) (fun _ _ => 0) rfl ?_ ?_
    · go_wp2_with (first | (refine hf.mono ?_; rintro e w' ⟨rfl, rfl⟩) | fail)
      go_step3
      exact ⟨rfl, ⟨_, _, _, _, _, _, _, _, _, _, _, _, _, _, _, _, _, _, _, _, _, _, _, rfl, rfl⟩⟩
    · rintro a' w' ⟨u0, u1, u2, u3, u4, u5, u6, u8, u9, u10, u11, u12, u13, u14, u15, u16, u17, u18, u19, u20, u21, u22, u23, rfl, rfl⟩
      go_wp2
      simp only [Exit.jump]
      go_ret
      exact ⟨rfl, rfl⟩

theorem put_good {w : World} {Q : Nat → Prop} {r p : Nat} {S : Stt} {t : Tx} (h : Pg w Q r p S (some t)) (i : Int) (hi : (Lit.int .i64 i).wf = true) (v : Value) (l : List UInt8) (hv : Bs w v l) (hl : l.length ≤ 504) (h0 : absentOf S i = 0) (hn : t.n < 1000000) :
    Calls Try.prog 46 #[.pointer (some ⟨p, 0, none⟩), .int .i64 i, v] w fun e w' => e = .returned (.int .i64 0) ∧ PgTo w Q w' r p S (some (t.put i (page l))) := by
  have hf := pfault_any h i
  have e0 : pfaultOf S (some t) i = 0 := h0
  rw [e0] at hf
  have hp := paged_any v l w.drew hv
  rw [pageOf_short hl] at hp
  obtain ⟨ao, cap, rfl, hc1, hc2, -⟩ := hv
  obtain ⟨m, hm⟩ : ∃ m, m = l.length := ⟨_, rfl⟩
  rw [← hm] at hl hp ⊢
  have hl' : ¬ (504 : Int) < m := by omega
  obtain ⟨gn, cn, gw, cw, b, h, k⟩ := h
  have hpl := h.top.lt
  obtain ⟨-, -, -, -, -, c5⟩ := h.cells
  have HH := Lib.hid h
  have HK := Lib.hid k
  have HI := Lib.hid hi
  have HN := Lib.hid hn
  have HP := Lib.hid hp
  have HPL := Lib.hid hpl
  have HC5 := Lib.hid c5
  obtain ⟨R, hR⟩ : ∃ R, R = pg (page l) := ⟨_, rfl⟩
  rw [← hR] at HP
  have HR := Lib.hid hR
  clear h k hi hn hp hpl e0 h0 hc1 hm hl hR
  go_enter Try.func46, Try.ntmps46
  go_wp2_with fail
  go_step3
  go_wp2_with (first | (refine hf.mono ?_; rintro e w' ⟨rfl, he⟩; replace he := he.symm; subst he) | fail)
  refine wp_region_any (by kernel_rfl) ?_
  change wpAny _ _ _ _ _ _ _ (World.drew _)
  refine wpAny_of_held (S := fun (w' : World) => w'.cell? ⟨p, 5, none⟩ = some (.map (some b))) _ _ _ _ ?_
  have hS : (fun (w' : World) => w'.cell? ⟨p, 5, none⟩ = some (.map (some b))) _ := c5
  try simp only [Act.put, List.setIfInBounds_toArray, List.set_cons_zero, List.set_cons_succ]
  refine wpAnyH_take (i := 0) (oi := ⟨some 16, _, _, _, _, _⟩) (v := ?_) rfl (by kernel_rfl) (by kernel_rfl) (by kernel_rfl) (fun _ _ _ h => h) (Or.inl ⟨by simp only [Region.wanted], ?_⟩) hS ?_
  rotate_left
  · intro wz hSw
    clear hSw
    go_simp
    first | done | with_reducible rfl
  try simp only [Act.put, List.setIfInBounds_toArray, List.set_cons_zero, List.set_cons_succ]
  refine wpAnyH_take (i := 1) (oi := ⟨some 17, _, _, _, _, _⟩) (v := ?_) rfl (by kernel_rfl) (by kernel_rfl) (by kernel_rfl) (fun _ _ _ h => h) (Or.inl ⟨by simp only [Region.wanted], ?_⟩) hS ?_
  rotate_left
  · intro wz hSw
    clear hSw
    go_simp
    first | done | with_reducible rfl
  try simp only [Act.put, List.setIfInBounds_toArray, List.set_cons_zero, List.set_cons_succ]
  refine wpAnyH_take (i := 2) (oi := ⟨some 18, _, _, _, _, _⟩) (v := ?_) rfl (by kernel_rfl) (by kernel_rfl) (by kernel_rfl) (fun _ _ _ h => h) (Or.inl ⟨by simp only [Region.wanted], ?_⟩) hS ?_
  rotate_left
  · intro wz hSw
    clear hSw
    go_simp
    first | done | with_reducible rfl
  try simp only [Act.put, List.setIfInBounds_toArray, List.set_cons_zero, List.set_cons_succ]
  refine wpAnyH_take (i := 3) (oi := ⟨some 19, _, _, _, _, _⟩) (v := ?_) rfl (by kernel_rfl) (by kernel_rfl) (by kernel_rfl) (fun _ _ _ h => h) (Or.inl ⟨by simp only [Region.wanted], ?_⟩) hS ?_
  rotate_left
  · intro wz hSw
    (try dsimp only at hSw)
    (try go_split_ands)
    go_simp
    first | done | with_reducible rfl
  try simp only [Act.put, List.setIfInBounds_toArray, List.set_cons_zero, List.set_cons_succ]
  refine wpAnyH_take (i := 4) (oi := ⟨some 20, _, _, _, _, _⟩) (v := ?_) rfl (by kernel_rfl) (by kernel_rfl) (by kernel_rfl) (fun _ _ _ h => h) (Or.inl ⟨by simp only [Region.wanted], ?_⟩) hS ?_
  rotate_left
  · intro wz hSw
    clear hSw
    go_simp
    first | done | with_reducible rfl
  try simp only [Act.put, List.setIfInBounds_toArray, List.set_cons_zero, List.set_cons_succ]
  refine wpAnyH_take (i := 5) (oi := ⟨some 21, _, _, _, _, _⟩) (v := ?_) rfl (by kernel_rfl) (by kernel_rfl) (by kernel_rfl) (fun _ _ _ h => h) (Or.inl ⟨by simp only [Region.wanted], ?_⟩) hS ?_
  rotate_left
  · intro wz hSw
    clear hSw
    go_simp
    first | done | with_reducible rfl
  try simp only [Act.put, List.setIfInBounds_toArray, List.set_cons_zero, List.set_cons_succ]
  refine wpAnyH_ready (rs := [6]) (by kernel_rfl) (by simp) ?_
  refine AllReadyH.cons (o := ⟨some 22, _, _, _, _, _⟩) rfl (fun K hK => ?_) AllReadyH.nil
  go_simp
  refine HP.out.mono ?_
  rintro e w1 ⟨rfl, hb1⟩
  have HB1 := Lib.hid hb1
  go_simp
  refine hK.out _ _ ((World.cell?_of_block (a := ⟨p, 5, none⟩) (HB1.out.block p HPL.out)).trans HC5.out) (fun hS => ?_)
  clear hK K
  try simp only [Act.put, List.setIfInBounds_toArray, List.set_cons_zero, List.set_cons_succ]
  have hmv : Moved (fun _ => False) w w1 := (Moved.refl _ w).drew.trans (Moved.of_below HB1.out (fun _ => False)) (fun _ h => False.elim h)
  obtain ⟨w2, hup, him, htu⟩ := (HK.out.map.moved hmv (fun h => h)).store HI.out (page l) (by have := HN.out; simp [maxLen]; omega)
  rw [← HR.out] at hup
  have HIM := Lib.hid him
  have HTU := Lib.hid htu
  have HMV := Lib.hid hmv
  clear him htu hmv hb1
  refine wpAnyH_ready (rs := [7]) (by kernel_rfl) (by simp) ?_
  refine AllReadyH.cons (o := ⟨none, _, _, _, _, _⟩) rfl (fun K hK => ?_) AllReadyH.nil
  go_simp
  refine hK.out _ _ ((World.cell?_of_block (a := ⟨p, 5, none⟩) (HTU.out.block p (Nat.lt_of_lt_of_le HPL.out HMV.out.size) (fun e => HK.out.b1 e.symm))).trans hS) (fun hS => ?_)
  clear hK K
  try simp only [Act.put, List.setIfInBounds_toArray, List.set_cons_zero, List.set_cons_succ]
  refine wpAnyH_done (by kernel_rfl) ?_ _
  go_wp2
  go_step3
  go_wp2
  rw [Exit.noGoto_ret]
  go_ret
  have hmb : Moved (· = b) w w2 := (HMV.out.mono (fun _ h => False.elim h)).trans HTU.out (fun _ h => .inl h)
  refine ⟨rfl, fun k => Q k, ⟨gn, cn, gw, cw, b, ⟨HH.out.top.moved hmb (fun e => HK.out.b1 e.symm), HH.out.row.moved hmb (fun e => HK.out.b2 e.symm), HH.out.cap, HH.out.max, HH.out.qp, HH.out.qn, HH.out.ne⟩,
    ⟨HK.out.row.moved hmb (fun e => HK.out.b3 e.symm), HK.out.cap, HK.out.max, HIM.out, HK.out.qw, HK.out.qb, HK.out.w1, HK.out.w2, HK.out.b1, HK.out.b2, HK.out.b3⟩⟩, hmb.mono (fun j hj => by rw [hj]; exact HK.out.qb), fun _ h => .inl h⟩
end Go.Proofs.Ytcnfnpccbnnplaa
