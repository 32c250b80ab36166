/- redo.settle. -/
import Derived.Test.YtkhdahipnfloeaaSynced
import Derived.Test.YtkhdahipnfloeaaFault
namespace Go.Proofs.Ytkhdahipnfloeaa
open Go.RowKit
set_option maxRecDepth 100000

theorem DkA.shrink {w : World} {P : Nat → Prop} {r : Nat} {A : Ab} (h : DkA w P r A) : DkA w (fun k => P k ∧ k < w.heap.size) r A := by
  obtain ⟨s, h1, h2, h3⟩ := h
  exact ⟨s, h1.shrink, h2, h3⟩
theorem DkA.below {w w' : World} {P : Nat → Prop} {r : Nat} {A : Ab} (h : DkA w P r A) (hb : Below w.heap.size w w') : DkA w' P r A := h.moved (Moved.of_below hb (fun _ => False)) (fun _ _ h => h)
/-- Ahead of the call's own blocks. -/
theorem DkTo.under {w w1 w' : World} {P : Nat → Prop} {r : Nat} {B : Ab} (hb : Below w.heap.size w w1) (h : DkTo w1 (fun k => P k ∧ k < w.heap.size) w' r B) : DkTo w P w' r B := by
  obtain ⟨P', g1, g2, g3⟩ := h
  refine ⟨P', g1, (Moved.of_below hb P).trans g2 (fun j hj => .inl hj.1), fun k hk => ?_⟩
  rcases g3 k hk with e | e
  · exact .inl e.1
  · exact .inr (Nat.le_trans hb.size e)
theorem DkTo.then {w w1 w2 : World} {P : Nat → Prop} {r : Nat} {A B : Ab} (h : DkTo w P w1 r A) (k : ∀ P1, DkA w1 P1 r A → DkTo w1 P1 w2 r B) : DkTo w P w2 r B := by
  obtain ⟨P1, g1, g2, g3⟩ := h
  exact DkTo.trans g2 g3 (k P1 g1)

theorem run_small (ops : List Dop) : ∀ {A : Ab} {k : Nat}, Small A k → Small (A.run ops).2 (k + ops.length) := by
  induction ops with
  | nil => intro A k h; exact h
  | cons o t ih =>
    intro A k h
    cases o with
    | W i b =>
      simp only [Ab.run]
      split
      · have := ih (h.write i b)
        rw [List.length_cons, show k + (t.length + 1) = k + 1 + t.length by omega]; exact this
      · exact (h.write _ _).mono (by rw [List.length_cons]; omega)
    | S =>
      simp only [Ab.run]
      split
      · have := ih h.sync
        rw [List.length_cons, show k + (t.length + 1) = k + 1 + t.length by omega]; exact this
      · exact h.sync.mono (by rw [List.length_cons]; omega)
theorem ph_length (ws : List (Nat × List UInt8)) : (ph ws).length = ws.length + 1 := by simp [ph]

/-- The frame of Settle at its label. -/
def SettleOut (e : Int) (a' : Act) : Prop := ∃ u0 u1 u2 u3 u4 u6 u7 u8 u9 u10 u11 u12 u13 u14 u15 : Value, a' = { tmps := #[u0, u1, u2, u3, u4, .int .i64 e, u6, u7, u8, u9, u10, u11, u12, u13, u14, u15], defers := [] }

set_option maxHeartbeats 1000000 in
theorem settle_any (v : Value) (l : Pages) (S : Nat → Prop) (w : World) (P : Nat → Prop) (r : Nat) (A : Ab) (h : DkA w P r A) (hp : Pus w S v l) (hS : ∀ g, S g → ¬ P g) (hl : ∀ p ∈ l, 0 ≤ p.1 ∧ p.2.length ≤ 504) (hln : l.length ≤ 400) (hs : Small A 900000) :
    Calls Try.prog 39 #[.pointer (some ⟨r, 0, none⟩), v] w fun e w' => e = .returned (.int .i64 (A.run (homesOps l)).1) ∧ DkTo w P w' r (A.run (homesOps l)).2 := by
  obtain ⟨ao, cap, hv, hc1, hc2, -⟩ := id hp
  have hc2' : cap ≤ 9223372036854775807 := hc2
  have hal : Below w.heap.size w (w.alloc (.cells #[v] 22)) := (Below.refl _ w).alloc (Nat.le_refl _) _
  have hbk := (Blk.new w #[v] 22)
  have hd1 := h.shrink.below hal
  have hp1 := hp.below hal
  have hwl : (homeWs l).length = l.length := by simp [homeWs]
  have hsy := synced_home (.pointer (some ⟨w.heap.size, 0, none⟩)) (w.alloc (.cells #[v] 22)) _ r A hd1 (homeWs l) l.length (by rw [hwl]) (by omega) (hs.mono (by omega)) (fun p hp => by
      obtain ⟨q, hq, rfl⟩ := List.mem_map.1 hp
      show (page q.2).length ≤ 512
      rw [page_length _ (hl q hq).2]; omega) (fun i hi w' hm => by
      have hil : i < l.length := by rw [← hwl]; exact hi
      have hok := hl _ (List.getElem_mem hil)
      have hc : w'.cell? ⟨w.heap.size, 0, none⟩ = some v := (hbk.moved hm (fun hj => by have := hj.2; omega)).cell 0
      refine (homeClo_any v l S w.heap.size i hil w' (hp1.moved hm (fun g hg hj => hS g hg hj.1)) hc).mono ?_
      rintro e w'' ⟨u, rfl, hu, hb⟩
      refine ⟨u, l[i].2, ?_, hu, by omega, ?_, hb⟩
      · rw [homeWs_get l i hil]
        show _ = Ending.returned (.tuple #[.int .i64 ((l[i].1.toNat : Nat) : Int), u])
        rw [Int.toNat_of_nonneg hok.1]
      · rw [homeWs_get l i hil]
        exact (sec_page _ hok.2).symm)
  subst hv
  obtain ⟨e1, he1⟩ : ∃ e, e = (A.run (ph (homeWs l))).1 := ⟨_, rfl⟩
  obtain ⟨A1, hA1⟩ : ∃ B, B = (A.run (ph (homeWs l))).2 := ⟨_, rfl⟩
  have hs1 : Small A1 1000000 := by
    rw [hA1]
    exact (run_small (ph (homeWs l)) hs).mono (by rw [ph_length, hwl]; omega)
  have hrun : A.run (homesOps l) = if e1 = 0 then A1.run (ph [(0, [])]) else (e1, A1) := by
    rw [homesOps, run_append, ← he1, ← hA1]
    split
    · rfl
    · rw [he1, hA1]
  rw [← he1, ← hA1] at hsy
  have HSY := Lib.hid hsy
  have HAL := Lib.hid hal
  have HS1 := Lib.hid hs1
  have HRUN := Lib.hid hrun
  obtain ⟨n, hn⟩ : ∃ n, n = l.length := ⟨_, rfl⟩
  rw [← hn] at hc1 HSY HAL ⊢
  clear hn hal hbk hd1 hp1 hwl hsy h hp hS hl hs hs1 hrun he1 hA1 hc2
  go_enter Try.func39, Try.ntmps39
  go_wp2_with fail
  refine wp_scope_jumps 0 (fun a' w' => SettleOut (A.run (homesOps l)).1 a' ∧ DkTo w P w' r (A.run (homesOps l)).2) (fun _ _ => 0) rfl ?_ ?_
  · go_wp2_with fail
    refine HSY.out.mono ?_
    rintro e w2 ⟨rfl, hw2⟩
    have HW2 := Lib.hid (hw2.under HAL.out)
    clear hw2 HSY HAL
    cases he : e1 == 0
    · have hne : (e1 != 0) = true := by rw [bne, he]; rfl
      have hr := HRUN.out
      rw [if_neg (by simpa using he)] at hr
      have HR := Lib.hid hr
      clear hr HRUN
      go_wp2_with fail
      go_step3
      refine ⟨rfl, ?_, ?_⟩
      · rw [HR.out]; exact ⟨_, _, _, _, _, _, _, _, _, _, _, _, _, _, _, rfl⟩
      · rw [HR.out]; exact HW2.out
    · have hne : (e1 != 0) = false := by rw [bne, he]; rfl
      obtain rfl : e1 = 0 := by simpa using he
      have hr := HRUN.out
      rw [if_pos rfl] at hr
      have HR := Lib.hid hr
      clear hr HRUN
      obtain ⟨P2, g1, g2, g3⟩ := HW2.out
      have hsb := synced_bare w2 P2 r A1 g1 [(0, [])] 1 rfl (by decide) HS1.out (by simp) (fun i hi w' _ => by
        refine (noHeadClo_any w' i).mono ?_
        rintro e w'' ⟨u, rfl, hu, hb⟩
        obtain rfl : i = 0 := by simpa using hi
        exact ⟨u, [], rfl, hu, by simp, rfl, hb⟩)
      have HSB := Lib.hid hsb
      have HG2 := Lib.hid g2
      have HG3 := Lib.hid g3
      obtain ⟨e2, he2⟩ : ∃ e, e = (A1.run (ph [(0, [])])).1 := ⟨_, rfl⟩
      rw [← he2] at HSB
      have HE2 := Lib.hid he2
      clear hsb g1 g2 g3 he2
      go_wp2_with fail
      refine HSB.out.mono ?_
      rintro e w3 ⟨rfl, hw3⟩
      have HW3 := Lib.hid (DkTo.trans HG2.out HG3.out hw3)
      clear hw3
      go_wp2_with fail
      go_step3
      go_wp2
      simp only [Exit.jump]
      go_ret
      rw [HR.out, ← HE2.out]
      exact ⟨rfl, HW3.out⟩
  · rintro a' w' ⟨⟨u0, u1, u2, u3, u4, u6, u7, u8, u9, u10, u11, u12, u13, u14, u15, rfl⟩, hw3⟩
    go_wp2
    simp only [Exit.jump]
    go_ret
    exact ⟨rfl, hw3⟩
end Go.Proofs.Ytkhdahipnfloeaa
