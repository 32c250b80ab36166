/- triadref2's disk: Sync, Crash. -/
import Derived.Test.YtkhdahipnfloeaaRefDone
namespace Go.Proofs.Ytkhdahipnfloeaa
open Go.RowKit
set_option maxRecDepth 100000

/-- The sectors as they are now are the kept ones with all Writes over them. -/
def Okay (s : Dsk) : Prop := s.now = laidF s.kept s.since (fun _ => true) s.since.length

theorem Rk.same {w : World} {Q : Nat → Prop} {x : Nat} {s s' : Dsk} (h : Rk w Q x s) (e1 : s'.kept = s.kept) (e2 : s'.since = s.since) (e3 : s'.stop = s.stop) (e4 : s'.dead = s.dead) (e5 : s'.ops = s.ops) : Rk w Q x s' := by
  obtain ⟨now', kept', since', ops', stop', dead'⟩ := s'
  simp only at e1 e2 e3 e4 e5
  subst e1 e2 e3 e4 e5
  obtain ⟨sS, sL, vS, vL, h⟩ := h
  exact ⟨sS, sL, vS, vL, h.q, h.n1, h.n2, h.n3, h.top, h.lenS, h.lenL, h.rowS, h.rowL, h.conS, h.conL, h.most, h.ats, h.short⟩

theorem rsync_any (Q : Nat → Prop) (x : Nat) (s : Dsk) (w : World) (h : Rk w Q x s) (hok : Okay s) (ho : s.ops ≤ 4611686018427387904) (hst : s.stop ≤ 9223372036854775807) (hsl : s.since.length ≤ 1073741824) :
    Calls Try.prog 26 #[.pointer (some ⟨x, 0, none⟩)] w fun e w' => e = .returned (.int .i64 (syncErr s)) ∧ Rk w' Q x s.sync ∧ Moved Q w w' := by
  cases hd : s.dead
  · have hop := op_any Q x s w h hd ho hst
    have hc3 : w.cell? ⟨x, 3, none⟩ = some (.bool false) := by
      obtain ⟨sS, sL, vS, vL, h⟩ := h
      obtain ⟨-, -, -, c3, -⟩ := h.cells
      rw [c3, hd]
    cases hd2 : s.step.dead
    · have e1 : syncErr s = 0 := by simp [syncErr, hd, deadErr, hd2]
      have e2 : s.sync = { s.step with kept := s.now, since := [] } := by simp [Dsk.sync, hd, hd2]
      rw [hd2] at hop
      rw [e1, e2]
      have HOP := Lib.hid hop
      clear e1 e2 hd hd2 hop h
      go_enter Try.func26, Try.ntmps26
      go_wp2_with fail
      refine HOP.out.mono ?_
      rintro e w1 ⟨rfl, h1, hm1⟩
      clear HOP
      go_wp2_with fail
      refine (done_any Q x s.step _ [] true w1 h1 (Bl.nil _) (fun h0 => by simp at h0) hsl).mono ?_
      rintro e w2 ⟨rfl, h2, hm2⟩
      have h2' := h2.same (s' := { s.step with kept := s.now, since := [] }) (by
        show s.now = laidF s.kept s.since (fun i => true || ([] : List Bool).getD i false) s.since.length
        exact hok) rfl rfl rfl rfl
      have HM := Lib.hid (hm1.trans hm2 (fun j hj => .inl hj))
      clear h2 hm1 hm2 h1 hok
      go_wp2_with fail
      go_ret
      exact ⟨rfl, h2', HM.out⟩
    · have e1 : syncErr s = 13 := by simp [syncErr, hd, deadErr, hd2]
      have e2 : s.sync = s.step := by simp [Dsk.sync, hd, hd2]
      rw [hd2] at hop
      rw [e1, e2]
      have HOP := Lib.hid hop
      clear e1 e2 hd hd2 hop h hok
      go_enter Try.func26, Try.ntmps26
      go_wp2_with fail
      refine HOP.out.mono ?_
      rintro e w1 ⟨rfl, h1, hm1⟩
      clear HOP
      go_wp2_with fail
      go_ret
      exact ⟨rfl, h1, hm1⟩
  · have e1 : syncErr s = 13 := by simp [syncErr, hd]
    have e2 : s.sync = s := by simp [Dsk.sync, hd]
    rw [e1, e2]
    have hc3 : w.cell? ⟨x, 3, none⟩ = some (.bool true) := by
      obtain ⟨sS, sL, vS, vL, h⟩ := h
      obtain ⟨-, -, -, c3, -⟩ := h.cells
      rw [c3, hd]
    clear e1 e2 hd hok
    go_enter Try.func26, Try.ntmps26
    go_wp2_with fail
    go_ret
    exact ⟨rfl, h, Moved.refl _ _⟩

theorem rcrash_any (Q : Nat → Prop) (x : Nat) (s : Dsk) (kv : Value) (keep : List Bool) (w : World) (h : Rk w Q x s) (hv : Bl w kv keep) (hP : 0 < keep.length → ∀ k, kv.ownBlock = some k → ¬ Q k) (hsl : s.since.length ≤ 1073741824) :
    Calls Try.prog 22 #[.pointer (some ⟨x, 0, none⟩), kv] w fun e w' => e = .returned (.tuple #[]) ∧ Rk w' Q x (s.crash keep) ∧ Moved Q w w' := by
  go_enter Try.func22, Try.ntmps22
  go_wp2_with fail
  refine (done_any Q x s kv keep false w h hv hP hsl).mono ?_
  rintro e w1 ⟨rfl, h1, hm1⟩
  have e0 : (fun i => false || keep.getD i false) = (fun i => keep.getD i false) := by funext i; rfl
  rw [e0] at h1
  obtain ⟨sS, sL, vS, vL, h1⟩ := h1
  obtain ⟨-, -, c2, c3, -, cf⟩ := h1.cells
  have f2 := cf 2
  have f3 := cf 3
  have hm : Moved (· = x) w1 ((w1.setCell ⟨x, 2, none⟩ (.int .i64 0)).setCell ⟨x, 3, none⟩ (.bool false)) :=
    ((Moved.refl (· = x) w1).setCell ⟨x, 2, none⟩ _ (.inl rfl)).setCell ⟨x, 3, none⟩ _ (.inl rfl)
  have HR := Lib.hid (h1.retop (s' := s.crash keep) hm (laid_eq _ _ _ _) rfl ((Blk.set h1.top 2 (.int .i64 0)).set 3 (.bool false)))
  have HM := Lib.hid (hm1.trans hm (by rintro j rfl; exact .inl (h1.q _ (.inl rfl))))
  clear cf h1 hm hm1 h hv hP e0
  go_wp2_with fail
  go_end0
  exact ⟨rfl, ⟨_, _, _, _, HR.out⟩, HM.out⟩
end Go.Proofs.Ytkhdahipnfloeaa
