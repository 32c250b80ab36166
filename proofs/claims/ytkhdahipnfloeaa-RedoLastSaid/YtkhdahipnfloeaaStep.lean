/- Package disk: step, Stop. -/
import Derived.Test.YtkhdahipnfloeaaDisk
namespace Go.Proofs.Ytkhdahipnfloeaa
open Go.RowKit
set_option maxRecDepth 100000

theorem DkAt.retop {w w' : World} {P : Nat → Prop} {r bn bk : Nat} {sv : Value} {s s' : Dsk} (h : DkAt w P r bn bk sv s) (hm : Moved (· = r) w w') (e1 : s'.now = s.now) (e2 : s'.kept = s.kept) (e3 : s'.since = s.since)
    (ht : Top w' r bn bk sv s') : DkAt w' P r bn bk sv s' := by
  refine ⟨h.n1, h.n2, h.n3, h.n4, h.n5, h.n6, h.p1, h.p2, h.p3, h.p4, ht, ?_, ?_, ?_, ?_, ?_, ?_, ?_⟩
  · rw [e1]; exact h.bnow.moved hm (Ne.symm h.n1)
  · rw [e2]; exact h.bkept.moved hm (Ne.symm h.n2)
  · rw [e1, e2]; exact h.len
  · rw [e1]; exact h.most
  · rw [e3]; exact owns_moved h.row hm (fun k hk e => h.n4 (by rw [hk, e]))
  · rw [e1, e3]; exact h.ats
  · rw [e1, e2, e3]; exact h.short

theorem DkAt.stepped {w : World} {P : Nat → Prop} {r bn bk : Nat} {sv : Value} {s : Dsk} (h : DkAt w P r bn bk sv s) (o st : Int) (d : Bool) (ho : o = (s.ops : Int) + 1) (hst : st = ((s.stop - 1 : Nat) : Int)) (hd : d = (s.stop == 1)) :
    DkAt (((w.setCell ⟨r, 3, none⟩ (.int .i64 o)).setCell ⟨r, 5, none⟩ (.bool d)).setCell ⟨r, 4, none⟩ (.int .i64 st)) P r bn bk sv s.step ∧
    Moved P w (((w.setCell ⟨r, 3, none⟩ (.int .i64 o)).setCell ⟨r, 5, none⟩ (.bool d)).setCell ⟨r, 4, none⟩ (.int .i64 st)) := by
  subst ho hst hd
  have hm : Moved (· = r) w (((w.setCell ⟨r, 3, none⟩ (.int .i64 ((s.ops : Int) + 1))).setCell ⟨r, 5, none⟩ (.bool (s.stop == 1))).setCell ⟨r, 4, none⟩ (.int .i64 ((s.stop - 1 : Nat) : Int))) :=
    (((Moved.refl (· = r) w).setCell ⟨r, 3, none⟩ _ (.inl rfl)).setCell ⟨r, 5, none⟩ _ (.inl rfl)).setCell ⟨r, 4, none⟩ _ (.inl rfl)
  exact ⟨h.retop hm rfl rfl rfl (((Blk.set h.top 3 _).set 5 _).set 4 _), hm.mono (by rintro j rfl; exact h.p1)⟩

theorem step_any (P : Nat → Prop) (r : Nat) (s : Dsk) (w : World) (h : Dk w P r s) (ho : s.ops ≤ 4611686018427387904) (hst : s.stop ≤ 9223372036854775807) :
    Calls Try.prog 50 #[.pointer (some ⟨r, 0, none⟩)] w fun e w' => e = .returned (.int .i64 (deadErr s.step)) ∧ Dk w' P r s.step ∧ Moved P w w' := by
  obtain ⟨bn, bk, sv, h⟩ := h
  obtain ⟨-, -, -, c3, c4, c5, cf⟩ := h.top.cells
  have f3 := cf 3
  have f4 := cf 4
  have f5 := cf 5
  clear cf
  obtain h0 | h1 | h2 : s.stop = 0 ∨ s.stop = 1 ∨ 2 ≤ s.stop := by omega
  · have HS := Lib.hid (h.stepped ((s.ops : Int) + 1) 0 false rfl (by simp [h0]) (by simp [h0]))
    rw [h0] at c4
    clear h h0 hst
    go_enter Try.func50, Try.ntmps50
    go_wp2_with fail
    refine (power_any P r s.step _ ⟨bn, bk, sv, HS.out.1⟩).mono ?_
    rintro e w' ⟨rfl, rfl⟩
    go_wp2
    go_ret
    exact ⟨rfl, ⟨bn, bk, sv, HS.out.1⟩, HS.out.2⟩
  · have HS := Lib.hid (h.stepped ((s.ops : Int) + 1) 0 true rfl (by simp [h1]) (by simp [h1]))
    rw [h1] at c4
    clear h h1 hst
    go_enter Try.func50, Try.ntmps50
    go_wp2_with fail
    refine (power_any P r s.step _ ⟨bn, bk, sv, HS.out.1⟩).mono ?_
    rintro e w' ⟨rfl, rfl⟩
    go_wp2
    go_ret
    exact ⟨rfl, ⟨bn, bk, sv, HS.out.1⟩, HS.out.2⟩
  · have HS := Lib.hid (h.stepped ((s.ops : Int) + 1) ((s.stop : Int) - 1) ((s.stop : Int) == 1) rfl (by omega) (by rw [Bool.eq_iff_iff]; simp; omega))
    clear h
    go_enter Try.func50, Try.ntmps50
    go_wp2_with fail
    refine (power_any P r s.step _ ⟨bn, bk, sv, HS.out.1⟩).mono ?_
    rintro e w' ⟨rfl, rfl⟩
    go_wp2
    go_ret
    exact ⟨rfl, ⟨bn, bk, sv, HS.out.1⟩, HS.out.2⟩

theorem stop_any (P : Nat → Prop) (r : Nat) (s : Dsk) (n : Int) (w : World) (h : Dk w P r s) :
    Calls Try.prog 15 #[.pointer (some ⟨r, 0, none⟩), .int .i64 n] w fun e w' => e = .returned (.tuple #[]) ∧ Dk w' P r { s with stop := n.toNat } ∧ Moved P w w' := by
  obtain ⟨bn, bk, sv, h⟩ := h
  obtain ⟨-, -, -, -, c4, -, cf⟩ := h.top.cells
  have f4 := cf 4
  clear cf
  have key : ∀ x : Int, x = (n.toNat : Int) → DkAt (w.setCell ⟨r, 4, none⟩ (.int .i64 x)) P r bn bk sv { s with stop := n.toNat } ∧ Moved P w (w.setCell ⟨r, 4, none⟩ (.int .i64 x)) := by
    rintro x rfl
    have hm : Moved (· = r) w (w.setCell ⟨r, 4, none⟩ (.int .i64 (n.toNat : Int))) := (Moved.refl (· = r) w).setCell ⟨r, 4, none⟩ _ (.inl rfl)
    exact ⟨h.retop hm rfl rfl rfl (Blk.set h.top 4 _), hm.mono (by rintro j rfl; exact h.p1)⟩
  by_cases h0 : 0 ≤ n
  · have HS := Lib.hid (key n (by omega))
    clear h key
    go_enter Try.func15, Try.ntmps15
    go_wp2
    go_end0
    exact ⟨rfl, ⟨bn, bk, sv, HS.out.1⟩, HS.out.2⟩
  · have HS := Lib.hid (key 0 (by omega))
    clear h key
    go_enter Try.func15, Try.ntmps15
    go_wp2
    go_end0
    exact ⟨rfl, ⟨bn, bk, sv, HS.out.1⟩, HS.out.2⟩
end Go.Proofs.Ytkhdahipnfloeaa
