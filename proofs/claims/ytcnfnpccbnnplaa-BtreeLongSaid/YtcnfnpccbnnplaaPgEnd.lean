/- The pager: forget, Abort, SetRoot. -/
import Derived.Test.YtcnfnpccbnnplaaPgSt
namespace Go.Proofs.Ytcnfnpccbnnplaa
open Go.RowKit Go.Maps
set_option maxRecDepth 100000

theorem forget_at {w : World} {Q : Nat → Prop} {r p gn cn : Nat} {S : Stt} {wr : Int} {vw mv : Value} (h : PgAt w Q r p gn cn S wr vw mv) :
    Calls Try.prog 56 #[.pointer (some ⟨p, 0, none⟩)] w fun e w' => e = .returned (.tuple #[]) ∧ Pg w' Q r p S none ∧ Moved Q w w' := by
  obtain ⟨c0, c1, c2, c3, c4, c5⟩ := h.cells
  have f3 := h.top.frozen 3
  have f4 := h.top.frozen 4
  have f5 := h.top.frozen 5
  have hm : Moved Q w (((w.setCell ⟨p, 3, none⟩ (.int .i64 0)).setCell ⟨p, 4, none⟩ (.slice none 0 0)).setCell ⟨p, 5, none⟩ (.map none)) :=
    (((Moved.refl Q w).setCell ⟨p, 3, none⟩ _ (.inl h.qp)).setCell ⟨p, 4, none⟩ _ (.inl h.qp)).setCell ⟨p, 5, none⟩ _ (.inl h.qp)
  have hmp : Moved (· = p) w (((w.setCell ⟨p, 3, none⟩ (.int .i64 0)).setCell ⟨p, 4, none⟩ (.slice none 0 0)).setCell ⟨p, 5, none⟩ (.map none)) :=
    (((Moved.refl (· = p) w).setCell ⟨p, 3, none⟩ _ (.inl rfl)).setCell ⟨p, 4, none⟩ _ (.inl rfl)).setCell ⟨p, 5, none⟩ _ (.inl rfl)
  have H : Hid (Pg (((w.setCell ⟨p, 3, none⟩ (.int .i64 0)).setCell ⟨p, 4, none⟩ (.slice none 0 0)).setCell ⟨p, 5, none⟩ (.map none)) Q r p S none) :=
    Lib.hid ⟨gn, cn, ((h.top.set 3 _).set 4 _).set 5 _, h.row.moved hmp h.ne, h.cap, h.max, h.qp, h.qn, h.ne⟩
  have HM := Lib.hid hm
  clear h hm hmp
  go_enter Try.func56, Try.ntmps56
  go_wp2_with fail
  go_end0
  exact ⟨rfl, H.out, HM.out⟩

theorem PgTo.trans {w w1 w2 : World} {Q : Nat → Prop} {r p : Nat} {S S' : Stt} {T T' : Option Tx} (h : PgTo w Q w1 r p S T) (k : ∀ Q1, Pg w1 Q1 r p S T → PgTo w1 Q1 w2 r p S' T') : PgTo w Q w2 r p S' T' := by
  obtain ⟨Q1, g1, g2, g3⟩ := h
  obtain ⟨Q2, k1, k2, k3⟩ := k Q1 g1
  refine ⟨Q2, k1, g2.trans k2 g3, fun j hj => ?_⟩
  rcases k3 j hj with h | h
  · exact g3 j h
  · exact .inr (Nat.le_trans g2.size h)

def wasOf (S : Stt) : Option Tx → Stt
  | none => S
  | some t => t.was
theorem abort_at {w : World} {Q : Nat → Prop} {r p : Nat} {S : Stt} {T : Option Tx} (h : Pg w Q r p S T) :
    Calls Try.prog 23 #[.pointer (some ⟨p, 0, none⟩)] w fun e w' => e = .returned (.tuple #[]) ∧ Pg w' Q r p (wasOf S T) none ∧ Moved Q w w' := by
  cases T with
  | none =>
    have H := Lib.hid (show Pg w Q r p S none ∧ Moved Q w w from ⟨h, Moved.refl _ _⟩)
    obtain ⟨gn, cn, h⟩ := h
    obtain ⟨-, -, -, -, -, c5⟩ := h.cells
    clear h
    go_enter Try.func23, Try.ntmps23
    have hk := neqM
    go_wp2_with fail
    go_end0
    exact ⟨rfl, H.out⟩
  | some t =>
    obtain ⟨gn, cn, gw, cw, b, h, k⟩ := h
    obtain ⟨c0, c1, c2, c3, c4, c5⟩ := h.cells
    have f1 := h.top.frozen 1
    have f2 := h.top.frozen 2
    have hm : Moved Q w ((w.setCell ⟨p, 1, none⟩ (.int .i64 t.was.root)).setCell ⟨p, 2, none⟩ (.slice (some ⟨gw, 0, none⟩) t.was.next.length cw)) :=
      ((Moved.refl Q w).setCell ⟨p, 1, none⟩ _ (.inl h.qp)).setCell ⟨p, 2, none⟩ _ (.inl h.qp)
    have hmp : Moved (· = p) w ((w.setCell ⟨p, 1, none⟩ (.int .i64 t.was.root)).setCell ⟨p, 2, none⟩ (.slice (some ⟨gw, 0, none⟩) t.was.next.length cw)) :=
      ((Moved.refl (· = p) w).setCell ⟨p, 1, none⟩ _ (.inl rfl)).setCell ⟨p, 2, none⟩ _ (.inl rfl)
    have ht : Blk ((w.setCell ⟨p, 1, none⟩ (.int .i64 t.was.root)).setCell ⟨p, 2, none⟩ (.slice (some ⟨gw, 0, none⟩) t.was.next.length cw)) p #[.pointer (some ⟨r, 0, none⟩), .int .i64 t.was.root, .slice (some ⟨gw, 0, none⟩) t.was.next.length cw, .int .i64 t.was.root, .slice (some ⟨gw, 0, none⟩) t.was.next.length cw, .map (some b)] 86 := (h.top.set 1 _).set 2 _
    have hcall := forget_at (Q := Q) (r := r) (S := t.was) ⟨ht, k.row.moved hmp k.w1, k.cap, k.max, h.qp, k.qw, k.w1⟩
    have HM := Lib.hid hm
    clear h k hm hmp ht
    show Calls _ _ _ _ fun e w' => e = .returned (.tuple #[]) ∧ Pg w' Q r p t.was none ∧ Moved Q w w'
    go_enter Try.func23, Try.ntmps23
    have hk := neqM
    go_wp2_with fail
    refine hcall.mono ?_
    rintro e w' ⟨rfl, h1, h2⟩
    have H1 := Lib.hid h1
    have H2 := Lib.hid (HM.out.trans h2 (fun _ h => .inl h))
    clear h1 h2 hcall
    go_wp2_with fail
    go_end0
    exact ⟨rfl, H1.out, H2.out⟩

theorem abort_any {w : World} {Q : Nat → Prop} {r p : Nat} {S : Stt} {T : Option Tx} (h : Pg w Q r p S T) :
    Calls Try.prog 23 #[.pointer (some ⟨p, 0, none⟩)] w fun e w' => e = .returned (.tuple #[]) ∧ PgTo w Q w' r p (wasOf S T) none :=
  (abort_at h).mono fun _ _ ⟨h1, h2, h3⟩ => ⟨h1, Q, h2, h3, fun _ h => .inl h⟩

/-- What SetRoot answers. -/
def setRootOf (T : Option Tx) (i : Int) : Int := if T.isSome then (if 0 ≤ i then 0 else 1) else 12

theorem setroot_any {w : World} {Q : Nat → Prop} {r p : Nat} {S : Stt} {T : Option Tx} (h : Pg w Q r p S T) (i : Int) :
    Calls Try.prog 50 #[.pointer (some ⟨p, 0, none⟩), .int .i64 i] w fun e w' => e = .returned (.int .i64 (setRootOf T i)) ∧ PgTo w Q w' r p (if setRootOf T i = 0 then { S with root := i } else S) T := by
  have hc := closed_any h
  have H := Lib.hid (PgTo.refl h)
  cases T with
  | none =>
    have e : setRootOf none i = 12 := rfl
    rw [e, if_neg (by decide)]
    simp only [Option.isSome_none, Bool.false_eq_true, if_false] at hc
    clear h e
    go_enter Try.func50, Try.ntmps50
    go_wp2_with fail
    refine wp_scope_jumps 0 (fun a' w' => ∃ u0 u1 u2 u3 u4 u6 u7 u8 u9 u10 u11 u12 u13 u14 u15 u16 u17 : Value, a' = { tmps := #[u0, u1, u2, u3, u4, .int .i64 12, u6, u7, u8, u9, u10, u11, u12, u13, u14, u15, u16, u17], defers := [] } ∧ w' = w) (fun _ _ => 0) rfl ?_ ?_
    · go_wp2_with (first | (refine hc.mono ?_; rintro e w' ⟨rfl, rfl⟩) | fail)
      go_step3
      exact ⟨rfl, ⟨_, _, _, _, _, _, _, _, _, _, _, _, _, _, _, _, _, rfl, rfl⟩⟩
    · rintro a' w' ⟨u0, u1, u2, u3, u4, u6, u7, u8, u9, u10, u11, u12, u13, u14, u15, u16, u17, rfl, rfl⟩
      go_wp2
      simp only [Exit.jump]
      go_ret
      exact ⟨rfl, H.out⟩
  | some t =>
    by_cases hi : 0 ≤ i
    · have e : setRootOf (some t) i = 0 := by unfold setRootOf; rw [if_pos hi]; rfl
      rw [e, if_pos rfl]
      simp only [Option.isSome_some, if_true] at hc
      obtain ⟨gn, cn, gw, cw, b, h, k⟩ := h
      have f1 := h.top.frozen 1
      obtain ⟨c0, c1, c2, c3, c4, c5⟩ := h.cells
      have hm : Moved Q w (w.setCell ⟨p, 1, none⟩ (.int .i64 i)) := (Moved.refl Q w).setCell ⟨p, 1, none⟩ _ (.inl h.qp)
      have hmp : Moved (· = p) w (w.setCell ⟨p, 1, none⟩ (.int .i64 i)) := (Moved.refl (· = p) w).setCell ⟨p, 1, none⟩ _ (.inl rfl)
      have H : Hid (PgTo w Q (w.setCell ⟨p, 1, none⟩ (.int .i64 i)) r p { S with root := i } (some t)) :=
        Lib.hid ⟨Q, ⟨gn, cn, gw, cw, b, ⟨h.top.set 1 _, h.row.moved hmp h.ne, h.cap, h.max, h.qp, h.qn, h.ne⟩, ⟨k.row.moved hmp k.w1, k.cap, k.max, k.map.moved hmp k.b1, k.qw, k.qb, k.w1, k.w2, k.b1, k.b2, k.b3⟩⟩, hm, fun _ h => .inl h⟩
      clear h k hm hmp e
      go_enter Try.func50, Try.ntmps50
      go_wp2_with fail
      go_step3
      go_wp2_with (first | (refine hc.mono ?_; rintro e w' ⟨rfl, rfl⟩) | fail)
      go_step3
      go_wp2
      rw [Exit.noGoto_ret]
      go_ret
      exact ⟨rfl, H.out⟩
    · have e : setRootOf (some t) i = 1 := by unfold setRootOf; rw [if_neg hi]; rfl
      rw [e, if_neg (by decide)]
      simp only [Option.isSome_some, if_true] at hc
      clear h e
      go_enter Try.func50, Try.ntmps50
      go_wp2_with fail
      refine wp_scope_jumps 0 (fun a' w' => ∃ u0 u1 u2 u3 u4 u6 u7 u8 u9 u10 u11 u12 u13 u14 u15 u16 u17 : Value, a' = { tmps := #[u0, u1, u2, u3, u4, .int .i64 1, u6, u7, u8, u9, u10, u11, u12, u13, u14, u15, u16, u17], defers := [] } ∧ w' = w) (fun _ _ => 0) rfl ?_ ?_
      · go_wp2_with (first | (refine hc.mono ?_; rintro e w' ⟨rfl, rfl⟩) | fail)
        go_step3
        exact ⟨rfl, ⟨_, _, _, _, _, _, _, _, _, _, _, _, _, _, _, _, _, rfl, rfl⟩⟩
      · rintro a' w' ⟨u0, u1, u2, u3, u4, u6, u7, u8, u9, u10, u11, u12, u13, u14, u15, u16, u17, rfl, rfl⟩
        go_wp2
        simp only [Exit.jump]
        go_ret
        exact ⟨rfl, H.out⟩
end Go.Proofs.Ytcnfnpccbnnplaa
