/- A disk and its pager beside the call's own blocks: every call. -/
import Derived.Test.YtcnfnpccbnnplaaPgLog
import Derived.Test.YtcnfnpccbnnplaaPgCom
namespace Go.Proofs.Ytcnfnpccbnnplaa
open Go.RowKit Go.Maps
set_option maxRecDepth 100000

def Lx (w0 w : World) (X : Nat → Prop) (r p : Nat) (A : Ab) (S : Stt) (T : Option Tx) : Prop :=
  Below w0.heap.size w0 w ∧ (∀ k, X k → k < w.heap.size) ∧ ∃ P Q, DkA w P r A ∧ Pg w Q r p S T ∧ (∀ k, P k → w0.heap.size ≤ k ∧ k < w.heap.size ∧ ¬ X k) ∧ (∀ k, Q k → w0.heap.size ≤ k ∧ k < w.heap.size ∧ ¬ X k ∧ ¬ P k)
section
variable {w0 w w' : World} {X : Nat → Prop} {r p : Nat} {A : Ab} {S : Stt} {T : Option Tx}
theorem Lx.below (h : Lx w0 w X r p A S T) : Below w0.heap.size w0 w := h.1
theorem Lx.size (h : Lx w0 w X r p A S T) : w0.heap.size ≤ w.heap.size := h.1.size
theorem Lx.mv {P' : Nat → Prop} (h : Lx w0 w X r p A S T) (hm : Moved P' w w') (hP : ∀ k, P' k → X k ∧ w0.heap.size ≤ k) : Lx w0 w' X r p A S T := by
  obtain ⟨h1, h2, P, Q, h3, h4, h5, h6⟩ := h
  have hs := hm.size
  exact ⟨h1.trans (hm.below (fun k hk => (hP k hk).2) h1.size), fun k hk => Nat.lt_of_lt_of_le (h2 k hk) hs, P, Q, h3.moved hm (fun k hk e => (h5 k hk).2.2 (hP k e).1), h4.moved hm (fun k hk e => (h6 k hk).2.2.1 (hP k e).1),
    fun k hk => ⟨(h5 k hk).1, Nat.lt_of_lt_of_le (h5 k hk).2.1 hs, (h5 k hk).2.2⟩, fun k hk => ⟨(h6 k hk).1, Nat.lt_of_lt_of_le (h6 k hk).2.1 hs, (h6 k hk).2.2⟩⟩
theorem Lx.grow (h : Lx w0 w X r p A S T) (hb : Below w.heap.size w w') : Lx w0 w' X r p A S T := h.mv (Moved.of_below hb (fun _ => False)) (fun _ h => h.elim)
theorem Lx.take (h : Lx w0 w X r p A S T) (hb : Below w.heap.size w w') : Lx w0 w' (fun k => X k ∨ (w.heap.size ≤ k ∧ k < w'.heap.size)) r p A S T := by
  obtain ⟨h1, h2, P, Q, h3, h4, h5, h6⟩ := h
  have hs := hb.size
  refine ⟨h1.trans (hb.mono h1.size), fun k hk => ?_, P, Q, h3.below hb, h4.below hb, fun k hk => ?_, fun k hk => ?_⟩
  · rcases hk with hk | hk
    · exact Nat.lt_of_lt_of_le (h2 k hk) hs
    · exact hk.2
  · have := h5 k hk
    exact ⟨this.1, by omega, fun e => by rcases e with e | e; exact this.2.2 e; omega⟩
  · have := h6 k hk
    exact ⟨this.1, by omega, fun e => by rcases e with e | e; exact this.2.2.1 e; omega, this.2.2.2⟩
theorem Lx.less {X' : Nat → Prop} (h : Lx w0 w X r p A S T) (hX : ∀ k, X' k → X k) : Lx w0 w X' r p A S T := by
  obtain ⟨h1, h2, P, Q, h3, h4, h5, h6⟩ := h
  exact ⟨h1, fun k hk => h2 k (hX k hk), P, Q, h3, h4, fun k hk => ⟨(h5 k hk).1, (h5 k hk).2.1, fun e => (h5 k hk).2.2 (hX k e)⟩, fun k hk => ⟨(h6 k hk).1, (h6 k hk).2.1, fun e => (h6 k hk).2.2.1 (hX k e), (h6 k hk).2.2.2⟩⟩
theorem Lx.turn {S' : Stt} {T' : Option Tx} (h : Lx w0 w X r p A S T) {f : FuncId} {args : Array Value} {R : Ending → Prop} (hc : ∀ Q, Pg w Q r p S T → Calls Try.prog f args w fun e w' => R e ∧ PgTo w Q w' r p S' T') :
    Calls Try.prog f args w fun e w' => R e ∧ Lx w0 w' X r p A S' T' ∧ Mx w0 X w w' := by
  obtain ⟨h1, h2, P, Q, h3, h4, h5, h6⟩ := h
  refine (hc Q h4).mono ?_
  rintro e w' ⟨hR, Q', g1, g2, g3⟩
  have hs := g2.size
  have hm : Mx w0 X w w' := g2.mono (fun k hk => ⟨(h6 k hk).1, (h6 k hk).2.2.1⟩)
  refine ⟨hR, ⟨h1.trans (hm.below (fun k hk => hk.1) h1.size), fun k hk => Nat.lt_of_lt_of_le (h2 k hk) hs, P, _, h3.moved g2 (fun k hk e => (h6 k e).2.2.2 hk), g1.shrink, fun k hk => ⟨(h5 k hk).1, Nat.lt_of_lt_of_le (h5 k hk).2.1 hs, (h5 k hk).2.2⟩, fun k hk => ?_⟩, hm⟩
  rcases g3 k hk.1 with e | e
  · exact ⟨(h6 k e).1, hk.2, (h6 k e).2.2⟩
  · refine ⟨Nat.le_trans h1.size e, hk.2, fun hx => ?_, fun hp => ?_⟩
    · have := h2 k hx; omega
    · have := (h5 k hp).2.1; omega
theorem Lx.pg (h : Lx w0 w X r p A S T) : ∃ Q, Pg w Q r p S T := by
  obtain ⟨h1, h2, P, Q, h3, h4, h5, h6⟩ := h
  exact ⟨Q, h4⟩
end

/-- A disk that holds the pages G, and its pager, with H under way; c: how much was done. -/
def Ps (w0 w : World) (X : Nat → Prop) (r p N c : Nat) (G : Lg) (H : Option Lg) : Prop :=
  ∃ A K T, Lx w0 w X r p A ((H.getD G).stt N) T ∧ Synced A K ∧ Holds K N G ∧ A.stop = 0 ∧ A.ops ≤ 810 * c ∧ match H with
    | none => T = none
    | some H => ∃ t, T = some t ∧ Tr N G H t ∧ t.n ≤ c

section
variable {w0 w w' : World} {X : Nat → Prop} {r p N c : Nat} {G : Lg} {H : Option Lg}
theorem Ps.below (h : Ps w0 w X r p N c G H) : Below w0.heap.size w0 w := by obtain ⟨A, K, T, h, -⟩ := h; exact h.below
theorem Ps.mv {P' : Nat → Prop} (h : Ps w0 w X r p N c G H) (hm : Moved P' w w') (hP : ∀ k, P' k → X k ∧ w0.heap.size ≤ k) : Ps w0 w' X r p N c G H := by
  obtain ⟨A, K, T, h, k⟩ := h; exact ⟨A, K, T, h.mv hm hP, k⟩
theorem Ps.grow (h : Ps w0 w X r p N c G H) (hb : Below w.heap.size w w') : Ps w0 w' X r p N c G H := by
  obtain ⟨A, K, T, h, k⟩ := h; exact ⟨A, K, T, h.grow hb, k⟩
theorem Ps.take (h : Ps w0 w X r p N c G H) (hb : Below w.heap.size w w') : Ps w0 w' (fun k => X k ∨ (w.heap.size ≤ k ∧ k < w'.heap.size)) r p N c G H := by
  obtain ⟨A, K, T, h, k⟩ := h; exact ⟨A, K, T, h.take hb, k⟩
theorem Ps.more (h : Ps w0 w X r p N c G H) (c' : Nat) (hc : c ≤ c') : Ps w0 w X r p N c' G H := by
  obtain ⟨A, K, T, h, k1, k2, k3, k4, k5⟩ := h
  refine ⟨A, K, T, h, k1, k2, k3, by omega, ?_⟩
  cases H with
  | none => exact k5
  | some H => obtain ⟨t, t1, t2, t3⟩ := k5; exact ⟨t, t1, t2, by omega⟩
theorem Ps.chn (h : Ps w0 w X r p N c G H) : Chn N (H.getD G).free := by
  obtain ⟨A, K, T, h, k1, k2, k3, k4, k5⟩ := h
  cases H with
  | none => exact k2.chn
  | some H => obtain ⟨t, t1, t2, t3⟩ := k5; exact t2.chn
theorem Ps.most (h : Ps w0 w X r p N c G H) : N ≤ 2000 := by
  obtain ⟨A, K, T, h, k1, k2, k3, k4, k5⟩ := h
  exact k2.most
theorem Ps.long (h : Ps w0 w X r p N c G H) (i : Nat) (hi : (H.getD G).used N i) : ((H.getD G).page i).length = 504 := by
  obtain ⟨A, K, T, h, k1, k2, k3, k4, k5⟩ := h
  cases H with
  | none => exact k2.long i hi
  | some H => obtain ⟨t, t1, t2, t3⟩ := k5; exact t2.long i hi

theorem ps_root (h : Ps w0 w X r p N c G H) : Calls Try.prog 57 #[.pointer (some ⟨p, 0, none⟩)] w fun e w' => e = .returned (.int .i64 (H.getD G).root) ∧ w' = w := by
  obtain ⟨A, K, T, h, -⟩ := h
  obtain ⟨Q, hq⟩ := h.pg
  exact proot_any hq
theorem ps_free (h : Ps w0 w X r p N c G H) : Calls Try.prog 36 #[.pointer (some ⟨p, 0, none⟩)] w fun e w' => e = .returned (.int .i64 ((H.getD G).free.length : Nat)) ∧ w' = w := by
  have hc := h.chn
  obtain ⟨A, K, T, h, -⟩ := h
  obtain ⟨Q, hq⟩ := h.pg
  have := free_any hq
  rwa [show frees ((H.getD G).stt N).next = (H.getD G).free.length from frees_chn hc] at this

theorem ps_begin (h : Ps w0 w X r p N c G none) : Calls Try.prog 13 #[.pointer (some ⟨p, 0, none⟩)] w fun e w' => e = .returned (.int .i64 0) ∧ Ps w0 w' X r p N c G (some G) ∧ Mx w0 X w w' := by
  obtain ⟨A, K, T, h, k1, k2, k3, k4, rfl⟩ := h
  have hl : (G.stt N).next.length = N := nextOf_length _ _
  have hpos := k2.chn.pos
  have hmost := k2.most
  refine (h.turn (R := fun e => e = .returned (.int .i64 0)) (T' := some ⟨G.stt N, fun _ => none, 0⟩) (S' := G.stt N) (fun Q hq => begin_open hq (by show 0 < (G.stt N).next.length; omega) (by show (G.stt N).next.length ≤ 1000000; omega))).mono ?_
  rintro e w' ⟨rfl, g1, g2⟩
  exact ⟨rfl, ⟨A, K, _, g1, k1, k2, k3, k4, _, rfl, Tr.begin k2.chn k2.wf k2.long, Nat.zero_le _⟩, g2⟩
theorem ps_busy {H' : Lg} (h : Ps w0 w X r p N c G (some H')) : Calls Try.prog 13 #[.pointer (some ⟨p, 0, none⟩)] w fun e w' => e = .returned (.int .i64 12) ∧ w' = w := by
  obtain ⟨A, K, T, h, k1, k2, k3, k4, t, rfl, -⟩ := h
  obtain ⟨Q, hq⟩ := h.pg
  exact begin_busy hq
theorem ps_abort (h : Ps w0 w X r p N c G H) : Calls Try.prog 23 #[.pointer (some ⟨p, 0, none⟩)] w fun e w' => e = .returned (.tuple #[]) ∧ Ps w0 w' X r p N c G none ∧ Mx w0 X w w' := by
  obtain ⟨A, K, T, h, k1, k2, k3, k4, k5⟩ := h
  refine (h.turn (R := fun e => e = .returned (.tuple #[])) (T' := none) (S' := wasOf ((H.getD G).stt N) T) (fun Q hq => abort_any hq)).mono ?_
  rintro e w' ⟨rfl, g1, g2⟩
  refine ⟨rfl, ⟨A, K, _, ?_, k1, k2, k3, k4, rfl⟩, g2⟩
  cases H with
  | none => subst k5; exact g1
  | some H =>
    obtain ⟨t, rfl, t2, -⟩ := k5
    rw [show wasOf ((Option.getD (some H) G).stt N) (some t) = t.was from rfl, t2.was] at g1
    exact g1

/-- What SetRoot answers. -/
def lgRoot (H : Option Lg) (i : Int) : Int := if H.isSome then (if 0 ≤ i then 0 else 1) else 12
theorem ps_setroot (i : Int) (hi : (Lit.int .i64 i).wf = true) (h : Ps w0 w X r p N c G H) : Calls Try.prog 50 #[.pointer (some ⟨p, 0, none⟩), .int .i64 i] w fun e w' => e = .returned (.int .i64 (lgRoot H i)) ∧
    Ps w0 w' X r p N c G (if 0 ≤ i then H.map (fun H => { H with root := i }) else H) ∧ Mx w0 X w w' := by
  obtain ⟨A, K, T, h, k1, k2, k3, k4, k5⟩ := h
  refine (h.turn (R := fun e => e = .returned (.int .i64 (setRootOf T i))) (T' := T) (S' := if setRootOf T i = 0 then { (H.getD G).stt N with root := i } else (H.getD G).stt N) (fun Q hq => setroot_any hq i)).mono ?_
  rintro e w' ⟨rfl, g1, g2⟩
  cases H with
  | none =>
    subst k5
    refine ⟨rfl, ⟨A, K, none, ?_, k1, k2, k3, k4, ?_⟩, g2⟩
    · rw [if_neg (by rw [show setRootOf none i = 12 from rfl]; decide)] at g1
      by_cases hi0 : 0 ≤ i
      · rw [if_pos hi0]; exact g1
      · rw [if_neg hi0]; exact g1
    · by_cases hi0 : 0 ≤ i
      · rw [if_pos hi0]; rfl
      · rw [if_neg hi0]
  | some H =>
    obtain ⟨t, rfl, t2, t3⟩ := k5
    by_cases hi0 : 0 ≤ i
    · have e : setRootOf (some t) i = 0 := by unfold setRootOf; rw [if_pos hi0]; rfl
      rw [e, if_pos rfl] at g1
      refine ⟨by rw [e]; unfold lgRoot; rw [if_pos hi0]; rfl, ⟨A, K, some t, ?_, k1, k2, k3, k4, ?_⟩, g2⟩
      · rw [if_pos hi0]; exact g1
      · rw [if_pos hi0]; exact ⟨t, rfl, t2.rootP i hi, t3⟩
    · have e : setRootOf (some t) i = 1 := by unfold setRootOf; rw [if_neg hi0]; rfl
      rw [e, if_neg (by decide)] at g1
      refine ⟨by rw [e]; unfold lgRoot; rw [if_neg hi0]; rfl, ⟨A, K, some t, ?_, k1, k2, k3, k4, ?_⟩, g2⟩
      · rw [if_neg hi0]; exact g1
      · rw [if_neg hi0]; exact ⟨t, rfl, t2, t3⟩
end
end Go.Proofs.Ytcnfnpccbnnplaa
