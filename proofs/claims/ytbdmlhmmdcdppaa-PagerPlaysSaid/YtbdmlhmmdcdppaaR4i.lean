/- triadref4's calls beside the log's. -/
import Derived.Test.YtbdmlhmmdcdppaaR4h
namespace Go.Proofs.Ytbdmlhmmdcdppaa
open Go.RowKit Go.Maps
set_option maxRecDepth 100000

/-- The states lie beside the log's. -/
def Rl (N : Nat) (S : PS) (T : Option PS) (G : Lg) (H : Option Lg) : Prop :=
  RelS N S G ∧ match T, H with
    | none, none => True
    | some t, some h => RelS N t h
    | _, _ => False
section
variable {w0 w w' : World} {x r p N c : Nat} {S : PS} {T : Option PS} {G : Lg} {H : Option Lg} {Q : Nat → Prop}

theorem Rl.both (h : Rl N S T G H) : RelS N (T.getD S) (H.getD G) := by
  obtain ⟨h1, h2⟩ := h
  cases T <;> cases H <;> first | exact h1 | exact h2 | exact h2.elim
theorem Rl.cases (h : Rl N S T G H) : (T = none ∧ H = none) ∨ ∃ t h', T = some t ∧ H = some h' ∧ RelS N t h' := by
  obtain ⟨h1, h2⟩ := h
  cases T <;> cases H
  · exact .inl ⟨rfl, rfl⟩
  · exact h2.elim
  · exact h2.elim
  · exact .inr ⟨_, _, rfl, rfl, h2⟩

/-- A call of triadref4's, its end among others. -/
theorem Pr.refers {f : FuncId} {args : Array Value} {R : Ending → Prop} {C : PS → Option PS → Prop} (h : Pr w0 w x r p N c S T G H)
    (hc : ∀ Q, Rp w Q x N S T → Calls Try.prog f args w fun e w' => R e ∧ ∃ S' T', C S' T' ∧ Rp w' (Gr Q w w') x N S' T' ∧ Moved Q w w') :
    Calls Try.prog f args w fun e w' => R e ∧ ∃ S' T', C S' T' ∧ Pr w0 w' x r p N c S' T' G H := by
  obtain ⟨Q, h1, h2, h3⟩ := h
  refine (hc Q h1).mono ?_
  rintro e w' ⟨hR, S', T', hC, g1, g2⟩
  exact ⟨hR, S', T', hC, Gr Q w w', g1, h2.mvx g2 (fun k hk => ⟨hk, h3 k hk⟩) (fun k hk => hk), fun k hk => hk.elim (h3 k) (fun e => Nat.le_trans h2.below.size e.1)⟩

theorem Rp.gr (h : Rp w Q x N S T) (w1 : World) : Rp w (Gr Q w1 w) x N S T := h.mono (fun _ h => .inl h)

theorem rnew_rel (h : Rp w Q x N S T) (hr : Rl N S T G H) (hN : N ≤ 400) :
    Calls Try.prog 27 #[.pointer (some ⟨x, 0, none⟩)] w fun e w' => e = .returned (.tuple #[.int .i64 (lgNew H).1, .int .i64 (lgNew H).2.1]) ∧
      ∃ S' T', Rl N S' T' G (lgNew H).2.2 ∧ Rp w' (Gr Q w w') x N S' T' ∧ Moved Q w w' := by
  have h1 := hr.1
  rcases hr.cases with ⟨rfl, rfl⟩ | ⟨t, H', rfl, rfl, h2⟩
  · refine (rnew_busy h).mono ?_
    rintro e w' ⟨rfl, he⟩
    subst he
    exact ⟨rfl, S, none, ⟨h1, trivial⟩, h.gr _, Moved.refl _ _⟩
  · have hlen : H'.free.length < N := by have := h2.num; omega
    rcases List.eq_nil_or_concat t.gone with hg | ⟨l, a, hg⟩
    · by_cases hn : t.next < N
      · obtain ⟨rest, hf, hrel⟩ := h2.new_fresh hN hg hn
        have e : lgNew (some H') = ((t.next : Int), 0, some { H' with free := rest, page := upd H'.page t.next (zeros 504) }) := by
          unfold lgNew; simp only [hf]
        rw [e]
        refine (rnew_fresh h hg hn (by omega) (by have := h2.num; omega)).mono ?_
        rintro e w' ⟨rfl, g1, g2⟩
        exact ⟨rfl, S, _, ⟨h1, hrel⟩, g1.mono (fun _ h => .inl h), g2⟩
      · have hf := h2.new_full hg (by omega)
        have e : lgNew (some H') = (0, 14, some H') := by unfold lgNew; simp only [hf]
        rw [e]
        refine (rnew_full h hg (by omega)).mono ?_
        rintro e w' ⟨rfl, he⟩
        subst he
        exact ⟨rfl, S, some t, ⟨h1, h2⟩, h.gr _, Moved.refl _ _⟩
    · have hg' : t.gone = l ++ [a] := by rw [hg]; simp
      obtain ⟨rest, hf, ha1, ha2, hrel⟩ := h2.new_gone hg'
      have e : lgNew (some H') = (a, 0, some { H' with free := rest, page := upd H'.page a.toNat (zeros 504) }) := by
        unfold lgNew; simp only [hf]
        rw [show ((a.toNat : Nat) : Int) = a by omega]
      rw [e]
      have hgl := h2.ok.gone
      rw [hg'] at hgl
      refine (rnew_gone h l a hg' ⟨by omega, by omega⟩ (by simp at hgl; omega) (by have := h2.num; omega)).mono ?_
      rintro e w' ⟨rfl, g1, g2⟩
      exact ⟨rfl, S, _, ⟨h1, hrel⟩, g1.mono (fun _ h => .inl h), g2⟩

theorem rput_rel (i : Int) (hi : (Lit.int .i64 i).wf = true) (v : Value) (l : List UInt8) (hv : Bs w v l) (h : Rp w Q x N S T) (hr : Rl N S T G H) (hN : N ≤ 400) :
    Calls Try.prog 37 #[.pointer (some ⟨x, 0, none⟩), .int .i64 i, v] w fun e w' => e = .returned (.int .i64 (lgPut N i l H).1) ∧
      ∃ S' T', Rl N S' T' G (lgPut N i l H).2 ∧ Rp w' (Gr Q w w') x N S' T' ∧ Moved Q w w' := by
  have h1 := hr.1
  rcases hr.cases with ⟨rfl, rfl⟩ | ⟨t, H', rfl, rfl, h2⟩
  · refine (rput_busy i v h).mono ?_
    rintro e w' ⟨rfl, he⟩
    subst he
    exact ⟨rfl, S, none, ⟨h1, trivial⟩, h.gr _, Moved.refl _ _⟩
  · rw [lgPut_some]
    by_cases hu : lgUsed N H' i
    · rw [if_pos hu]
      have hf : (t.f i).isSome = true := by rw [h2.is]; simp [hu]
      by_cases hl : 504 < l.length
      · rw [if_pos hl]
        refine (rput_long i hi v l hv hl h hf).mono ?_
        rintro e w' ⟨rfl, he⟩
        subst he
        exact ⟨rfl, S, some t, ⟨h1, h2⟩, h.gr _, Moved.refl _ _⟩
      · rw [if_neg hl]
        refine (rput_ok i hi v l hv (by omega) h hf (by have := h2.num; simp [maxLen]; omega)).mono ?_
        rintro e w' ⟨rfl, g1, g2⟩
        exact ⟨rfl, S, _, ⟨h1, h2.put hu (page_length l (by omega))⟩, g1.mono (fun _ h => .inl h), g2⟩
    · rw [if_neg hu]
      refine (rput_arg i hi v h (by rw [h2.is]; simp [hu])).mono ?_
      rintro e w' ⟨rfl, he⟩
      subst he
      exact ⟨rfl, S, some t, ⟨h1, h2⟩, h.gr _, Moved.refl _ _⟩

theorem rdrop_rel (i : Int) (hi : (Lit.int .i64 i).wf = true) (h : Rp w Q x N S T) (hr : Rl N S T G H) (hN : N ≤ 400) :
    Calls Try.prog 38 #[.pointer (some ⟨x, 0, none⟩), .int .i64 i] w fun e w' => e = .returned (.int .i64 (lgDrop N i H).1) ∧
      ∃ S' T', Rl N S' T' G (lgDrop N i H).2 ∧ Rp w' (Gr Q w w') x N S' T' ∧ Moved Q w w' := by
  have h1 := hr.1
  rcases hr.cases with ⟨rfl, rfl⟩ | ⟨t, H', rfl, rfl, h2⟩
  · refine (rdrop_busy i h).mono ?_
    rintro e w' ⟨rfl, he⟩
    subst he
    exact ⟨rfl, S, none, ⟨h1, trivial⟩, h.gr _, Moved.refl _ _⟩
  · rw [lgDrop_some]
    by_cases hu : lgUsed N H' i
    · rw [if_pos hu]
      refine (rdrop_ok i hi h (by rw [h2.is]; simp [hu]) (by have := h2.ok.gone; omega)).mono ?_
      rintro e w' ⟨rfl, g1, g2⟩
      exact ⟨rfl, S, _, ⟨h1, h2.drop hN hu⟩, g1, g2⟩
    · rw [if_neg hu]
      refine (rdrop_arg i hi h (by rw [h2.is]; simp [hu])).mono ?_
      rintro e w' ⟨rfl, he⟩
      subst he
      exact ⟨rfl, S, some t, ⟨h1, h2⟩, h.gr _, Moved.refl _ _⟩

theorem rbegin_rel (h : Rp w Q x N S T) (hr : Rl N S T G H) :
    Calls Try.prog 20 #[.pointer (some ⟨x, 0, none⟩)] w fun e w' => e = .returned (.int .i64 (if H.isSome then 12 else 0)) ∧
      ∃ S' T', Rl N S' T' G (some (H.getD G)) ∧ Rp w' (Gr Q w w') x N S' T' ∧ Moved Q w w' := by
  have h1 := hr.1
  rcases hr.cases with ⟨rfl, rfl⟩ | ⟨t, H', rfl, rfl, h2⟩
  · refine (rbegin_ok h h1.ok).mono ?_
    rintro e w' ⟨rfl, g1, g2⟩
    exact ⟨rfl, S, some S, ⟨h1, h1⟩, g1, g2⟩
  · refine (rbegin_busy h).mono ?_
    rintro e w' ⟨rfl, he⟩
    subst he
    exact ⟨rfl, S, some t, ⟨h1, h2⟩, h.gr _, Moved.refl _ _⟩

theorem rcommit_rel (h : Rp w Q x N S T) (hr : Rl N S T G H) :
    Calls Try.prog 22 #[.pointer (some ⟨x, 0, none⟩)] w fun e w' => e = .returned (.int .i64 (lgCommit G H).1) ∧
      ∃ S' T', Rl N S' T' (lgCommit G H).2 none ∧ Rp w' (Gr Q w w') x N S' T' ∧ Moved Q w w' := by
  have h1 := hr.1
  rcases hr.cases with ⟨rfl, rfl⟩ | ⟨t, H', rfl, rfl, h2⟩
  · refine (rcommit_busy h).mono ?_
    rintro e w' ⟨rfl, he⟩
    subst he
    exact ⟨rfl, S, none, ⟨h1, trivial⟩, h.gr _, Moved.refl _ _⟩
  · have hx : Q x := by obtain ⟨mS, gS, mT, gT, nT, rT, QS, QT, hb, hx, -⟩ := h; exact hx
    refine (rcommit4_any h).mono ?_
    rintro e w' ⟨rfl, g1, g2⟩
    exact ⟨rfl, t, none, ⟨h2, trivial⟩, g1.mono (fun _ h => .inl h), g2.mono (fun _ e => e ▸ hx)⟩

theorem rabort_rel (h : Rp w Q x N S T) (hr : Rl N S T G H) :
    Calls Try.prog 16 #[.pointer (some ⟨x, 0, none⟩)] w fun e w' => e = .returned (.tuple #[]) ∧
      ∃ S' T', Rl N S' T' G none ∧ Rp w' (Gr Q w w') x N S' T' ∧ Moved Q w w' := by
  have hx : Q x := by obtain ⟨mS, gS, mT, gT, nT, rT, QS, QT, hb, hx, -⟩ := h; exact hx
  refine (rabort_any h).mono ?_
  rintro e w' ⟨rfl, g1, g2⟩
  exact ⟨rfl, S, none, ⟨hr.1, trivial⟩, g1.mono (fun _ h => .inl h), g2.mono (fun _ e => e ▸ hx)⟩

theorem rsetroot_rel (i : Int) (h : Rp w Q x N S T) (hr : Rl N S T G H) :
    Calls Try.prog 39 #[.pointer (some ⟨x, 0, none⟩), .int .i64 i] w fun e w' => e = .returned (.int .i64 (lgRoot H i)) ∧
      ∃ S' T', Rl N S' T' G (if 0 ≤ i then H.map (fun h => { h with root := i }) else H) ∧ Rp w' (Gr Q w w') x N S' T' ∧ Moved Q w w' := by
  have hx : Q x := by obtain ⟨mS, gS, mT, gT, nT, rT, QS, QT, hb, hx, -⟩ := h; exact hx
  have h1 := hr.1
  rcases hr.cases with ⟨rfl, rfl⟩ | ⟨t, H', rfl, rfl, h2⟩
  · refine (rsetroot_busy i h).mono ?_
    rintro e w' ⟨rfl, he⟩
    subst he
    exact ⟨by unfold lgRoot; simp, S, none, by split <;> exact ⟨h1, trivial⟩, h.gr _, Moved.refl _ _⟩
  · by_cases hi : 0 ≤ i
    · refine (rsetroot_any i h hi).mono ?_
      rintro e w' ⟨rfl, g1, g2⟩
      exact ⟨by unfold lgRoot; simp [hi], S, _, by rw [if_pos hi]; exact ⟨h1, h2.rooted i⟩, g1.mono (fun _ h => .inl h), g2.mono (fun _ e => e ▸ hx)⟩
    · refine (rsetroot_arg i h (by omega)).mono ?_
      rintro e w' ⟨rfl, he⟩
      subst he
      exact ⟨by unfold lgRoot; simp [hi], S, some t, by rw [if_neg hi]; exact ⟨h1, h2⟩, h.gr _, Moved.refl _ _⟩
end
end Go.Proofs.Ytbdmlhmmdcdppaa
