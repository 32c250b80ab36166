/- A disk and its pager beside the call's own blocks: New, Put, Drop, Get, Commit, Open. -/
import Derived.Test.YtcnfnpccbnnplaaPgSx
namespace Go.Proofs.Ytcnfnpccbnnplaa
open Go.RowKit Go.Maps
set_option maxRecDepth 100000

def lgNew : Option Lg → Int × Int × Option Lg
  | none => (0, 12, none)
  | some H => match H.free with
    | [] => (0, 14, some H)
    | a :: rest => ((a : Int), 0, some { H with free := rest, page := upd H.page a (zeros 504) })
def lgUsed (N : Nat) (H : Lg) (i : Int) : Prop := 1 ≤ i ∧ i < N ∧ i.toNat ∉ H.free
instance (N : Nat) (H : Lg) (i : Int) : Decidable (lgUsed N H i) := by unfold lgUsed; infer_instance
def lgPut (N : Nat) (i : Int) (l : List UInt8) : Option Lg → Int × Option Lg
  | none => (12, none)
  | some H => if lgUsed N H i then (if 504 < l.length then (5, some H) else (0, some { H with page := upd H.page i.toNat (page l) })) else (1, some H)
def lgDrop (N : Nat) (i : Int) : Option Lg → Int × Option Lg
  | none => (12, none)
  | some H => if lgUsed N H i then (0, some { H with free := i.toNat :: H.free }) else (1, some H)

theorem lgPut_some (N : Nat) (i : Int) (l : List UInt8) (H : Lg) : lgPut N i l (some H) = if lgUsed N H i then (if 504 < l.length then (5, some H) else (0, some { H with page := upd H.page i.toNat (page l) })) else (1, some H) := rfl
theorem lgDrop_some (N : Nat) (i : Int) (H : Lg) : lgDrop N i (some H) = if lgUsed N H i then (0, some { H with free := i.toNat :: H.free }) else (1, some H) := rfl
section
variable {w0 w w' : World} {X : Nat → Prop} {r p N c : Nat} {G : Lg} {H : Option Lg}

theorem ps_new (h : Ps w0 w X r p N c G H) (hc : c < 123) : Calls Try.prog 24 #[.pointer (some ⟨p, 0, none⟩)] w fun e w' => e = .returned (.tuple #[.int .i64 (lgNew H).1, .int .i64 (lgNew H).2.1]) ∧
    Ps w0 w' X r p N (c + 1) G (lgNew H).2.2 ∧ Mx w0 X w w' := by
  have hh := h
  obtain ⟨A, K, T, h, k1, k2, k3, k4, k5⟩ := h
  cases H with
  | none =>
    subst k5
    obtain ⟨Q, hq⟩ := h.pg
    refine (pnew_closed hq).mono ?_
    rintro e w' ⟨rfl, he⟩
    subst he
    exact ⟨rfl, hh.more _ (by omega), Mx.refl _ _ _⟩
  | some H =>
    obtain ⟨t, rfl, t2, t3⟩ := k5
    have hfr : frees (H.stt N).next = H.free.length := frees_chn t2.chn
    cases hf : H.free with
    | nil =>
      obtain ⟨Q, hq⟩ := h.pg
      refine (pnew_full hq (by show frees (H.stt N).next = 0; rw [hfr, hf]; rfl)).mono ?_
      rintro e w' ⟨rfl, he⟩
      subst he
      have e : lgNew (some H) = (0, 14, some H) := by unfold lgNew; simp only [hf]
      rw [e]
      exact ⟨rfl, hh.more _ (by omega), Mx.refl _ _ _⟩
    | cons a rest =>
      have e : lgNew (some H) = ((a : Int), 0, some { H with free := rest, page := upd H.page a (zeros 504) }) := by unfold lgNew; simp only [hf]
      rw [e]
      have hch := t2.chn
      rw [hf] at hch
      have ha := hch.all a (by simp)
      have hl : (H.stt N).next.length = N := nextOf_length _ _
      have hN : (H.stt N).next = nextOf N (a :: rest) := by show nextOf N H.free = _; rw [hf]
      refine (h.turn (R := fun e => e = .returned (.tuple #[.int .i64 a, .int .i64 0])) (T' := some (t.put a (zeros 504))) (S' := { H.stt N with next := ((H.stt N).next.set 0 ((H.stt N).next.getD a 0)).set a 0 })
        (fun Q hq => pnew_good hq a (by show 0 < (H.stt N).next.length; omega) (by show (H.stt N).next.getD 0 0 = a; rw [hN, nextOf_zero _ hch.pos]; rfl) (by omega) (by show a < (H.stt N).next.length; omega) (by show 0 < frees (H.stt N).next; rw [hfr, hf]; simp) (by omega))).mono ?_
      rintro e w' ⟨rfl, g1, g2⟩
      refine ⟨rfl, ⟨A, K, _, ?_, k1, k2, k3, by omega, _, rfl, t2.newP hf, ?_⟩, g2⟩
      · rw [hN, next_new hch] at g1
        exact g1
      · show (if (t.f a).isSome then t.n else t.n + 1) ≤ c + 1
        split <;> omega

theorem used_absent {H : Lg} (hch : Chn N H.free) (i : Int) : absentOf (H.stt N) i = if lgUsed N H i then 0 else 1 := absent_chn hch H.root i

theorem ps_put (i : Int) (hi : (Lit.int .i64 i).wf = true) (v : Value) (l : List UInt8) (hv : Bs w v l) (h : Ps w0 w X r p N c G H) (hc : c < 123) : Calls Try.prog 46 #[.pointer (some ⟨p, 0, none⟩), .int .i64 i, v] w fun e w' => e = .returned (.int .i64 (lgPut N i l H).1) ∧
    Ps w0 w' X r p N (c + 1) G (lgPut N i l H).2 ∧ Mx w0 X w w' := by
  have hh := h
  obtain ⟨A, K, T, h, k1, k2, k3, k4, k5⟩ := h
  cases H with
  | none =>
    subst k5
    obtain ⟨Q, hq⟩ := h.pg
    have e : putOf ((Option.getD none G).stt N) none i l = 12 := rfl
    refine (put_bad hq i v l hv (by rw [e]; decide)).mono ?_
    rintro e' w' ⟨rfl, he⟩
    subst he
    exact ⟨rfl, hh.more _ (by omega), Mx.refl _ _ _⟩
  | some H =>
    obtain ⟨t, rfl, t2, t3⟩ := k5
    have hab := used_absent (N := N) t2.chn i
    by_cases hu : lgUsed N H i
    · rw [if_pos hu] at hab
      by_cases hlen : 504 < l.length
      · obtain ⟨Q, hq⟩ := h.pg
        have e : putOf (H.stt N) (some t) i l = 5 := by
          unfold putOf pfaultOf
          simp only [Option.isSome_some, if_true, hab]
          rw [if_neg (by simp), if_pos hlen]
        refine (put_bad hq i v l hv (by show putOf (H.stt N) (some t) i l ≠ 0; rw [e]; decide)).mono ?_
        rintro e' w' ⟨rfl, he⟩
        subst he
        refine ⟨?_, ?_, Mx.refl _ _ _⟩
        · show Ending.returned (.int .i64 (putOf (H.stt N) (some t) i l)) = _
          rw [e]; rw [lgPut_some]; rw [if_pos hu, if_pos hlen]
        · rw [lgPut_some]; rw [if_pos hu, if_pos hlen]; exact hh.more _ (by omega)
      · have e : lgPut N i l (some H) = (0, some { H with page := upd H.page i.toNat (page l) }) := by rw [lgPut_some]; rw [if_pos hu, if_neg hlen]
        rw [e]
        obtain ⟨k, rfl⟩ : ∃ k : Nat, i = k := ⟨i.toNat, by have := hu.1; omega⟩
        refine (h.turn (R := fun e => e = .returned (.int .i64 0)) (T' := some (t.put k (page l))) (S' := H.stt N) (fun Q hq => put_good hq k hi v l hv (by omega) hab (by omega))).mono ?_
        rintro e' w' ⟨rfl, g1, g2⟩
        refine ⟨rfl, ⟨A, K, _, g1, k1, k2, k3, by omega, _, rfl, ?_, ?_⟩, g2⟩
        · exact t2.putP k (page l) ⟨by have := hu.1; omega, by have := hu.2.1; omega, by have := hu.2.2; simpa using this⟩ (page_length l (by omega))
        · show (if (t.f k).isSome then t.n else t.n + 1) ≤ c + 1
          split <;> omega
    · rw [if_neg hu] at hab
      obtain ⟨Q, hq⟩ := h.pg
      have e : putOf (H.stt N) (some t) i l = 1 := by
        unfold putOf pfaultOf
        simp only [Option.isSome_some, if_true, hab]
        rw [if_pos (by decide)]
      refine (put_bad hq i v l hv (by show putOf (H.stt N) (some t) i l ≠ 0; rw [e]; decide)).mono ?_
      rintro e' w' ⟨rfl, he⟩
      subst he
      refine ⟨?_, ?_, Mx.refl _ _ _⟩
      · show Ending.returned (.int .i64 (putOf (H.stt N) (some t) i l)) = _
        rw [e]; rw [lgPut_some]; rw [if_neg hu]
      · rw [lgPut_some]; rw [if_neg hu]; exact hh.more _ (by omega)

theorem ps_drop (i : Int) (h : Ps w0 w X r p N c G H) : Calls Try.prog 48 #[.pointer (some ⟨p, 0, none⟩), .int .i64 i] w fun e w' => e = .returned (.int .i64 (lgDrop N i H).1) ∧
    Ps w0 w' X r p N (c + 1) G (lgDrop N i H).2 ∧ Mx w0 X w w' := by
  have hh := h
  obtain ⟨A, K, T, h, k1, k2, k3, k4, k5⟩ := h
  cases H with
  | none =>
    subst k5
    obtain ⟨Q, hq⟩ := h.pg
    refine (drop_bad hq i (by show (12 : Int) ≠ 0; decide)).mono ?_
    rintro e' w' ⟨rfl, he⟩
    subst he
    exact ⟨rfl, hh.more _ (by omega), Mx.refl _ _ _⟩
  | some H =>
    obtain ⟨t, rfl, t2, t3⟩ := k5
    have hab := used_absent (N := N) t2.chn i
    by_cases hu : lgUsed N H i
    · rw [if_pos hu] at hab
      have e : lgDrop N i (some H) = (0, some { H with free := i.toNat :: H.free }) := by rw [lgDrop_some]; rw [if_pos hu]
      rw [e]
      obtain ⟨k, rfl⟩ : ∃ k : Nat, i = k := ⟨i.toNat, by have := hu.1; omega⟩
      have hl : (H.stt N).next.length = N := nextOf_length _ _
      refine (h.turn (R := fun e => e = .returned (.int .i64 0)) (T' := some (t.drop k)) (S' := { H.stt N with next := ((H.stt N).next.set 0 (k : Int)).set k ((H.stt N).next.getD 0 0) }) (fun Q hq => drop_good hq k hab (by show 0 < (H.stt N).next.length; have := t2.chn.pos; omega))).mono ?_
      rintro e' w' ⟨rfl, g1, g2⟩
      have hku : H.used N k := ⟨by have := hu.1; omega, by have := hu.2.1; omega, by have := hu.2.2; simpa using this⟩
      refine ⟨rfl, ⟨A, K, _, ?_, k1, k2, k3, by omega, _, rfl, t2.dropP k hku, ?_⟩, g2⟩
      · rw [show ((H.stt N).next.set 0 (k : Int)).set k ((H.stt N).next.getD 0 0) = nextOf N (k :: H.free) from next_drop t2.chn hku.1] at g1
        exact g1
      · show (if (t.f k).isSome then t.n - 1 else t.n) ≤ c + 1
        split <;> omega
    · rw [if_neg hu] at hab
      obtain ⟨Q, hq⟩ := h.pg
      have e : pfaultOf (H.stt N) (some t) i = 1 := by
        unfold pfaultOf
        simp only [Option.isSome_some, if_true, hab]
      refine (drop_bad hq i (by show pfaultOf (H.stt N) (some t) i ≠ 0; rw [e]; decide)).mono ?_
      rintro e' w' ⟨rfl, he⟩
      subst he
      refine ⟨?_, ?_, Mx.refl _ _ _⟩
      · show Ending.returned (.int .i64 (pfaultOf (H.stt N) (some t) i)) = _
        rw [e]; rw [lgDrop_some]; rw [if_neg hu]
      · rw [lgDrop_some]; rw [if_neg hu]; exact hh.more _ (by omega)

/-- Get: the bytes of a page in use, or ErrArg. -/
theorem ps_get (i : Int) (h : Ps w0 w X r p N c G H) : Calls Try.prog 60 #[.pointer (some ⟨p, 0, none⟩), .int .i64 i] w fun e w' => ∃ v, e = .returned (.tuple #[v, .int .i64 (if lgUsed N (H.getD G) i then 0 else 1)]) ∧
    Bs w' v (if lgUsed N (H.getD G) i then (H.getD G).page i.toNat else []) ∧ (∀ g, v.ownBlock = some g → w.heap.size ≤ g) ∧ Below w.heap.size w w' := by
  have hch := h.chn
  obtain ⟨A, K, T, h, k1, k2, k3, k4, k5⟩ := h
  obtain ⟨h1, h2, P, Q, h3, h4, h5, h6⟩ := h
  have hab := used_absent (N := N) hch i
  by_cases hu : lgUsed N (H.getD G) i
  · rw [if_pos hu] at hab
    rw [if_pos hu, if_pos hu]
    obtain ⟨k, rfl⟩ : ∃ k : Nat, i = k := ⟨i.toNat, by have := hu.1; omega⟩
    have hkN : k < N := by have := hu.2.1; omega
    have hku : (H.getD G).used N k := ⟨by have := hu.1; omega, hkN, by have := hu.2.2; simpa using this⟩
    have hb : AllLong T ∧ bytesOf A T k = ((H.getD G).page k, 0) := by
      have hst := synced_stored k1 k (by have := k2.len; omega)
      have hft : A.fault (401 + k) = 0 := (k2.enc k1).ok k hkN
      cases H with
      | none =>
        subst k5
        exact ⟨(fun i l hl => by cases hl), by show (storedOf A k, A.fault (401 + k)) = _; rw [hst, hft, k2.page k hku]; rfl⟩
      | some H =>
        obtain ⟨t, rfl, t2, -⟩ := k5
        refine ⟨t2.allLong, ?_⟩
        unfold bytesOf
        cases hp : putAt (some t) k with
        | some b => exact congrArg (·, (0 : Int)) (t2.put k b hp).2
        | none =>
          obtain ⟨o1, o2⟩ := t2.old k hku hp
          show (storedOf A k, A.fault (401 + k)) = _
          rw [hst, hft, k2.page k o1]
          exact congrArg (·, (0 : Int)) o2.symm
    refine (get_ok h4 h3 k (by have := k2.most; omega) hb.1 hab (by rw [hb.2])).mono ?_
    rintro e w' ⟨v, rfl, g1, ⟨g, g2, g3⟩, g4⟩
    rw [hb.2] at g1
    exact ⟨v, rfl, g1, (fun q hq => by rw [g2] at hq; cases hq; exact g3), g4⟩
  · rw [if_neg hu] at hab
    rw [if_neg hu, if_neg hu]
    refine (get_absent h4 i (by rw [hab]; decide)).mono ?_
    rintro e w' ⟨rfl, g1⟩
    exact ⟨_, rfl, Bs.nil _, (fun q hq => by cases hq), g1⟩
end
end Go.Proofs.Ytcnfnpccbnnplaa
