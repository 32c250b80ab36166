/- The pager beside the call's own blocks, with as many acts as one likes: every call (as in PgSx, PgSy, PgSz). -/
import Derived.Test.YtcnfnpccbnnplaaPgSz
import Derived.Test.YtcnfnpccbnnplaaPgKept
namespace Go.Proofs.Ytcnfnpccbnnplaa
open Go.RowKit Go.Maps
set_option maxRecDepth 100000
set_option linter.unusedVariables false

/-- A disk that holds the pages G, and its pager, with H under way; c: how much was done. -/
def Pb (w0 w : World) (X : Nat → Prop) (r p N M c : Nat) (G : Lg) (H : Option Lg) : Prop :=
  ∃ A K T, Lx w0 w X r p A ((H.getD G).stt N) T ∧ Synced A K ∧ Holds K N G ∧ A.stop = 0 ∧ A.ops ≤ M ∧ match H with
    | none => T = none
    | some H => ∃ t, T = some t ∧ Tr N G H t ∧ t.n ≤ c

section
variable {w0 w w' : World} {X : Nat → Prop} {r p N M c : Nat} {G : Lg} {H : Option Lg}
theorem Pb.below (h : Pb w0 w X r p N M c G H) : Below w0.heap.size w0 w := by obtain ⟨A, K, T, h, -⟩ := h; exact h.below
theorem Pb.mv {P' : Nat → Prop} (h : Pb w0 w X r p N M c G H) (hm : Moved P' w w') (hP : ∀ k, P' k → X k ∧ w0.heap.size ≤ k) : Pb w0 w' X r p N M c G H := by
  obtain ⟨A, K, T, h, k⟩ := h; exact ⟨A, K, T, h.mv hm hP, k⟩
theorem Pb.grow (h : Pb w0 w X r p N M c G H) (hb : Below w.heap.size w w') : Pb w0 w' X r p N M c G H := by
  obtain ⟨A, K, T, h, k⟩ := h; exact ⟨A, K, T, h.grow hb, k⟩
theorem Pb.take (h : Pb w0 w X r p N M c G H) (hb : Below w.heap.size w w') : Pb w0 w' (fun k => X k ∨ (w.heap.size ≤ k ∧ k < w'.heap.size)) r p N M c G H := by
  obtain ⟨A, K, T, h, k⟩ := h; exact ⟨A, K, T, h.take hb, k⟩
theorem Pb.more (h : Pb w0 w X r p N M c G H) (c' : Nat) (hc : c ≤ c') : Pb w0 w X r p N M c' G H := by
  obtain ⟨A, K, T, h, k1, k2, k3, k4, k5⟩ := h
  refine ⟨A, K, T, h, k1, k2, k3, by omega, ?_⟩
  cases H with
  | none => exact k5
  | some H => obtain ⟨t, t1, t2, t3⟩ := k5; exact ⟨t, t1, t2, by omega⟩
theorem Pb.chn (h : Pb w0 w X r p N M c G H) : Chn N (H.getD G).free := by
  obtain ⟨A, K, T, h, k1, k2, k3, k4, k5⟩ := h
  cases H with
  | none => exact k2.chn
  | some H => obtain ⟨t, t1, t2, t3⟩ := k5; exact t2.chn
theorem Pb.most (h : Pb w0 w X r p N M c G H) : N ≤ 2000 := by
  obtain ⟨A, K, T, h, k1, k2, k3, k4, k5⟩ := h
  exact k2.most
theorem Pb.long (h : Pb w0 w X r p N M c G H) (i : Nat) (hi : (H.getD G).used N i) : ((H.getD G).page i).length = 504 := by
  obtain ⟨A, K, T, h, k1, k2, k3, k4, k5⟩ := h
  cases H with
  | none => exact k2.long i hi
  | some H => obtain ⟨t, t1, t2, t3⟩ := k5; exact t2.long i hi

theorem pb_root (h : Pb w0 w X r p N M c G H) : Calls Try.prog 57 #[.pointer (some ⟨p, 0, none⟩)] w fun e w' => e = .returned (.int .i64 (H.getD G).root) ∧ w' = w := by
  obtain ⟨A, K, T, h, -⟩ := h
  obtain ⟨Q, hq⟩ := h.pg
  exact proot_any hq
theorem pb_free (h : Pb w0 w X r p N M c G H) : Calls Try.prog 36 #[.pointer (some ⟨p, 0, none⟩)] w fun e w' => e = .returned (.int .i64 ((H.getD G).free.length : Nat)) ∧ w' = w := by
  have hc := h.chn
  obtain ⟨A, K, T, h, -⟩ := h
  obtain ⟨Q, hq⟩ := h.pg
  have := free_any hq
  rwa [show frees ((H.getD G).stt N).next = (H.getD G).free.length from frees_chn hc] at this

theorem pb_begin (h : Pb w0 w X r p N M c G none) : Calls Try.prog 13 #[.pointer (some ⟨p, 0, none⟩)] w fun e w' => e = .returned (.int .i64 0) ∧ Pb w0 w' X r p N M c G (some G) ∧ Mx w0 X w w' := by
  obtain ⟨A, K, T, h, k1, k2, k3, k4, rfl⟩ := h
  have hl : (G.stt N).next.length = N := nextOf_length _ _
  have hpos := k2.chn.pos
  have hmost := k2.most
  refine (h.turn (R := fun e => e = .returned (.int .i64 0)) (T' := some ⟨G.stt N, fun _ => none, 0⟩) (S' := G.stt N) (fun Q hq => begin_open hq (by show 0 < (G.stt N).next.length; omega) (by show (G.stt N).next.length ≤ 1000000; omega))).mono ?_
  rintro e w' ⟨rfl, g1, g2⟩
  exact ⟨rfl, ⟨A, K, _, g1, k1, k2, k3, k4, _, rfl, Tr.begin k2.chn k2.wf k2.long, Nat.zero_le _⟩, g2⟩
theorem pb_busy {H' : Lg} (h : Pb w0 w X r p N M c G (some H')) : Calls Try.prog 13 #[.pointer (some ⟨p, 0, none⟩)] w fun e w' => e = .returned (.int .i64 12) ∧ w' = w := by
  obtain ⟨A, K, T, h, k1, k2, k3, k4, t, rfl, -⟩ := h
  obtain ⟨Q, hq⟩ := h.pg
  exact begin_busy hq
theorem pb_abort (h : Pb w0 w X r p N M c G H) : Calls Try.prog 23 #[.pointer (some ⟨p, 0, none⟩)] w fun e w' => e = .returned (.tuple #[]) ∧ Pb w0 w' X r p N M c G none ∧ Mx w0 X w w' := by
  obtain ⟨A, K, T, h, k1, k2, k3, k4, k5⟩ := h
  refine (h.turn (R := fun e => e = .returned (.tuple #[])) (T' := none) (S' := wasOf ((H.getD G).stt N) T) (fun Q hq => abort_any hq)).mono ?_
  rintro e w' ⟨rfl, g1, g2⟩
  refine ⟨rfl, ⟨A, K, _, ?_, k1, k2, k3, k4, rfl⟩, g2⟩
  cases H with
  | none => subst k5; exact g1
  | some H =>
    obtain ⟨t, rfl, t2, -⟩ := k5
    rw [show wasOf ((Option.getD (some H) G).stt N) (some t) = t.was from rfl, t2.was] at g1
    exact g1

theorem pb_setroot (i : Int) (hi : (Lit.int .i64 i).wf = true) (h : Pb w0 w X r p N M c G H) : Calls Try.prog 50 #[.pointer (some ⟨p, 0, none⟩), .int .i64 i] w fun e w' => e = .returned (.int .i64 (lgRoot H i)) ∧
    Pb w0 w' X r p N M c G (if 0 ≤ i then H.map (fun H => { H with root := i }) else H) ∧ Mx w0 X w w' := by
  obtain ⟨A, K, T, h, k1, k2, k3, k4, k5⟩ := h
  refine (h.turn (R := fun e => e = .returned (.int .i64 (setRootOf T i))) (T' := T) (S' := if setRootOf T i = 0 then { (H.getD G).stt N with root := i } else (H.getD G).stt N) (fun Q hq => setroot_any hq i)).mono ?_
  rintro e w' ⟨rfl, g1, g2⟩
  cases H with
  | none =>
    subst k5
    refine ⟨rfl, ⟨A, K, none, ?_, k1, k2, k3, k4, ?_⟩, g2⟩
    · rw [if_neg (by rw [show setRootOf none i = 12 from rfl]; decide)] at g1
      by_cases hi0 : 0 ≤ i
      · rw [if_pos hi0]; exact g1
      · rw [if_neg hi0]; exact g1
    · by_cases hi0 : 0 ≤ i
      · rw [if_pos hi0]; rfl
      · rw [if_neg hi0]
  | some H =>
    obtain ⟨t, rfl, t2, t3⟩ := k5
    by_cases hi0 : 0 ≤ i
    · have e : setRootOf (some t) i = 0 := by unfold setRootOf; rw [if_pos hi0]; rfl
      rw [e, if_pos rfl] at g1
      refine ⟨by rw [e]; unfold lgRoot; rw [if_pos hi0]; rfl, ⟨A, K, some t, ?_, k1, k2, k3, k4, ?_⟩, g2⟩
      · rw [if_pos hi0]; exact g1
      · rw [if_pos hi0]; exact ⟨t, rfl, t2.rootP i hi, t3⟩
    · have e : setRootOf (some t) i = 1 := by unfold setRootOf; rw [if_neg hi0]; rfl
      rw [e, if_neg (by decide)] at g1
      refine ⟨by rw [e]; unfold lgRoot; rw [if_neg hi0]; rfl, ⟨A, K, some t, ?_, k1, k2, k3, k4, ?_⟩, g2⟩
      · rw [if_neg hi0]; exact g1
      · rw [if_neg hi0]; exact ⟨t, rfl, t2, t3⟩
end
section
variable {w0 w w' : World} {X : Nat → Prop} {r p N M c : Nat} {G : Lg} {H : Option Lg}

theorem pb_new (h : Pb w0 w X r p N M c G H) (hc : c < 500000) : Calls Try.prog 24 #[.pointer (some ⟨p, 0, none⟩)] w fun e w' => e = .returned (.tuple #[.int .i64 (lgNew H).1, .int .i64 (lgNew H).2.1]) ∧
    Pb w0 w' X r p N M (c + 1) G (lgNew H).2.2 ∧ Mx w0 X w w' := by
  have hh := h
  obtain ⟨A, K, T, h, k1, k2, k3, k4, k5⟩ := h
  cases H with
  | none =>
    subst k5
    obtain ⟨Q, hq⟩ := h.pg
    refine (pnew_closed hq).mono ?_
    rintro e w' ⟨rfl, he⟩
    subst he
    exact ⟨rfl, hh.more _ (by omega), Mx.refl _ _ _⟩
  | some H =>
    obtain ⟨t, rfl, t2, t3⟩ := k5
    have hfr : frees (H.stt N).next = H.free.length := frees_chn t2.chn
    cases hf : H.free with
    | nil =>
      obtain ⟨Q, hq⟩ := h.pg
      refine (pnew_full hq (by show frees (H.stt N).next = 0; rw [hfr, hf]; rfl)).mono ?_
      rintro e w' ⟨rfl, he⟩
      subst he
      have e : lgNew (some H) = (0, 14, some H) := by unfold lgNew; simp only [hf]
      rw [e]
      exact ⟨rfl, hh.more _ (by omega), Mx.refl _ _ _⟩
    | cons a rest =>
      have e : lgNew (some H) = ((a : Int), 0, some { H with free := rest, page := upd H.page a (zeros 504) }) := by unfold lgNew; simp only [hf]
      rw [e]
      have hch := t2.chn
      rw [hf] at hch
      have ha := hch.all a (by simp)
      have hl : (H.stt N).next.length = N := nextOf_length _ _
      have hN : (H.stt N).next = nextOf N (a :: rest) := by show nextOf N H.free = _; rw [hf]
      refine (h.turn (R := fun e => e = .returned (.tuple #[.int .i64 a, .int .i64 0])) (T' := some (t.put a (zeros 504))) (S' := { H.stt N with next := ((H.stt N).next.set 0 ((H.stt N).next.getD a 0)).set a 0 })
        (fun Q hq => pnew_good hq a (by show 0 < (H.stt N).next.length; omega) (by show (H.stt N).next.getD 0 0 = a; rw [hN, nextOf_zero _ hch.pos]; rfl) (by omega) (by show a < (H.stt N).next.length; omega) (by show 0 < frees (H.stt N).next; rw [hfr, hf]; simp) (by omega))).mono ?_
      rintro e w' ⟨rfl, g1, g2⟩
      refine ⟨rfl, ⟨A, K, _, ?_, k1, k2, k3, by omega, _, rfl, t2.newP hf, ?_⟩, g2⟩
      · rw [hN, next_new hch] at g1
        exact g1
      · show (if (t.f a).isSome then t.n else t.n + 1) ≤ c + 1
        split <;> omega

theorem pb_put (i : Int) (hi : (Lit.int .i64 i).wf = true) (v : Value) (l : List UInt8) (hv : Bs w v l) (h : Pb w0 w X r p N M c G H) (hc : c < 500000) : Calls Try.prog 46 #[.pointer (some ⟨p, 0, none⟩), .int .i64 i, v] w fun e w' => e = .returned (.int .i64 (lgPut N i l H).1) ∧
    Pb w0 w' X r p N M (c + 1) G (lgPut N i l H).2 ∧ Mx w0 X w w' := by
  have hh := h
  obtain ⟨A, K, T, h, k1, k2, k3, k4, k5⟩ := h
  cases H with
  | none =>
    subst k5
    obtain ⟨Q, hq⟩ := h.pg
    have e : putOf ((Option.getD none G).stt N) none i l = 12 := rfl
    refine (put_bad hq i v l hv (by rw [e]; decide)).mono ?_
    rintro e' w' ⟨rfl, he⟩
    subst he
    exact ⟨rfl, hh.more _ (by omega), Mx.refl _ _ _⟩
  | some H =>
    obtain ⟨t, rfl, t2, t3⟩ := k5
    have hab := used_absent (N := N) t2.chn i
    by_cases hu : lgUsed N H i
    · rw [if_pos hu] at hab
      by_cases hlen : 504 < l.length
      · obtain ⟨Q, hq⟩ := h.pg
        have e : putOf (H.stt N) (some t) i l = 5 := by
          unfold putOf pfaultOf
          simp only [Option.isSome_some, if_true, hab]
          rw [if_neg (by simp), if_pos hlen]
        refine (put_bad hq i v l hv (by show putOf (H.stt N) (some t) i l ≠ 0; rw [e]; decide)).mono ?_
        rintro e' w' ⟨rfl, he⟩
        subst he
        refine ⟨?_, ?_, Mx.refl _ _ _⟩
        · show Ending.returned (.int .i64 (putOf (H.stt N) (some t) i l)) = _
          rw [e]; rw [lgPut_some]; rw [if_pos hu, if_pos hlen]
        · rw [lgPut_some]; rw [if_pos hu, if_pos hlen]; exact hh.more _ (by omega)
      · have e : lgPut N i l (some H) = (0, some { H with page := upd H.page i.toNat (page l) }) := by rw [lgPut_some]; rw [if_pos hu, if_neg hlen]
        rw [e]
        obtain ⟨k, rfl⟩ : ∃ k : Nat, i = k := ⟨i.toNat, by have := hu.1; omega⟩
        refine (h.turn (R := fun e => e = .returned (.int .i64 0)) (T' := some (t.put k (page l))) (S' := H.stt N) (fun Q hq => put_good hq k hi v l hv (by omega) hab (by omega))).mono ?_
        rintro e' w' ⟨rfl, g1, g2⟩
        refine ⟨rfl, ⟨A, K, _, g1, k1, k2, k3, by omega, _, rfl, ?_, ?_⟩, g2⟩
        · exact t2.putP k (page l) ⟨by have := hu.1; omega, by have := hu.2.1; omega, by have := hu.2.2; simpa using this⟩ (page_length l (by omega))
        · show (if (t.f k).isSome then t.n else t.n + 1) ≤ c + 1
          split <;> omega
    · rw [if_neg hu] at hab
      obtain ⟨Q, hq⟩ := h.pg
      have e : putOf (H.stt N) (some t) i l = 1 := by
        unfold putOf pfaultOf
        simp only [Option.isSome_some, if_true, hab]
        rw [if_pos (by decide)]
      refine (put_bad hq i v l hv (by show putOf (H.stt N) (some t) i l ≠ 0; rw [e]; decide)).mono ?_
      rintro e' w' ⟨rfl, he⟩
      subst he
      refine ⟨?_, ?_, Mx.refl _ _ _⟩
      · show Ending.returned (.int .i64 (putOf (H.stt N) (some t) i l)) = _
        rw [e]; rw [lgPut_some]; rw [if_neg hu]
      · rw [lgPut_some]; rw [if_neg hu]; exact hh.more _ (by omega)

theorem pb_drop (i : Int) (h : Pb w0 w X r p N M c G H) : Calls Try.prog 48 #[.pointer (some ⟨p, 0, none⟩), .int .i64 i] w fun e w' => e = .returned (.int .i64 (lgDrop N i H).1) ∧
    Pb w0 w' X r p N M (c + 1) G (lgDrop N i H).2 ∧ Mx w0 X w w' := by
  have hh := h
  obtain ⟨A, K, T, h, k1, k2, k3, k4, k5⟩ := h
  cases H with
  | none =>
    subst k5
    obtain ⟨Q, hq⟩ := h.pg
    refine (drop_bad hq i (by show (12 : Int) ≠ 0; decide)).mono ?_
    rintro e' w' ⟨rfl, he⟩
    subst he
    exact ⟨rfl, hh.more _ (by omega), Mx.refl _ _ _⟩
  | some H =>
    obtain ⟨t, rfl, t2, t3⟩ := k5
    have hab := used_absent (N := N) t2.chn i
    by_cases hu : lgUsed N H i
    · rw [if_pos hu] at hab
      have e : lgDrop N i (some H) = (0, some { H with free := i.toNat :: H.free }) := by rw [lgDrop_some]; rw [if_pos hu]
      rw [e]
      obtain ⟨k, rfl⟩ : ∃ k : Nat, i = k := ⟨i.toNat, by have := hu.1; omega⟩
      have hl : (H.stt N).next.length = N := nextOf_length _ _
      refine (h.turn (R := fun e => e = .returned (.int .i64 0)) (T' := some (t.drop k)) (S' := { H.stt N with next := ((H.stt N).next.set 0 (k : Int)).set k ((H.stt N).next.getD 0 0) }) (fun Q hq => drop_good hq k hab (by show 0 < (H.stt N).next.length; have := t2.chn.pos; omega))).mono ?_
      rintro e' w' ⟨rfl, g1, g2⟩
      have hku : H.used N k := ⟨by have := hu.1; omega, by have := hu.2.1; omega, by have := hu.2.2; simpa using this⟩
      refine ⟨rfl, ⟨A, K, _, ?_, k1, k2, k3, by omega, _, rfl, t2.dropP k hku, ?_⟩, g2⟩
      · rw [show ((H.stt N).next.set 0 (k : Int)).set k ((H.stt N).next.getD 0 0) = nextOf N (k :: H.free) from next_drop t2.chn hku.1] at g1
        exact g1
      · show (if (t.f k).isSome then t.n - 1 else t.n) ≤ c + 1
        split <;> omega
    · rw [if_neg hu] at hab
      obtain ⟨Q, hq⟩ := h.pg
      have e : pfaultOf (H.stt N) (some t) i = 1 := by
        unfold pfaultOf
        simp only [Option.isSome_some, if_true, hab]
      refine (drop_bad hq i (by show pfaultOf (H.stt N) (some t) i ≠ 0; rw [e]; decide)).mono ?_
      rintro e' w' ⟨rfl, he⟩
      subst he
      refine ⟨?_, ?_, Mx.refl _ _ _⟩
      · show Ending.returned (.int .i64 (pfaultOf (H.stt N) (some t) i)) = _
        rw [e]; rw [lgDrop_some]; rw [if_neg hu]
      · rw [lgDrop_some]; rw [if_neg hu]; exact hh.more _ (by omega)

/-- Get: the bytes of a page in use, or ErrArg. -/
theorem pb_get (i : Int) (h : Pb w0 w X r p N M c G H) : Calls Try.prog 60 #[.pointer (some ⟨p, 0, none⟩), .int .i64 i] w fun e w' => ∃ v, e = .returned (.tuple #[v, .int .i64 (if lgUsed N (H.getD G) i then 0 else 1)]) ∧
    Bs w' v (if lgUsed N (H.getD G) i then (H.getD G).page i.toNat else []) ∧ (∀ g, v.ownBlock = some g → w.heap.size ≤ g) ∧ Below w.heap.size w w' := by
  have hch := h.chn
  obtain ⟨A, K, T, h, k1, k2, k3, k4, k5⟩ := h
  obtain ⟨h1, h2, P, Q, h3, h4, h5, h6⟩ := h
  have hab := used_absent (N := N) hch i
  by_cases hu : lgUsed N (H.getD G) i
  · rw [if_pos hu] at hab
    rw [if_pos hu, if_pos hu]
    obtain ⟨k, rfl⟩ : ∃ k : Nat, i = k := ⟨i.toNat, by have := hu.1; omega⟩
    have hkN : k < N := by have := hu.2.1; omega
    have hku : (H.getD G).used N k := ⟨by have := hu.1; omega, hkN, by have := hu.2.2; simpa using this⟩
    have hb : AllLong T ∧ bytesOf A T k = ((H.getD G).page k, 0) := by
      have hst := synced_stored k1 k (by have := k2.len; omega)
      have hft : A.fault (401 + k) = 0 := (k2.enc k1).ok k hkN
      cases H with
      | none =>
        subst k5
        exact ⟨(fun i l hl => by cases hl), by show (storedOf A k, A.fault (401 + k)) = _; rw [hst, hft, k2.page k hku]; rfl⟩
      | some H =>
        obtain ⟨t, rfl, t2, -⟩ := k5
        refine ⟨t2.allLong, ?_⟩
        unfold bytesOf
        cases hp : putAt (some t) k with
        | some b => exact congrArg (·, (0 : Int)) (t2.put k b hp).2
        | none =>
          obtain ⟨o1, o2⟩ := t2.old k hku hp
          show (storedOf A k, A.fault (401 + k)) = _
          rw [hst, hft, k2.page k o1]
          exact congrArg (·, (0 : Int)) o2.symm
    refine (get_ok h4 h3 k (by have := k2.most; omega) hb.1 hab (by rw [hb.2])).mono ?_
    rintro e w' ⟨v, rfl, g1, ⟨g, g2, g3⟩, g4⟩
    rw [hb.2] at g1
    exact ⟨v, rfl, g1, (fun q hq => by rw [g2] at hq; cases hq; exact g3), g4⟩
  · rw [if_neg hu] at hab
    rw [if_neg hu, if_neg hu]
    refine (get_absent h4 i (by rw [hab]; decide)).mono ?_
    rintro e w' ⟨rfl, g1⟩
    exact ⟨_, rfl, Bs.nil _, (fun q hq => by cases hq), g1⟩
end
section
variable {w0 w w' : World} {X : Nat → Prop} {r p N M c : Nat} {G : Lg} {H : Option Lg}
theorem pb_commit (h : Pb w0 w X r p N M c G H) (hc : c < 500000) (hM : M ≤ 90000) (hN : N ≤ 400) : Calls Try.prog 17 #[.pointer (some ⟨p, 0, none⟩)] w fun e w' => e = .returned (.int .i64 (lgCommit G H).1) ∧
    Pb w0 w' X r p N (M + 806) (c + 1) (lgCommit G H).2 none ∧ Mx w0 X w w' := by
  have hh := h
  obtain ⟨A, K, T, h, k1, k2, k3, k4, k5⟩ := h
  cases H with
  | none =>
    subst k5
    refine (h.turn (R := fun e => e = .returned (.int .i64 12)) (T' := none) (S' := G.stt N) (fun Q hq => (commit_closed hq).mono (fun e w' ⟨g1, g2, g3⟩ => ⟨g1, Q, g2, g3, fun _ h => .inl h⟩))).mono ?_
    rintro e w' ⟨rfl, g1, g2⟩
    exact ⟨rfl, ⟨A, K, none, g1, k1, k2, k3, by omega, rfl⟩, g2⟩
  | some H =>
    obtain ⟨t, rfl, t2, t3⟩ := k5
    obtain ⟨q1, ⟨K', q2, q3⟩, q4, q5⟩ := pcommit_good k1 k2 t2 k3 (by have := chgTo_length A (H.stt N) t N; omega)
    refine (lx_commit (H := H) h k2 t2 (k1.small (by omega) (by omega))).mono ?_
    rintro e w' ⟨rfl, g1, g2⟩
    rw [q1, if_pos rfl] at g1
    rw [q1]
    exact ⟨rfl, ⟨_, K', none, g1, q2, q3, q5, by omega, rfl⟩, g2⟩

/-- Open of a disk that holds the pages G. -/
theorem lxb_open {A : Ab} {K : List (List UInt8)} (h1 : Below w0.heap.size w0 w) (h2 : ∀ k, X k → k < w.heap.size) {P : Nat → Prop} (h3 : DkA w P r A) (h5 : ∀ k, P k → w0.heap.size ≤ k ∧ k < w.heap.size ∧ ¬ X k)
    (hr : A.recover.2.1 = 0) (hS : Synced A.recover.2.2 K) (hK : Holds K N G) (hsm : Small A 100000) (hN : 2 ≤ N) (hln : A.now.length = 401 + N) (h0 : A.recover.2.2.stop = 0) (ho : A.recover.2.2.ops ≤ M) :
    Calls Try.prog 11 #[.pointer (some ⟨r, 0, none⟩)] w fun e w' => ∃ p, e = .returned (.tuple #[.pointer (some ⟨p, 0, none⟩), .int .i64 0]) ∧ Pb w0 w' X r p N M c G none ∧ Mx w0 X w w' := by
  refine (open_good h3 hsm (by omega) hr (hK.enc hS)).mono ?_
  rintro e w' ⟨p, Q, P', rfl, g1, g2, g3, g4, g5⟩
  have hm : Mx w0 X w w' := g3.mono (fun k hk => ⟨(h5 k hk).1, (h5 k hk).2.2⟩)
  refine ⟨p, rfl, ⟨_, K, none, ⟨h1.trans (hm.below (fun k hk => hk.1) h1.size), fun k hk => Nat.lt_of_lt_of_le (h2 k hk) hm.size, P', Q, g2, g1, fun k hk => ?_, fun k hk => ?_⟩, hS, hK, h0, ho, rfl⟩, hm⟩
  · obtain ⟨e1, e2⟩ := g4 k hk
    rcases e1 with e | e
    · exact ⟨(h5 k e).1, e2, (h5 k e).2.2⟩
    · exact ⟨Nat.le_trans h1.size e, e2, fun hx => by have := h2 k hx; omega⟩
  · obtain ⟨e1, e2, e3⟩ := g5 k hk
    exact ⟨Nat.le_trans h1.size e1, e2, fun hx => by have := h2 k hx; omega, e3⟩

/-- Open of a disk that has a pager, whatever that is at. -/
theorem pb_open (h : Pb w0 w X r p N M c G H) (hN : 2 ≤ N) (hM : M ≤ 90000) : Calls Try.prog 11 #[.pointer (some ⟨r, 0, none⟩)] w fun e w' => ∃ p', e = .returned (.tuple #[.pointer (some ⟨p', 0, none⟩), .int .i64 0]) ∧ Pb w0 w' X r p' N M c G none ∧ Mx w0 X w w' := by
  obtain ⟨A, K, T, ⟨h1, h2, P, Q, h3, h4, h5, h6⟩, k1, k2, k3, k4, k5⟩ := h
  have hr := recover_none k1 k2.head
  exact lxb_open h1 h2 h3 h5 (by rw [hr]) (by rw [hr]; exact k1) k2 (k1.small (by omega) (by omega)) hN (by rw [k1.now]; exact k2.len) (by rw [hr]; exact k3) (by rw [hr]; exact k4)

theorem ndb_open (h : Nd w0 w X r (401 + N)) (hN : 2 ≤ N) (hm : N ≤ 2000) : Calls Try.prog 11 #[.pointer (some ⟨r, 0, none⟩)] w fun e w' => ∃ p', e = .returned (.tuple #[.pointer (some ⟨p', 0, none⟩), .int .i64 0]) ∧ Pb w0 w' X r p' N 0 0 (Lg.new N) none ∧ Mx w0 X w w' := by
  obtain ⟨h1, h2, P, h3, h5⟩ := h
  have k1 := new_synced (401 + N)
  have k2 := new_holds hN hm
  have hr := recover_none k1 k2.head
  exact lxb_open h1 h2 h3 h5 (by rw [hr]) (by rw [hr]; exact k1) k2 (new_small _ _) hN (by rw [k1.now]; exact k2.len) (by rw [hr]; rfl) (by rw [hr]; exact Nat.le_refl _)
end
end Go.Proofs.Ytcnfnpccbnnplaa
