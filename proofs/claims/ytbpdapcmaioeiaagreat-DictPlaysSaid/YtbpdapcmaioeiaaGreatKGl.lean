/- Gl -/
import Derived.Test.YtbpdapcmaioeiaaGreatKGk
namespace Go.Proofs.YtbpdapcmaioeiaaGreat
open Go.RowKit Go.Maps
set_option maxRecDepth 100000
set_option linter.unusedVariables false
/-- A disk that holds the pages G, and its pager, with H under way; c: how much was done. -/
def Pb (w0 w : World) (X : Nat → Prop) (r p N M c : Nat) (G : Lg) (H : Option Lg) : Prop :=
 ∃ A K T, Lx w0 w X r p A ((H.getD G).stt N) T ∧ Synced A K ∧ Holds K N G ∧ A.stop = 0 ∧ A.ops ≤ M ∧ match H with
  | none => T = none
  | some H => ∃ t, T = some t ∧ Tr N G H t ∧ t.n ≤ c
section
variable {w0 w w' : World} {X : Nat → Prop} {r p N M c : Nat} {G : Lg} {H : Option Lg}
theorem Pb.below (h : Pb w0 w X r p N M c G H) : Below w0.heap.size w0 w := by obtain ⟨A, K, T, h, -⟩ := h; exact h.below
theorem Pb.mv {P' : Nat → Prop} (h : Pb w0 w X r p N M c G H) (hm : Moved P' w w') (hP : ∀ k, P' k → X k ∧ w0.heap.size ≤ k) : Pb w0 w' X r p N M c G H := by
 obtain ⟨A, K, T, h, k⟩ := h; exact ⟨A, K, T, h.mv hm hP, k⟩
theorem Pb.grow (h : Pb w0 w X r p N M c G H) (hb : Below w.heap.size w w') : Pb w0 w' X r p N M c G H := by
 obtain ⟨A, K, T, h, k⟩ := h; exact ⟨A, K, T, h.grow hb, k⟩
theorem Pb.take (h : Pb w0 w X r p N M c G H) (hb : Below w.heap.size w w') : Pb w0 w' (fun k => X k ∨ (w.heap.size ≤ k ∧ k < w'.heap.size)) r p N M c G H := by
 obtain ⟨A, K, T, h, k⟩ := h; exact ⟨A, K, T, h.take hb, k⟩
theorem Pb.more (h : Pb w0 w X r p N M c G H) (c' : Nat) (hc : c ≤ c') : Pb w0 w X r p N M c' G H := by
 obtain ⟨A, K, T, h, k1, k2, k3, k4, k5⟩ := h
 refine ⟨A, K, T, h, k1, k2, k3, by omega, ?_⟩
 cases H with
 | none => exact k5
 | some H => obtain ⟨t, t1, t2, t3⟩ := k5; exact ⟨t, t1, t2, by omega⟩
theorem Pb.chn (h : Pb w0 w X r p N M c G H) : Chn N (H.getD G).free := by
 obtain ⟨A, K, T, h, k1, k2, k3, k4, k5⟩ := h
 cases H with
 | none => exact k2.chn
 | some H => obtain ⟨t, t1, t2, t3⟩ := k5; exact t2.chn
theorem Pb.most (h : Pb w0 w X r p N M c G H) : N ≤ 2000 := by
 obtain ⟨A, K, T, h, k1, k2, k3, k4, k5⟩ := h
 exact k2.most
theorem pb_free (h : Pb w0 w X r p N M c G H) : Calls Tryz.prog 31 #[.pointer (some ⟨p, 0, none⟩)] w fun e w' => e = .returned (.int .i64 ((H.getD G).free.length : Nat)) ∧ w' = w := by
 have hc := h.chn
 obtain ⟨A, K, T, h, -⟩ := h
 obtain ⟨Q, hq⟩ := h.pg
 have := free_any hq
 rwa [show frees ((H.getD G).stt N).next = (H.getD G).free.length from frees_chn hc] at this
theorem pb_begin (h : Pb w0 w X r p N M c G none) : Calls Tryz.prog 11 #[.pointer (some ⟨p, 0, none⟩)] w fun e w' => e = .returned (.int .i64 0) ∧ Pb w0 w' X r p N M c G (some G) ∧ Mx w0 X w w' := by
 obtain ⟨A, K, T, h, k1, k2, k3, k4, rfl⟩ := h
 have hl : (G.stt N).next.length = N := nextOf_length _ _
 have hpos := k2.chn.pos
 have hmost := k2.most
 refine (h.turn (R := fun e => e = .returned (.int .i64 0)) (T' := some ⟨G.stt N, fun _ => none, 0⟩) (S' := G.stt N) (fun Q hq => begin_open hq (by show 0 < (G.stt N).next.length; omega) (by show (G.stt N).next.length ≤ 1000000; omega))).mono ?_
 rintro e w' ⟨rfl, g1, g2⟩
 exact ⟨rfl, ⟨A, K, _, g1, k1, k2, k3, k4, _, rfl, Tr.begin k2.chn k2.wf k2.long, Nat.zero_le _⟩, g2⟩
theorem pb_setroot (i : Int) (hi : (Lit.int .i64 i).wf = true) (h : Pb w0 w X r p N M c G H) : Calls Tryz.prog 14 #[.pointer (some ⟨p, 0, none⟩), .int .i64 i] w fun e w' => e = .returned (.int .i64 (lgRoot H i)) ∧
 Pb w0 w' X r p N M c G (if 0 ≤ i then H.map (fun H => { H with root := i }) else H) ∧ Mx w0 X w w' := by
 obtain ⟨A, K, T, h, k1, k2, k3, k4, k5⟩ := h
 refine (h.turn (R := fun e => e = .returned (.int .i64 (setRootOf T i))) (T' := T) (S' := if setRootOf T i = 0 then { (H.getD G).stt N with root := i } else (H.getD G).stt N) (fun Q hq => setroot_any hq i)).mono ?_
 rintro e w' ⟨rfl, g1, g2⟩
 cases H with
 | none =>
  subst k5
  refine ⟨rfl, ⟨A, K, none, ?_, k1, k2, k3, k4, ?_⟩, g2⟩
  ·rw [if_neg (by rw [show setRootOf none i = 12 from rfl]; decide)] at g1
   by_cases hi0 : 0 ≤ i
   ·rw [if_pos hi0]; exact g1
   ·rw [if_neg hi0]; exact g1
  ·by_cases hi0 : 0 ≤ i
   ·rw [if_pos hi0]; rfl
   ·rw [if_neg hi0]
 | some H =>
  obtain ⟨t, rfl, t2, t3⟩ := k5
  by_cases hi0 : 0 ≤ i
  ·have e : setRootOf (some t) i = 0 := by unfold setRootOf; rw [if_pos hi0]; rfl
   rw [e, if_pos rfl] at g1
   refine ⟨by rw [e]; unfold lgRoot; rw [if_pos hi0]; rfl, ⟨A, K, some t, ?_, k1, k2, k3, k4, ?_⟩, g2⟩
   ·rw [if_pos hi0]; exact g1
   ·rw [if_pos hi0]; exact ⟨t, rfl, t2.rootP i hi, t3⟩
  ·have e : setRootOf (some t) i = 1 := by unfold setRootOf; rw [if_neg hi0]; rfl
   rw [e, if_neg (by decide)] at g1
   refine ⟨by rw [e]; unfold lgRoot; rw [if_neg hi0]; rfl, ⟨A, K, some t, ?_, k1, k2, k3, k4, ?_⟩, g2⟩
   ·rw [if_neg hi0]; exact g1
   ·rw [if_neg hi0]; exact ⟨t, rfl, t2, t3⟩
end
section
variable {w0 w w' : World} {X : Nat → Prop} {r p N M c : Nat} {G : Lg} {H : Option Lg}
theorem pb_new (h : Pb w0 w X r p N M c G H) (hc : c < 500000) : Calls Tryz.prog 70 #[.pointer (some ⟨p, 0, none⟩)] w fun e w' => e = .returned (.tuple #[.int .i64 (lgNew H).1, .int .i64 (lgNew H).2.1]) ∧
 Pb w0 w' X r p N M (c + 1) G (lgNew H).2.2 ∧ Mx w0 X w w' := by
 have hh := h
 obtain ⟨A, K, T, h, k1, k2, k3, k4, k5⟩ := h
 cases H with
 | none =>
  subst k5
  obtain ⟨Q, hq⟩ := h.pg
  refine (pnew_closed hq).mono ?_
  rintro e w' ⟨rfl, he⟩
  subst he
  exact ⟨rfl, hh.more _ (by omega), Mx.refl _ _ _⟩
 | some H =>
  obtain ⟨t, rfl, t2, t3⟩ := k5
  have hfr : frees (H.stt N).next = H.free.length := frees_chn t2.chn
  cases hf : H.free with
  | nil =>
   obtain ⟨Q, hq⟩ := h.pg
   refine (pnew_full hq (by show frees (H.stt N).next = 0; rw [hfr, hf]; rfl)).mono ?_
   rintro e w' ⟨rfl, he⟩
   subst he
   have e : lgNew (some H) = (0, 14, some H) := by unfold lgNew; simp only [hf]
   rw [e]
   exact ⟨rfl, hh.more _ (by omega), Mx.refl _ _ _⟩
  | cons a rest =>
   have e : lgNew (some H) = ((a : Int), 0, some { H with free := rest, page := upd H.page a (zeros 504) }) := by unfold lgNew; simp only [hf]
   rw [e]
   have hch := t2.chn
   rw [hf] at hch
   have ha := hch.all a (by simp)
   have hl : (H.stt N).next.length = N := nextOf_length _ _
   have hN : (H.stt N).next = nextOf N (a :: rest) := by show nextOf N H.free = _; rw [hf]
   refine (h.turn (R := fun e => e = .returned (.tuple #[.int .i64 a, .int .i64 0])) (T' := some (t.put a (zeros 504))) (S' := { H.stt N with next := ((H.stt N).next.set 0 ((H.stt N).next.getD a 0)).set a 0 })
    (fun Q hq => pnew_good hq a (by show 0 < (H.stt N).next.length; omega) (by show (H.stt N).next.getD 0 0 = a; rw [hN, nextOf_zero _ hch.pos]; rfl) (by omega) (by show a < (H.stt N).next.length; omega) (by show 0 < frees (H.stt N).next; rw [hfr, hf]; simp) (by omega))).mono ?_
   rintro e w' ⟨rfl, g1, g2⟩
   refine ⟨rfl, ⟨A, K, _, ?_, k1, k2, k3, by omega, _, rfl, t2.newP hf, ?_⟩, g2⟩
   ·rw [hN, next_new hch] at g1
    exact g1
   ·show (if (t.f a).isSome then t.n else t.n + 1) ≤ c + 1
    split <;> omega
theorem pb_put (i : Int) (hi : (Lit.int .i64 i).wf = true) (v : Value) (l : List UInt8) (hv : Bs w v l) (h : Pb w0 w X r p N M c G H) (hc : c < 500000) : Calls Tryz.prog 113 #[.pointer (some ⟨p, 0, none⟩), .int .i64 i, v] w fun e w' => e = .returned (.int .i64 (lgPut N i l H).1) ∧
 Pb w0 w' X r p N M (c + 1) G (lgPut N i l H).2 ∧ Mx w0 X w w' := by
 have hh := h
 obtain ⟨A, K, T, h, k1, k2, k3, k4, k5⟩ := h
 cases H with
 | none =>
  subst k5
  obtain ⟨Q, hq⟩ := h.pg
  have e : putOf ((Option.getD none G).stt N) none i l = 12 := rfl
  refine (put_bad hq i v l hv (by rw [e]; decide)).mono ?_
  rintro e' w' ⟨rfl, he⟩
  subst he
  exact ⟨rfl, hh.more _ (by omega), Mx.refl _ _ _⟩
 | some H =>
  obtain ⟨t, rfl, t2, t3⟩ := k5
  have hab := used_absent (N := N) t2.chn i
  by_cases hu : lgUsed N H i
  ·rw [if_pos hu] at hab
   by_cases hlen : 504 < l.length
   ·obtain ⟨Q, hq⟩ := h.pg
    have e : putOf (H.stt N) (some t) i l = 5 := by
     unfold putOf pfaultOf
     simp only [Option.isSome_some, if_true, hab]
     rw [if_neg (by simp), if_pos hlen]
    refine (put_bad hq i v l hv (by show putOf (H.stt N) (some t) i l ≠ 0; rw [e]; decide)).mono ?_
    rintro e' w' ⟨rfl, he⟩
    subst he
    refine ⟨?_, ?_, Mx.refl _ _ _⟩
    ·show Ending.returned (.int .i64 (putOf (H.stt N) (some t) i l)) = _
     rw [e]; rw [lgPut_some]; rw [if_pos hu, if_pos hlen]
    ·rw [lgPut_some]; rw [if_pos hu, if_pos hlen]; exact hh.more _ (by omega)
   ·have e : lgPut N i l (some H) = (0, some { H with page := upd H.page i.toNat (page l) }) := by rw [lgPut_some]; rw [if_pos hu, if_neg hlen]
    rw [e]
    obtain ⟨k, rfl⟩ : ∃ k : Nat, i = k := ⟨i.toNat, by have := hu.1; omega⟩
    refine (h.turn (R := fun e => e = .returned (.int .i64 0)) (T' := some (t.put k (page l))) (S' := H.stt N) (fun Q hq => put_good hq k hi v l hv (by omega) hab (by omega))).mono ?_
    rintro e' w' ⟨rfl, g1, g2⟩
    refine ⟨rfl, ⟨A, K, _, g1, k1, k2, k3, by omega, _, rfl, ?_, ?_⟩, g2⟩
    ·exact t2.putP k (page l) ⟨by have := hu.1; omega, by have := hu.2.1; omega, by have := hu.2.2; simpa using this⟩ (page_length l (by omega))
    ·show (if (t.f k).isSome then t.n else t.n + 1) ≤ c + 1
     split <;> omega
  ·rw [if_neg hu] at hab
   obtain ⟨Q, hq⟩ := h.pg
   have e : putOf (H.stt N) (some t) i l = 1 := by
    unfold putOf pfaultOf
    simp only [Option.isSome_some, if_true, hab]
    rw [if_pos (by decide)]
   refine (put_bad hq i v l hv (by show putOf (H.stt N) (some t) i l ≠ 0; rw [e]; decide)).mono ?_
   rintro e' w' ⟨rfl, he⟩
   subst he
   refine ⟨?_, ?_, Mx.refl _ _ _⟩
   ·show Ending.returned (.int .i64 (putOf (H.stt N) (some t) i l)) = _
    rw [e]; rw [lgPut_some]; rw [if_neg hu]
   ·rw [lgPut_some]; rw [if_neg hu]; exact hh.more _ (by omega)
theorem pb_drop (i : Int) (h : Pb w0 w X r p N M c G H) : Calls Tryz.prog 90 #[.pointer (some ⟨p, 0, none⟩), .int .i64 i] w fun e w' => e = .returned (.int .i64 (lgDrop N i H).1) ∧
 Pb w0 w' X r p N M (c + 1) G (lgDrop N i H).2 ∧ Mx w0 X w w' := by
 have hh := h
 obtain ⟨A, K, T, h, k1, k2, k3, k4, k5⟩ := h
 cases H with
 | none =>
  subst k5
  obtain ⟨Q, hq⟩ := h.pg
  refine (drop_bad hq i (by show (12 : Int) ≠ 0; decide)).mono ?_
  rintro e' w' ⟨rfl, he⟩
  subst he
  exact ⟨rfl, hh.more _ (by omega), Mx.refl _ _ _⟩
 | some H =>
  obtain ⟨t, rfl, t2, t3⟩ := k5
  have hab := used_absent (N := N) t2.chn i
  by_cases hu : lgUsed N H i
  ·rw [if_pos hu] at hab
   have e : lgDrop N i (some H) = (0, some { H with free := i.toNat :: H.free }) := by rw [lgDrop_some]; rw [if_pos hu]
   rw [e]
   obtain ⟨k, rfl⟩ : ∃ k : Nat, i = k := ⟨i.toNat, by have := hu.1; omega⟩
   have hl : (H.stt N).next.length = N := nextOf_length _ _
   refine (h.turn (R := fun e => e = .returned (.int .i64 0)) (T' := some (t.drop k)) (S' := { H.stt N with next := ((H.stt N).next.set 0 (k : Int)).set k ((H.stt N).next.getD 0 0) }) (fun Q hq => drop_good hq k hab (by show 0 < (H.stt N).next.length; have := t2.chn.pos; omega))).mono ?_
   rintro e' w' ⟨rfl, g1, g2⟩
   have hku : H.used N k := ⟨by have := hu.1; omega, by have := hu.2.1; omega, by have := hu.2.2; simpa using this⟩
   refine ⟨rfl, ⟨A, K, _, ?_, k1, k2, k3, by omega, _, rfl, t2.dropP k hku, ?_⟩, g2⟩
   ·rw [show ((H.stt N).next.set 0 (k : Int)).set k ((H.stt N).next.getD 0 0) = nextOf N (k :: H.free) from next_drop t2.chn hku.1] at g1
    exact g1
   ·show (if (t.f k).isSome then t.n - 1 else t.n) ≤ c + 1
    split <;> omega
  ·rw [if_neg hu] at hab
   obtain ⟨Q, hq⟩ := h.pg
   have e : pfaultOf (H.stt N) (some t) i = 1 := by
    unfold pfaultOf
    simp only [Option.isSome_some, if_true, hab]
   refine (drop_bad hq i (by show pfaultOf (H.stt N) (some t) i ≠ 0; rw [e]; decide)).mono ?_
   rintro e' w' ⟨rfl, he⟩
   subst he
   refine ⟨?_, ?_, Mx.refl _ _ _⟩
   ·show Ending.returned (.int .i64 (pfaultOf (H.stt N) (some t) i)) = _
    rw [e]; rw [lgDrop_some]; rw [if_neg hu]
   ·rw [lgDrop_some]; rw [if_neg hu]; exact hh.more _ (by omega)
/-- Get: the bytes of a page in use, or ErrArg. -/
theorem pb_get (i : Int) (h : Pb w0 w X r p N M c G H) : Calls Tryz.prog 151 #[.pointer (some ⟨p, 0, none⟩), .int .i64 i] w fun e w' => ∃ v, e = .returned (.tuple #[v, .int .i64 (if lgUsed N (H.getD G) i then 0 else 1)]) ∧
 Bs w' v (if lgUsed N (H.getD G) i then (H.getD G).page i.toNat else []) ∧ (∀ g, v.ownBlock = some g → w.heap.size ≤ g) ∧ Below w.heap.size w w' := by
 have hch := h.chn
 obtain ⟨A, K, T, h, k1, k2, k3, k4, k5⟩ := h
 obtain ⟨h1, h2, P, Q, h3, h4, h5, h6⟩ := h
 have hab := used_absent (N := N) hch i
 by_cases hu : lgUsed N (H.getD G) i
 ·rw [if_pos hu] at hab
  rw [if_pos hu, if_pos hu]
  obtain ⟨k, rfl⟩ : ∃ k : Nat, i = k := ⟨i.toNat, by have := hu.1; omega⟩
  have hkN : k < N := by have := hu.2.1; omega
  have hku : (H.getD G).used N k := ⟨by have := hu.1; omega, hkN, by have := hu.2.2; simpa using this⟩
  have hb : AllLong T ∧ bytesOf A T k = ((H.getD G).page k, 0) := by
   have hst := synced_stored k1 k (by have := k2.len; omega)
   have hft : A.fault (401 + k) = 0 := (k2.enc k1).ok k hkN
   cases H with
   | none =>
    subst k5
    exact ⟨(fun i l hl => by cases hl), by show (storedOf A k, A.fault (401 + k)) = _; rw [hst, hft, k2.page k hku]; rfl⟩
   | some H =>
    obtain ⟨t, rfl, t2, -⟩ := k5
    refine ⟨t2.allLong, ?_⟩
    unfold bytesOf
    cases hp : putAt (some t) k with
    | some b => exact congrArg (·, (0 : Int)) (t2.put k b hp).2
    | none =>
     obtain ⟨o1, o2⟩ := t2.old k hku hp
     show (storedOf A k, A.fault (401 + k)) = _
     rw [hst, hft, k2.page k o1]
     exact congrArg (·, (0 : Int)) o2.symm
  refine (get_ok h4 h3 k (by have := k2.most; omega) hb.1 hab (by rw [hb.2])).mono ?_
  rintro e w' ⟨v, rfl, g1, ⟨g, g2, g3⟩, g4⟩
  rw [hb.2] at g1
  exact ⟨v, rfl, g1, (fun q hq => by rw [g2] at hq; cases hq; exact g3), g4⟩
 ·rw [if_neg hu] at hab
  rw [if_neg hu, if_neg hu]
  refine (get_absent h4 i (by rw [hab]; decide)).mono ?_
  rintro e w' ⟨rfl, g1⟩
  exact ⟨_, rfl, Bs.nil _, (fun q hq => by cases hq), g1⟩
end
section
variable {w0 w w' : World} {X : Nat → Prop} {r p N M c : Nat} {G : Lg} {H : Option Lg}
/-- Open of a disk that holds the pages G. -/
theorem lxb_open {A : Ab} {K : List (List UInt8)} (h1 : Below w0.heap.size w0 w) (h2 : ∀ k, X k → k < w.heap.size) {P : Nat → Prop} (h3 : DkA w P r A) (h5 : ∀ k, P k → w0.heap.size ≤ k ∧ k < w.heap.size ∧ ¬ X k)
 (hr : A.recover.2.1 = 0) (hS : Synced A.recover.2.2 K) (hK : Holds K N G) (hsm : Small A 100000) (hN : 2 ≤ N) (hln : A.now.length = 401 + N) (h0 : A.recover.2.2.stop = 0) (ho : A.recover.2.2.ops ≤ M) :
 Calls Tryz.prog 10 #[.pointer (some ⟨r, 0, none⟩)] w fun e w' => ∃ p, e = .returned (.tuple #[.pointer (some ⟨p, 0, none⟩), .int .i64 0]) ∧ Pb w0 w' X r p N M c G none ∧ Mx w0 X w w' := by
 refine (open_good h3 hsm (by omega) hr (hK.enc hS)).mono ?_
 rintro e w' ⟨p, Q, P', rfl, g1, g2, g3, g4, g5⟩
 have hm : Mx w0 X w w' := g3.mono (fun k hk => ⟨(h5 k hk).1, (h5 k hk).2.2⟩)
 refine ⟨p, rfl, ⟨_, K, none, ⟨h1.trans (hm.below (fun k hk => hk.1) h1.size), fun k hk => Nat.lt_of_lt_of_le (h2 k hk) hm.size, P', Q, g2, g1, fun k hk => ?_, fun k hk => ?_⟩, hS, hK, h0, ho, rfl⟩, hm⟩
 ·obtain ⟨e1, e2⟩ := g4 k hk
  rcases e1 with e | e
  ·exact ⟨(h5 k e).1, e2, (h5 k e).2.2⟩
  ·exact ⟨Nat.le_trans h1.size e, e2, fun hx => by have := h2 k hx; omega⟩
 ·obtain ⟨e1, e2, e3⟩ := g5 k hk
  exact ⟨Nat.le_trans h1.size e1, e2, fun hx => by have := h2 k hx; omega, e3⟩
theorem ndb_open (h : Nd w0 w X r (401 + N)) (hN : 2 ≤ N) (hm : N ≤ 2000) : Calls Tryz.prog 10 #[.pointer (some ⟨r, 0, none⟩)] w fun e w' => ∃ p', e = .returned (.tuple #[.pointer (some ⟨p', 0, none⟩), .int .i64 0]) ∧ Pb w0 w' X r p' N 0 0 (Lg.new N) none ∧ Mx w0 X w w' := by
 obtain ⟨h1, h2, P, h3, h5⟩ := h
 have k1 := new_synced (401 + N)
 have k2 := new_holds hN hm
 have hr := recover_none k1 k2.head
 exact lxb_open h1 h2 h3 h5 (by rw [hr]) (by rw [hr]; exact k1) k2 (new_small _ _) hN (by rw [k1.now]; exact k2.len) (by rw [hr]; rfl) (by rw [hr]; exact Nat.le_refl _)
end
end Go.Proofs.YtbpdapcmaioeiaaGreat
namespace Go.Proofs.YtbpdapcmaioeiaaGreat
open Go.RowKit Go.Maps
set_option maxRecDepth 100000
set_option linter.unusedVariables false
theorem byte_any (v : Value) (l : List UInt8) (x : Int) (hl : l.length ≤ 1099511627776) (w : World) (hbs : Bs w v l) :
 Calls Tryz.prog 111 #[v, .int .i64 x] w fun e w' => ∃ v', e = .returned v' ∧ Own w' w.heap.size v' (l ++ le x 1) ∧ Below w.heap.size w w' := by
 go_enter Tryz.func111, Tryz.ntmps111
 go_wp2_with fail
 refine (behind_any v l 1 (by omega) (by omega) hl _ hbs).mono ?_
 rintro e w1 ⟨v1, rfl, ho1, hb1⟩
 have hs1 := hb1.size
 go_wp2_with fail
 refine (little_at w.heap.size v1 l x 1 1 rfl (by omega) hl w1 hs1 ho1).mono ?_
 rintro e w2 ⟨v2, rfl, ho2, hb2⟩
 go_wp2
 go_ret
 exact ⟨_, rfl, ho2, hb1.trans hb2⟩
theorem tx_length (s : ByteArray) : (tx s).length = 2 + min s.size 65535 := by
 have : s.data.toList.length = s.size := by rw [Array.length_toList]; rfl
 unfold tx
 rw [List.length_append, le_length, List.length_take, this]
 omega
theorem text_core (v : Value) (l : List UInt8) (s s' : ByteArray) (hs : s'.size ≤ 65535) (hl : l.length ≤ 1073741824) (w : World) (hbs : Bs w v l) (hcut : s'.size = min s.size 65535) (hext : s.extract 0 (min s.size 65535) = s') :
 Calls Tryz.prog 135 #[v, .string s] w fun e w' => ∃ v', e = .returned v' ∧ Own w' w.heap.size v' (l ++ (le s'.size 2 ++ s'.data.toList)) ∧ Below w.heap.size w w' := by
 obtain ⟨i0, hi, hz0, hz1, hz2⟩ := info_parts Tryz.infoU8
 by_cases hle : s.size ≤ 65535
 ·have hm : min s.size 65535 = s.size := by omega
  rw [hm] at hcut hext
  have he : s.extract 0 s.size = s := by simp
  obtain rfl : s = s' := he.symm.trans hext
  clear he hext hcut hm
  go_enter Tryz.func135, Tryz.ntmps135
  go_wp2_with fail
  refine (behind_any v l _ (by omega) (by omega) (by omega) _ hbs).mono ?_
  rintro e w1 ⟨v1, rfl, ho1, hb1⟩
  have hs1 := hb1.size
  go_wp2_with fail
  refine (little_at w.heap.size v1 l _ 2 2 rfl (by omega) (by omega) w1 hs1 ho1).mono ?_
  rintro e w2 ⟨v2, rfl, ho2, hb2⟩
  have hs2 := hb2.size
  have hll := le_length s.size 2
  go_wp2_with (at_builtin; refine Lib.wpList_append_own_string _ rfl _ _ 131 9 rfl w.heap.size 5 i0 Tryz.underlying131 Tryz.underlying9 hi hz0 hz1 hz2 _ _ _ rfl ho2.out _ rfl ?c1 ?c2 ?c3 ?_)
  case c1 => simp [maxLen]; omega
  case c2 => simp; omega
  case c3 => omega
  intro v3 w3 ho3 hg3 _
  have hb3 : Below w.heap.size w w3 := (hb1.trans hb2).grown hg3 (by omega) (fun q hq => (ho2.out.lt q hq).1)
  have ho3' : Own w3 w.heap.size v3 (l ++ (le s.size 2 ++ s.data.toList)) := Own.of ho3 (by simp [le_length]; omega) (by rw [strCells_vbs, ← vbs_append, List.append_assoc])
  clear ho3 hg3 ho2 ho1 hb1 hb2
  go_wp2
  go_ret
  exact ⟨_, rfl, ho3', hb3⟩
 ·have hm : min s.size 65535 = 65535 := by omega
  rw [hm] at hcut hext
  have hgt : (65535 : Int) < (s.size : Int) := by omega
  go_enter Tryz.func135, Tryz.ntmps135
  go_wp2_with fail
  refine (behind_any v l _ (by omega) (by omega) (by omega) _ hbs).mono ?_
  rintro e w1 ⟨v1, rfl, ho1, hb1⟩
  have hs1 := hb1.size
  go_wp2_with fail
  refine (little_at w.heap.size v1 l _ 2 2 rfl (by omega) (by omega) w1 hs1 ho1).mono ?_
  rintro e w2 ⟨v2, rfl, ho2, hb2⟩
  have hs2 := hb2.size
  have hll := le_length 65535 2
  go_wp2_with (at_builtin; refine Lib.wpList_append_own_string _ rfl _ _ 131 9 rfl w.heap.size 5 i0 Tryz.underlying131 Tryz.underlying9 hi hz0 hz1 hz2 _ _ _ rfl ho2.out _ rfl ?d1 ?d2 ?d3 ?_)
  case d1 => simp [maxLen]; omega
  case d2 => simp; omega
  case d3 => omega
  intro v3 w3 ho3 hg3 _
  have hb3 : Below w.heap.size w w3 := (hb1.trans hb2).grown hg3 (by omega) (fun q hq => (ho2.out.lt q hq).1)
  have ho3' : Own w3 w.heap.size v3 (l ++ (le s'.size 2 ++ s'.data.toList)) := Own.of ho3 (by simp [le_length]; omega) (by rw [strCells_vbs, ← vbs_append, List.append_assoc, hcut]; rfl)
  clear ho3 hg3 ho2 ho1 hb1 hb2
  go_wp2
  go_ret
  exact ⟨_, rfl, ho3', hb3⟩
theorem text_any (v : Value) (l : List UInt8) (s : ByteArray) (hl : l.length ≤ 1073741824) (w : World) (hbs : Bs w v l) :
 Calls Tryz.prog 135 #[v, .string s] w fun e w' => ∃ v', e = .returned v' ∧ Own w' w.heap.size v' (l ++ tx s) ∧ Below w.heap.size w w' := by
 have hsz : (s.extract 0 (min s.size 65535)).size = min s.size 65535 := by simp
 have h := text_core v l s _ (by omega) hl w hbs hsz rfl
 have e : le ((s.extract 0 (min s.size 65535)).size : Int) 2 ++ (s.extract 0 (min s.size 65535)).data.toList = tx s := by
  unfold tx
  rw [hsz]
  congr 1
  ·congr 1; omega
  ·rw [Lib.extract_data, List.drop_zero, List.take_eq_take_iff]
   have : s.data.toList.length = s.size := by rw [Array.length_toList]; rfl
   omega
 rw [e] at h
 exact h
theorem end_any (r : Nat) (l : List UInt8) (e : Int) (w : World) (h : Rd w r l e) :
 Calls Tryz.prog 94 #[.pointer (some ⟨r, 0, none⟩)] w fun en w' => en = .returned (.int .i64 (endOf l e)) ∧ w = w' := by
 obtain ⟨sv, h0, h1, h2, h3, ⟨ao, cap, rfl, g1, g2, g3, g4⟩, h5⟩ := h
 clear g4 g3
 by_cases he : e = 0
 ·subst he
  by_cases hl : l = []
  ·subst hl
   go_enter Tryz.func94, Tryz.ntmps94
   go_wp2
   go_ret
   exact ⟨by simp [endOf], rfl⟩
  ·have hp : (0 : Int) < l.length := by have := List.length_pos_iff.2 hl; omega
   go_enter Tryz.func94, Tryz.ntmps94
   go_wp2
   go_ret
   exact ⟨by simp [endOf, hl], rfl⟩
 ·have hb : (e == 0) = false := by simpa using he
  go_enter Tryz.func94, Tryz.ntmps94
  go_wp2
  go_ret
  exact ⟨by simp [endOf, he], rfl⟩
/-- A reader whose block, and its bytes' block, are of E. -/
def Rds (E : Nat → Prop) (w : World) (r : Nat) (l : List UInt8) (e : Int) : Prop := Rd w r l e ∧ E r ∧ ∃ sv, w.cell? ⟨r, 0, none⟩ = some sv ∧ ∀ q, sv.ownBlock = some q → E q
theorem Rds.grown {E : Nat → Prop} {w w' : World} {r : Nat} {l : List UInt8} {e : Int} {row : Option Nat} (h : Rds E w r l e) (hg : w.grownBy w' row) (hs : ∀ q, row = some q → ¬ E q) : Rds E w' r l e := by
 obtain ⟨h1, hE, sv, h2, h3⟩ := h
 have hr : row ≠ some r := fun e => hs r e hE
 have hb := hg.block r h1.lt (Ne.symm hr)
 refine ⟨h1.grown hg hr (fun sv' h => ?_), hE, sv, by rw [World.cell?_of_block (w := w) hb]; exact h2, h3⟩
 rw [h2] at h
 cases h
 cases row with
 | none => exact .inl rfl
 | some q => exact .inr (fun e => hs q rfl (h3 q e))
theorem Rds.below {E : Nat → Prop} {w w' : World} {r : Nat} {l : List UInt8} {e : Int} (h : Rds E w r l e) (hb : Below w.heap.size w w') : Rds E w' r l e :=
 h.grown (Below.grownBy hb) (fun q h => by cases h)
theorem Rds.drew {E : Nat → Prop} {w : World} {r : Nat} {l : List UInt8} {e : Int} (h : Rds E w r l e) : Rds E w.drew r l e := h
theorem Rds.fails {E : Nat → Prop} {w : World} {r : Nat} {l : List UInt8} {e : Int} (h : Rds E w r l e) (x : Int) : Rds E (w.setCell ⟨r, 1, none⟩ (.int .i64 x)) r l x ∧ w.grownBy (w.setCell ⟨r, 1, none⟩ (.int .i64 x)) (some r) := by
 obtain ⟨h1, hE, sv, h2, h3⟩ := h
 exact ⟨⟨(h1.fails x).1, hE, sv, (World.cell?_setCell_other w _ _ _ (by simp)).trans h2, h3⟩, (h1.fails x).2⟩
theorem Rds.lefts {E : Nat → Prop} {w : World} {r : Nat} {l m : List UInt8} {e : Int} (h : Rds E w r l e) (v : Value) (hv : Bs w v m) (hne : v.ownBlock ≠ some r) (hq : ∀ q, v.ownBlock = some q → E q) : Rds E (w.setCell ⟨r, 0, none⟩ v) r m e ∧ w.grownBy (w.setCell ⟨r, 0, none⟩ v) (some r) := by
 obtain ⟨h1, hE, sv, h2, h3⟩ := h
 exact ⟨⟨(h1.lefts v hv hne).1, hE, v, World.cell?_setCell_same w _ _ h2, hq⟩, (h1.lefts v hv hne).2⟩
theorem newS_any (v : Value) (l : List UInt8) (hl : l.length ≤ 1099511627776) (w : World) (hbs : Bs w v l) :
 Calls Tryz.prog 68 #[v] w fun e w' => ∃ r, e = .returned (.pointer (some ⟨r, 0, none⟩)) ∧ Rds (fun k => w.heap.size ≤ k ∧ k < w'.heap.size) w' r l 0 ∧ w.heap.size ≤ r ∧ Below w.heap.size w w' := by
 go_enter Tryz.func68, Tryz.ntmps68
 go_wp2_with fail
 refine (behind_any v l 0 (by omega) (by omega) hl _ hbs).mono ?_
 rintro e w1 ⟨v1, rfl, ho1, hb1⟩
 have hs1 := hb1.size
 obtain ⟨ao1, cap1, hv1, -⟩ := ho1.bs
 subst hv1
 go_wp2
 go_ret
 have hne : (Value.slice ao1 l.length cap1).ownBlock ≠ some w1.heap.size := by
  intro h
  have := (ho1.out.lt _ h).2
  omega
 have hb2 : Below w1.heap.size w1 (w1.alloc (.cells #[.slice ao1 l.length cap1, .int .i64 0] 173)) := (Below.refl _ _).alloc (Nat.le_refl _) _
 have hs2 : (w1.alloc (.cells #[.slice ao1 l.length cap1, .int .i64 0] 173)).heap.size = w1.heap.size + 1 := by simp
 refine ⟨w1.heap.size, rfl, ⟨⟨_, ?_, ?_, ?_, ?_, ho1.bs.below hb2, hne⟩, ⟨hs1, by omega⟩, .slice ao1 l.length cap1, ?_, fun q hq => ⟨(ho1.out.lt q hq).1, by have := (ho1.out.lt q hq).2; omega⟩⟩, hs1, hb1.alloc hs1 _⟩
 all_goals simp
theorem failS_any (E : Nat → Prop) (r : Nat) (l : List UInt8) (e x : Int) (w : World) (h : Rds E w r l e) :
 Calls Tryz.prog 143 #[.pointer (some ⟨r, 0, none⟩), .int .i64 x] w fun en w' => en = .returned (.tuple #[]) ∧ Rds E w' r l (failOf e x) ∧ w.grownBy w' (some r) := by
 have hr := h
 obtain ⟨⟨sv, h0, h1, h2, h3, hbs, h5⟩, -⟩ := h
 by_cases he : e = 0
 ·subst he
  go_enter Tryz.func143, Tryz.ntmps143
  go_wp2
  go_end0
  exact ⟨rfl, (hr.fails x).1, (hr.fails x).2⟩
 ·have hb : (e == 0) = false := by simpa using he
  have hfin : Rds E w r l (failOf e x) := by simpa [failOf, he] using hr
  clear he
  go_enter Tryz.func143, Tryz.ntmps143
  go_wp2
  go_end0
  exact ⟨rfl, hfin, World.grownBy.refl _ _⟩
theorem takeS_any (E : Nat → Prop) (r : Nat) (l : List UInt8) (e : Int) (n : Nat) (hn : n ≤ 4294967296) (w : World) (h : Rds E w r l e) :
 Calls Tryz.prog 110 #[.pointer (some ⟨r, 0, none⟩), .int .i64 n] w fun en w' => ∃ v, en = .returned v ∧ Bs w' v (tookOf l e n) ∧ Rds E w' r (leftOf l e n) (errOf l e n) ∧ w.grownBy w' (some r) := by
 have hr := h
 obtain ⟨⟨sv, h0, h1, h2, h3, hbs, h5⟩, hE, sv', h6, h7⟩ := h
 obtain rfl : sv' = sv := by rw [h0] at h6; exact (Option.some.inj h6).symm
 clear h6
 by_cases he : e = 0
 ·subst he
  obtain ⟨ao, cap, rfl, g1, g2, g3, g4⟩ := hbs
  have g2' : cap ≤ 9223372036854775807 := g2
  by_cases hlt : l.length < n
  ·have e1 : tookOf l 0 n = [] := by simp [tookOf]; omega
   have e2 : leftOf l 0 n = l := by simp [leftOf]; omega
   have e3 : errOf l 0 n = 7 := by simp [errOf]; omega
   rw [e1, e2, e3]
   clear e1 e2 e3
   go_enter Tryz.func110, Tryz.ntmps110
   go_wp2
   refine wp_scope_jumps 0 (fun a' w' => AtOut r n a' ∧ Rds E w' r l 7 ∧ w.grownBy w' (some r)) (fun _ _ => 0) rfl ?_ ?_
   ·go_wp2_with (go_at_call 143; refine (failS_any E r l 0 7 _ hr).mono ?_; rintro e w1 ⟨rfl, hr1, hg1⟩)
    go_step3
    exact ⟨rfl, ⟨_, _, _, _, _, _, _, _, _, _, _, _, _, _, rfl⟩, hr1, hg1⟩
   ·rintro a' w' ⟨⟨u6, u7, u8, u9, u10, u11, u12, u13, u14, u15, u16, u17, u18, u19, rfl⟩, hr1, hg1⟩
    go_wp2
    simp only [Exit.jump]
    go_ret
    exact ⟨_, rfl, Bs.nil _, hr1, hg1⟩
  ·have hle : n ≤ l.length := by omega
   have hle' : (n : Int) ≤ l.length := by omega
   go_enter Tryz.func110, Tryz.ntmps110
   go_wp2
   go_step3
   go_wp2
   go_region
   have hbs : Bs w (.slice ao l.length cap) l := ⟨ao, cap, rfl, g1, g2, g3, g4⟩
   have hL := hr.lefts _ (hbs.drops n hle) (by rw [ownBlock_drops (c := l.length) (d := cap)]; exact h5) (fun q hq => h7 q (by rw [ownBlock_drops (c := l.length) (d := cap)] at hq; exact hq))
   generalize Value.slice (if cap = n then ao else Option.map (fun x => x.add n) ao) (l.length - n) (cap - n) = V at hL ⊢
   go_wp2
   go_step3
   go_wp2
   rw [Exit.noGoto_ret]
   go_ret
   have e1 : tookOf l 0 n = l.take n := by simp [tookOf, hle]
   have e2 : leftOf l 0 n = l.drop n := by simp [leftOf, hle]
   have e3 : errOf l 0 n = 0 := by simp [errOf]; omega
   have h5' : (Value.slice ao n cap).ownBlock ≠ some r := by cases ao with | none => simp [Value.ownBlock] | some a => exact h5
   rw [e1, e2, e3]
   exact ⟨_, rfl, ((hbs.takes n hle).grown hL.2 (.inr (.inr h5'))).drew, hL.1.drew, grownBy_drew hL.2⟩
 ·have hb : (e != 0) = true := by simpa using he
  have e1 : tookOf l e n = [] := by simp [tookOf, he]
  have e2 : leftOf l e n = l := by simp [leftOf, he]
  have e3 : errOf l e n = e := by simp [errOf, he]
  rw [e1, e2, e3]
  clear e1 e2 e3 he
  go_enter Tryz.func110, Tryz.ntmps110
  go_wp2
  refine wp_scope_jumps 0 (fun a' w' => AtOut r n a' ∧ Rds E w' r l e ∧ w.grownBy w' (some r)) (fun _ _ => 0) rfl ?_ ?_
  ·go_wp2
   go_step3
   exact ⟨rfl, ⟨_, _, _, _, _, _, _, _, _, _, _, _, _, _, rfl⟩, hr, World.grownBy.refl _ _⟩
  ·rintro a' w' ⟨⟨u6, u7, u8, u9, u10, u11, u12, u13, u14, u15, u16, u17, u18, u19, rfl⟩, hr1, hg1⟩
   go_wp2
   simp only [Exit.jump]
   go_ret
   exact ⟨_, rfl, Bs.nil _, hr1, hg1⟩
theorem numberS_any (E : Nat → Prop) (r : Nat) (l : List UInt8) (e : Int) (n : Nat) (hn : n ≤ 8) (w : World) (h : Rds E w r l e) :
 Calls Tryz.prog 109 #[.func (.func 110) #[.pointer (some ⟨r, 0, none⟩)] #[], .int .i64 n] w fun en w' =>
  en = .returned (.int .i64 (wrap64 (num (tookOf l e n)))) ∧ Rds E w' r (leftOf l e n) (errOf l e n) ∧ w.grownBy w' (some r) := by
 have hlen : (tookOf l e n).length ≤ 8 := Nat.le_trans (tookOf_le l e n) hn
 go_enter Tryz.func109, Tryz.ntmps109
 go_wp2_with fail
 refine (takeS_any E r l e n (by omega) _ h).mono ?_
 rintro en w1 ⟨v, rfl, hbs, hrd, hg⟩
 generalize hq : tookOf l e n = p at *
 have HQ := Lib.hid hq
 clear hq
 by_cases hp : p.length = 0
 ·obtain rfl : p = [] := List.eq_nil_of_length_eq_zero hp
  obtain ⟨ao, cap, rfl, -⟩ := hbs
  go_wp2
  refine wp_loop_rounds 1 ?_
  rw [rounds_succ]
  go_wp2
  go_ret
  exact ⟨by rw [HQ.out, num_nil]; rfl, hrd, hg⟩
 ·obtain ⟨b, off, cap, rfl, h1, h2, hc⟩ := hbs.at (by omega)
  obtain ⟨m, hm⟩ : ∃ m, m = p.length := ⟨_, rfl⟩
  have hm1 : m ≤ p.length := by omega
  have hm2 : p.length ≤ m := by omega
  rw [← hm]
  go_wp2
  go_loop [5, 6, 7, 12] (fun v _ _ i => ∃ k : Nat, k ≤ m ∧ i = .int .i64 k ∧ v = .int .u64 (num (p.take k))) (fun _ _ _ i => m - (intOf i).toNat)
  case atStart => exact ⟨0, Nat.zero_le _, rfl, by simp [num]⟩
  case round =>
   obtain ⟨k, hk, rfl, rfl⟩ := hrel
   by_cases hlt : k < m
   ·have hck := hc k (by omega)
    unfold vb at hck
    obtain ⟨c, hc'⟩ : ∃ c : Nat, c = (p[k]'(by omega)).toNat := ⟨_, rfl⟩
    rw [← hc'] at hck
    have hc256 : c < 256 := by rw [hc']; exact UInt8.toNat_lt _
    obtain ⟨N, hN⟩ : ∃ N, N = num (p.take k) := ⟨_, rfl⟩
    have HN := Lib.hid hN
    have HC := Lib.hid hc'
    rw [← hN]
    clear hN hc' hc
    have hNlt : N < 256 ^ k := by
     rw [HN.out]
     refine Nat.lt_of_lt_of_le (num_lt _) ?_
     rw [List.length_take]
     exact Nat.pow_le_pow_right (by decide) (by omega)
    have ho := or_byte N c k (by omega) hNlt hc256
    have HO := Lib.hid ho
    have hs : p.take (k + 1) = p.take k ++ [p[k]'(by omega)] := by rw [List.take_succ_eq_append_getElem]
    have HS := Lib.hid hs
    clear ho hNlt hs
    go_wp2
    go_round
    case rel => exact ⟨k + 1, by omega, by go_num, by rw [HO.out, HS.out, num_snoc, ← HN.out, ← HC.out, List.length_take, Nat.min_eq_left (by omega)]⟩
    case measure => simp [intOf]; omega
   ·obtain rfl : k = m := by omega
    go_wp2
    go_ret
    exact ⟨by rw [HQ.out]; rfl, hrd, hg⟩
theorem numberS_at (E : Nat → Prop) (r : Nat) (l : List UInt8) (e m : Int) (n : Nat) (hm : m = n) (hn : n ≤ 8) (w : World) (h : Rds E w r l e) :
 Calls Tryz.prog 109 #[.func (.func 110) #[.pointer (some ⟨r, 0, none⟩)] #[], .int .i64 m] w fun en w' =>
  en = .returned (.int .i64 (wrap64 (num (tookOf l e n)))) ∧ Rds E w' r (leftOf l e n) (errOf l e n) ∧ w.grownBy w' (some r) := by
 subst hm; exact numberS_any E r l e n hn w h
theorem rbyteS_any (E : Nat → Prop) (r : Nat) (l : List UInt8) (e : Int) (w : World) (h : Rds E w r l e) :
 Calls Tryz.prog 139 #[.pointer (some ⟨r, 0, none⟩)] w fun en w' =>
  en = .returned (.int .i64 (wrap64 (num (tookOf l e 1)))) ∧ Rds E w' r (leftOf l e 1) (errOf l e 1) ∧ w.grownBy w' (some r) := by
 go_enter Tryz.func139, Tryz.ntmps139
 go_wp2_with fail
 refine (numberS_at E r l e 1 1 rfl (by omega) _ h).mono ?_
 rintro en w1 ⟨rfl, h1, hg⟩
 go_wp2
 go_ret
 exact ⟨rfl, h1, hg⟩
theorem rtextS_any (E : Nat → Prop) (r : Nat) (l : List UInt8) (e : Int) (w : World) (h : Rds E w r l e) :
 Calls Tryz.prog 140 #[.pointer (some ⟨r, 0, none⟩)] w fun en w' =>
  en = .returned (.string ⟨(textOf l e).toArray⟩) ∧ Rds E w' r (textLeft l e) (textErr l e) ∧ w.grownBy w' (some r) := by
 have hn := num_two _ (tookOf_le l e 2)
 have hw : wrap64 ((num (tookOf l e 2) : Nat) : Int) = (num (tookOf l e 2) : Nat) := by simp only [wrap64]; omega
 have HW := Lib.hid hw
 clear hw
 go_enter Tryz.func140, Tryz.ntmps140
 go_wp2_with fail
 refine (numberS_at E r l e 2 2 rfl (by omega) _ h).mono ?_
 rintro en w1 ⟨rfl, h1, hg⟩
 rw [HW.out]
 go_wp2_with fail
 refine (takeS_any E r _ _ _ (by omega) _ h1).mono ?_
 rintro en w2 ⟨v2, rfl, hb2, h2, hg2⟩
 have hc := run_conv_bytes hb2
 go_wp2
 go_ret
 exact ⟨rfl, h2, grownBy_trans hg hg2⟩
end Go.Proofs.YtbpdapcmaioeiaaGreat
