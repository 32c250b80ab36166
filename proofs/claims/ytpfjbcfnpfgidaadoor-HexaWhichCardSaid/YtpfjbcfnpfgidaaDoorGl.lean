/- Pb -/
import Derived.Test.YtpfjbcfnpfgidaaDoorGk
namespace Go.Proofs.YtpfjbcfnpfgidaaDoor
open Go.RowKit Go.Maps
set_option maxRecDepth 100000
set_option linter.unusedVariables false
/-- A disk that holds the pages G, and its pager, with H under way; c: how much was done. -/
def Pb (w0 w : World) (X : Nat → Prop) (r p N M c : Nat) (G : Lg) (H : Option Lg) : Prop :=
  ∃ A K T, Lx w0 w X r p A ((H.getD G).stt N) T ∧ Synced A K ∧ Holds K N G ∧ A.stop = 0 ∧ A.ops ≤ M ∧ match H with
    | none => T = none
    | some H => ∃ t, T = some t ∧ Tr N G H t ∧ t.n ≤ c
section
variable {w0 w w' : World} {X : Nat → Prop} {r p N M c : Nat} {G : Lg} {H : Option Lg}
theorem Pb.below (h : Pb w0 w X r p N M c G H) : Below w0.heap.size w0 w := by obtain ⟨A, K, T, h, -⟩ := h; exact h.below
theorem Pb.chn (h : Pb w0 w X r p N M c G H) : Chn N (H.getD G).free := by
  obtain ⟨A, K, T, h, k1, k2, k3, k4, k5⟩ := h
  cases H with
  | none => exact k2.chn
  | some H => obtain ⟨t, t1, t2, t3⟩ := k5; exact t2.chn
theorem Pb.most (h : Pb w0 w X r p N M c G H) : N ≤ 2000 := by
  obtain ⟨A, K, T, h, k1, k2, k3, k4, k5⟩ := h
  exact k2.most
theorem Pb.long (h : Pb w0 w X r p N M c G H) (i : Nat) (hi : (H.getD G).used N i) : ((H.getD G).page i).length = 504 := by
  obtain ⟨A, K, T, h, k1, k2, k3, k4, k5⟩ := h
  cases H with
  | none => exact k2.long i hi
  | some H => obtain ⟨t, t1, t2, t3⟩ := k5; exact t2.long i hi
theorem pb_begin (h : Pb w0 w X r p N M c G none) : Calls Tryd.prog 12 #[.pointer (some ⟨p, 0, none⟩)] w fun e w' => e = .returned (.int .i64 0) ∧ Pb w0 w' X r p N M c G (some G) ∧ Mx w0 X w w' := by
  obtain ⟨A, K, T, h, k1, k2, k3, k4, rfl⟩ := h
  have hl : (G.stt N).next.length = N := nextOf_length _ _
  have hpos := k2.chn.pos
  have hmost := k2.most
  refine (h.turn (R := fun e => e = .returned (.int .i64 0)) (T' := some ⟨G.stt N, fun _ => none, 0⟩) (S' := G.stt N) (fun Q hq => begin_open hq (by show 0 < (G.stt N).next.length; omega) (by show (G.stt N).next.length ≤ 1000000; omega))).mono ?_
  rintro e w' ⟨rfl, g1, g2⟩
  exact ⟨rfl, ⟨A, K, _, g1, k1, k2, k3, k4, _, rfl, Tr.begin k2.chn k2.wf k2.long, Nat.zero_le _⟩, g2⟩
end
section
variable {w0 w w' : World} {X : Nat → Prop} {r p N M c : Nat} {G : Lg} {H : Option Lg}
end
section
variable {w0 w w' : World} {X : Nat → Prop} {r p N M c : Nat} {G : Lg} {H : Option Lg}
/-- Open of a disk that holds the pages G. -/
theorem lxb_open {A : Ab} {K : List (List UInt8)} (h1 : Below w0.heap.size w0 w) (h2 : ∀ k, X k → k < w.heap.size) {P : Nat → Prop} (h3 : DkA w P r A) (h5 : ∀ k, P k → w0.heap.size ≤ k ∧ k < w.heap.size ∧ ¬ X k)
    (hr : A.recover.2.1 = 0) (hS : Synced A.recover.2.2 K) (hK : Holds K N G) (hsm : Small A 100000) (hN : 2 ≤ N) (hln : A.now.length = 401 + N) (h0 : A.recover.2.2.stop = 0) (ho : A.recover.2.2.ops ≤ M) :
    Calls Tryd.prog 10 #[.pointer (some ⟨r, 0, none⟩)] w fun e w' => ∃ p, e = .returned (.tuple #[.pointer (some ⟨p, 0, none⟩), .int .i64 0]) ∧ Pb w0 w' X r p N M c G none ∧ Mx w0 X w w' := by
  refine (open_good h3 hsm (by omega) hr (hK.enc hS)).mono ?_
  rintro e w' ⟨p, Q, P', rfl, g1, g2, g3, g4, g5⟩
  have hm : Mx w0 X w w' := g3.mono (fun k hk => ⟨(h5 k hk).1, (h5 k hk).2.2⟩)
  refine ⟨p, rfl, ⟨_, K, none, ⟨h1.trans (hm.below (fun k hk => hk.1) h1.size), fun k hk => Nat.lt_of_lt_of_le (h2 k hk) hm.size, P', Q, g2, g1, fun k hk => ?_, fun k hk => ?_⟩, hS, hK, h0, ho, rfl⟩, hm⟩
  · obtain ⟨e1, e2⟩ := g4 k hk
    rcases e1 with e | e
    · exact ⟨(h5 k e).1, e2, (h5 k e).2.2⟩
    · exact ⟨Nat.le_trans h1.size e, e2, fun hx => by have := h2 k hx; omega⟩
  · obtain ⟨e1, e2, e3⟩ := g5 k hk
    exact ⟨Nat.le_trans h1.size e1, e2, fun hx => by have := h2 k hx; omega, e3⟩
theorem ndb_open (h : Nd w0 w X r (401 + N)) (hN : 2 ≤ N) (hm : N ≤ 2000) : Calls Tryd.prog 10 #[.pointer (some ⟨r, 0, none⟩)] w fun e w' => ∃ p', e = .returned (.tuple #[.pointer (some ⟨p', 0, none⟩), .int .i64 0]) ∧ Pb w0 w' X r p' N 0 0 (Lg.new N) none ∧ Mx w0 X w w' := by
  obtain ⟨h1, h2, P, h3, h5⟩ := h
  have k1 := new_synced (401 + N)
  have k2 := new_holds hN hm
  have hr := recover_none k1 k2.head
  exact lxb_open h1 h2 h3 h5 (by rw [hr]) (by rw [hr]; exact k1) k2 (new_small _ _) hN (by rw [k1.now]; exact k2.len) (by rw [hr]; rfl) (by rw [hr]; exact Nat.le_refl _)
end
end Go.Proofs.YtpfjbcfnpfgidaaDoor
