/- A disk and its pager beside the call's own blocks: Commit, Open, a new disk. -/
import Derived.Test.YtcnfnpccbnnplaaPgSy
namespace Go.Proofs.Ytcnfnpccbnnplaa
open Go.RowKit Go.Maps
set_option maxRecDepth 100000

section
variable {w0 w w' : World} {X : Nat → Prop} {r p N c : Nat} {G : Lg} {H : Option Lg}

theorem stt_range {H : Lg} (hch : Chn N H.free) (hN : N ≤ 2000) : (H.stt N).next.length ≤ 100000 ∧ ∀ k, k < (H.stt N).next.length → 0 ≤ (H.stt N).next.getD k 0 ∧ (H.stt N).next.getD k 0 ≤ 1000000 := by
  have hl : (H.stt N).next.length = N := nextOf_length _ _
  refine ⟨by omega, fun k hk => ?_⟩
  have hk' : k < N := by omega
  show 0 ≤ (nextOf N H.free).getD k 0 ∧ (nextOf N H.free).getD k 0 ≤ 1000000
  rw [nextOf_at _ hk']
  have := link_range (N := N) (L := 0 :: H.free) k (fun a ha => by
    rcases List.mem_cons.1 ha with e | e
    · have := hch.pos; omega
    · exact (hch.all a e).2)
  omega

/-- Commit, wherever the power goes: what was answered, and what the disk is. -/
theorem lx_commit {A : Ab} {K : List (List UInt8)} {t : Tx} {H : Lg} (h : Lx w0 w X r p A (H.stt N) (some t)) (k2 : Holds K N G) (t2 : Tr N G H t) (hsm : Small A 100000) :
    Calls Try.prog 17 #[.pointer (some ⟨p, 0, none⟩)] w fun e w' => e = .returned (.int .i64 (A.pcommit (chgTo A (H.stt N) t N)).1) ∧
      Lx w0 w' X r p (A.pcommit (chgTo A (H.stt N) t N)).2 (if (A.pcommit (chgTo A (H.stt N) t N)).1 = 0 then H.stt N else G.stt N) none ∧ Mx w0 X w w' := by
  obtain ⟨h1, h2, P, Q, h3, h4, h5, h6⟩ := h
  obtain ⟨s1, s2⟩ := stt_range t2.chn k2.most
  have hl : (H.stt N).next.length = N := nextOf_length _ _
  have hw : t.was.next.length = (H.stt N).next.length := by rw [t2.was, hl]; exact nextOf_length _ _
  have hc := commit_open h4 h3 (fun k hk => (h6 k hk).2.2.2) hsm s1 hw t2.allLong s2
  rw [hl, t2.was] at hc
  refine hc.mono ?_
  rintro e w' ⟨P', rfl, g1, g2, g3, g4⟩
  have hm : Mx w0 X w w' := g3.mono (fun k hk => by
    rcases hk with hk | hk
    · exact ⟨(h5 k hk).1, (h5 k hk).2.2⟩
    · exact ⟨(h6 k hk).1, (h6 k hk).2.2.1⟩)
  have hs := hm.size
  refine ⟨rfl, ⟨h1.trans (hm.below (fun k hk => hk.1) h1.size), fun k hk => Nat.lt_of_lt_of_le (h2 k hk) hs, _, _, g2.shrink, g1, fun k hk => ?_, fun k hk => ?_⟩, hm⟩
  · rcases (g4 k hk.1).1 with e | e
    · exact ⟨(h5 k e).1, hk.2, (h5 k e).2.2⟩
    · exact ⟨Nat.le_trans h1.size e, hk.2, fun hx => by have := h2 k hx; omega⟩
  · exact ⟨(h6 k hk.1).1, Nat.lt_of_lt_of_le hk.2 hs, (h6 k hk.1).2.2.1, fun hp => (g4 k hp.1).2 hk⟩

def lgCommit (G : Lg) : Option Lg → Int × Lg
  | none => (12, G)
  | some H => (0, H)
theorem pcommit_good {A : Ab} {K : List (List UInt8)} {t : Tx} {H : Lg} (k1 : Synced A K) (k2 : Holds K N G) (t2 : Tr N G H t) (h0 : A.stop = 0) (hN : (chgTo A (H.stt N) t N).length ≤ 400) :
    (A.pcommit (chgTo A (H.stt N) t N)).1 = 0 ∧ (∃ K', Synced (A.pcommit (chgTo A (H.stt N) t N)).2 K' ∧ Holds K' N H) ∧ (A.pcommit (chgTo A (H.stt N) t N)).2.ops ≤ A.ops + 806 ∧ (A.pcommit (chgTo A (H.stt N) t N)).2.stop = 0 := by
  unfold Ab.pcommit
  by_cases hl : (chgTo A (H.stt N) t N).length = 0
  · rw [if_pos hl]
    exact ⟨rfl, ⟨K, k1, t2.same k2 k1 hl⟩, Nat.le_add_right _ _, h0⟩
  · rw [if_neg hl]
    have hp := chg_pages (S := H.stt N) t2.allLong hN hl
    rw [← k2.len] at hp
    obtain ⟨q1, ⟨K', q2, q3⟩, q4, q5⟩ := commit_good k1 k2.head hp h0
    refine ⟨q1, ⟨K', q2, t2.after k2 k1 q3⟩, ?_, q5⟩
    have := hp.most
    omega
theorem ps_commit (h : Ps w0 w X r p N c G H) (hc : c < 123) (hN : N ≤ 400 := by omega) : Calls Try.prog 17 #[.pointer (some ⟨p, 0, none⟩)] w fun e w' => e = .returned (.int .i64 (lgCommit G H).1) ∧
    Ps w0 w' X r p N (c + 1) (lgCommit G H).2 none ∧ Mx w0 X w w' := by
  have hh := h
  obtain ⟨A, K, T, h, k1, k2, k3, k4, k5⟩ := h
  cases H with
  | none =>
    subst k5
    refine (h.turn (R := fun e => e = .returned (.int .i64 12)) (T' := none) (S' := G.stt N) (fun Q hq => (commit_closed hq).mono (fun e w' ⟨g1, g2, g3⟩ => ⟨g1, Q, g2, g3, fun _ h => .inl h⟩))).mono ?_
    rintro e w' ⟨rfl, g1, g2⟩
    exact ⟨rfl, ⟨A, K, none, g1, k1, k2, k3, by omega, rfl⟩, g2⟩
  | some H =>
    obtain ⟨t, rfl, t2, t3⟩ := k5
    obtain ⟨q1, ⟨K', q2, q3⟩, q4, q5⟩ := pcommit_good k1 k2 t2 k3 (by have := chgTo_length A (H.stt N) t N; omega)
    refine (lx_commit (H := H) h k2 t2 (k1.small (by omega) (by omega))).mono ?_
    rintro e w' ⟨rfl, g1, g2⟩
    rw [q1, if_pos rfl] at g1
    rw [q1]
    exact ⟨rfl, ⟨_, K', none, g1, q2, q3, q5, by omega, rfl⟩, g2⟩

/-- Open of a disk that holds the pages G. -/
theorem lx_open {A : Ab} {K : List (List UInt8)} (h1 : Below w0.heap.size w0 w) (h2 : ∀ k, X k → k < w.heap.size) {P : Nat → Prop} (h3 : DkA w P r A) (h5 : ∀ k, P k → w0.heap.size ≤ k ∧ k < w.heap.size ∧ ¬ X k)
    (hr : A.recover.2.1 = 0) (hS : Synced A.recover.2.2 K) (hK : Holds K N G) (hsm : Small A 100000) (hN : 2 ≤ N) (hln : A.now.length = 401 + N) (h0 : A.recover.2.2.stop = 0) (ho : A.recover.2.2.ops ≤ 810 * c) :
    Calls Try.prog 11 #[.pointer (some ⟨r, 0, none⟩)] w fun e w' => ∃ p, e = .returned (.tuple #[.pointer (some ⟨p, 0, none⟩), .int .i64 0]) ∧ Ps w0 w' X r p N c G none ∧ Mx w0 X w w' := by
  refine (open_good h3 hsm (by omega) hr (hK.enc hS)).mono ?_
  rintro e w' ⟨p, Q, P', rfl, g1, g2, g3, g4, g5⟩
  have hm : Mx w0 X w w' := g3.mono (fun k hk => ⟨(h5 k hk).1, (h5 k hk).2.2⟩)
  refine ⟨p, rfl, ⟨_, K, none, ⟨h1.trans (hm.below (fun k hk => hk.1) h1.size), fun k hk => Nat.lt_of_lt_of_le (h2 k hk) hm.size, P', Q, g2, g1, fun k hk => ?_, fun k hk => ?_⟩, hS, hK, h0, ho, rfl⟩, hm⟩
  · obtain ⟨e1, e2⟩ := g4 k hk
    rcases e1 with e | e
    · exact ⟨(h5 k e).1, e2, (h5 k e).2.2⟩
    · exact ⟨Nat.le_trans h1.size e, e2, fun hx => by have := h2 k hx; omega⟩
  · obtain ⟨e1, e2, e3⟩ := g5 k hk
    exact ⟨Nat.le_trans h1.size e1, e2, fun hx => by have := h2 k hx; omega, e3⟩

/-- Open of a disk that has a pager, whatever that is at. -/
theorem ps_open (h : Ps w0 w X r p N c G H) (hN : 2 ≤ N) (hc : c < 123) : Calls Try.prog 11 #[.pointer (some ⟨r, 0, none⟩)] w fun e w' => ∃ p', e = .returned (.tuple #[.pointer (some ⟨p', 0, none⟩), .int .i64 0]) ∧ Ps w0 w' X r p' N c G none ∧ Mx w0 X w w' := by
  obtain ⟨A, K, T, ⟨h1, h2, P, Q, h3, h4, h5, h6⟩, k1, k2, k3, k4, k5⟩ := h
  have hr := recover_none k1 k2.head
  exact lx_open h1 h2 h3 h5 (by rw [hr]) (by rw [hr]; exact k1) k2 (k1.small (by omega) (by omega)) hN (by rw [k1.now]; exact k2.len) (by rw [hr]; exact k3) (by rw [hr]; exact k4)

/-- A new disk. -/
def Nd (w0 w : World) (X : Nat → Prop) (r n : Nat) : Prop := Sx w0 w X r (Ab.new n)
theorem nd_open (h : Nd w0 w X r (401 + N)) (hN : 2 ≤ N) (hm : N ≤ 2000) : Calls Try.prog 11 #[.pointer (some ⟨r, 0, none⟩)] w fun e w' => ∃ p', e = .returned (.tuple #[.pointer (some ⟨p', 0, none⟩), .int .i64 0]) ∧ Ps w0 w' X r p' N 0 (Lg.new N) none ∧ Mx w0 X w w' := by
  obtain ⟨h1, h2, P, h3, h5⟩ := h
  have k1 := new_synced (401 + N)
  have k2 := new_holds hN hm
  have hr := recover_none k1 k2.head
  exact lx_open h1 h2 h3 h5 (by rw [hr]) (by rw [hr]; exact k1) k2 (new_small _ _) hN (by rw [k1.now]; exact k2.len) (by rw [hr]; rfl) (by rw [hr]; exact Nat.le_refl _)
theorem nd_small (h : Nd w0 w X r 402) : Calls Try.prog 11 #[.pointer (some ⟨r, 0, none⟩)] w fun e w' => e = .returned (.tuple #[.pointer none, .int .i64 1]) ∧ Below w.heap.size w w' := by
  obtain ⟨h1, h2, P, h3, h5⟩ := h
  exact open_small h3 (by show (List.replicate 402 (zeros 512)).length < 403; rw [List.length_replicate]; omega)
theorem nd_new (n : Nat) (x : Int) (hx : x = n) (h1 : 1 ≤ n) (h2 : n ≤ 3000) (hb : Below w0.heap.size w0 w) (hX : ∀ k, X k → k < w.heap.size) :
    Calls Try.prog 10 #[.int .i64 x] w fun e w' => ∃ r, e = .returned (.pointer (some ⟨r, 0, none⟩)) ∧ Nd w0 w' X r n ∧ Below w.heap.size w w' := by
  have hz : sizeOf' x = n := by unfold sizeOf'; omega
  have := sx_new x hb hX
  rw [hz] at this
  exact this
end
end Go.Proofs.Ytcnfnpccbnnplaa
