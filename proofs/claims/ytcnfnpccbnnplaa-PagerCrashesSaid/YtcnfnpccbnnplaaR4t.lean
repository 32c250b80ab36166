/- A commit, stopped wherever, a crash, opened again: as it was, or as it was to be (plain). -/
import Derived.Test.YtcnfnpccbnnplaaPgKept
namespace Go.Proofs.Ytcnfnpccbnnplaa
open Go.RowKit Go.Maps
set_option maxRecDepth 100000

theorem write_stop (A : Ab) (i : Int) (b : List UInt8) : (A.write i b).stop ≤ A.stop := by
  unfold Ab.write
  split
  · exact Nat.sub_le _ _
  · exact Nat.le_refl _
theorem sync_stop (A : Ab) : A.sync.stop ≤ A.stop := by
  unfold Ab.sync
  split
  · exact Nat.le_refl _
  · split
    · exact Nat.sub_le _ _
    · exact Nat.sub_le _ _
theorem run_stop (ops : List Dop) : ∀ A : Ab, (A.run ops).2.stop ≤ A.stop := by
  induction ops with
  | nil => intro A; exact Nat.le_refl _
  | cons o t ih =>
    intro A
    cases o with
    | W i b =>
      simp only [Ab.run]
      split
      · exact Nat.le_trans (ih _) (write_stop _ _ _)
      · exact write_stop _ _ _
    | S =>
      simp only [Ab.run]
      split
      · exact Nat.le_trans (ih _) (sync_stop _)
      · exact sync_stop _
theorem recover_stop (A : Ab) : A.recover.2.2.stop ≤ A.stop := by
  rw [recover_pend]
  split
  · rw [recOf_disk]; exact run_stop _ _
  · exact Nat.le_refl _

/-- What a stopped commit and a crash leave. -/
structure Left (B : Ab) (e : Int) (N c : Nat) (G H : Lg) : Prop where
  good : B.recover.2.1 = 0
  hold : ∃ K, Synced B.recover.2.2 K ∧ (Holds K N H ∨ e ≠ 0 ∧ Holds K N G)
  small : Small B (810 * c)
  len : B.now.length = 401 + N
  stop : B.recover.2.2.stop = 0
  ops : B.recover.2.2.ops ≤ 810 * (c + 1)

theorem left_ends {A : Ab} {K : List (List UInt8)} {t : Tx} {N c : Nat} {G H : Lg} (k1 : Synced A K) (k2 : Holds K N G) (t2 : Tr N G H t) (hN : N ≤ 400) (ho : A.ops ≤ 810 * c) (hc : c ≤ 1000) (n : Int) (hn : n ≤ 1000) (keep : List Bool) :
    (((A.stopAt n).pcommit (chgTo (A.stopAt n) (H.stt N) t N)).1 = 0 ∨ ((A.stopAt n).pcommit (chgTo (A.stopAt n) (H.stt N) t N)).1 = 13) ∧ ((A.stopAt n).pcommit (chgTo (A.stopAt n) (H.stt N) t N)).2.since.length ≤ 1073741824 ∧
      Left (((A.stopAt n).pcommit (chgTo (A.stopAt n) (H.stt N) t N)).2.crash keep) ((A.stopAt n).pcommit (chgTo (A.stopAt n) (H.stt N) t N)).1 N (c + 1) G H := by
  have s1 := k1.stopAt n
  have hsm : Small (A.stopAt n) (810 * c) := ⟨ho, by show A.since.length ≤ _; rw [k1.since]; exact Nat.zero_le _, by show n.toNat ≤ _; omega⟩
  generalize A.stopAt n = B at s1 hsm
  have hcl := chgTo_length B (H.stt N) t N
  unfold Ab.pcommit
  by_cases hl : (chgTo B (H.stt N) t N).length = 0
  · rw [if_pos hl]
    have c1 := s1.crash keep
    have hr := recover_none c1.1 k2.head
    have hs2 := crash_small keep hsm
    refine ⟨.inl rfl, by show B.since.length ≤ _; rw [s1.since]; exact Nat.zero_le _, by rw [hr], ⟨K, by rw [hr]; exact c1.1, .inl (t2.same k2 s1 hl)⟩, hs2.mono (by omega), by show (B.crash keep).now.length = _; rw [c1.1.now]; exact k2.len, by rw [hr]; exact c1.2, by rw [hr]; exact Nat.le_trans hs2.1 (by omega)⟩
  · rw [if_neg hl]
    have hp := chg_pages (S := H.stt N) t2.allLong (by omega) hl
    rw [← k2.len] at hp
    obtain ⟨K', g1, g2, g3⟩ := commit_crash s1 k2.head hp keep
    have hs2 := commit_small (chgTo B (H.stt N) t N) hsm
    have hs3 := crash_small keep hs2
    have h3 : Some3 K' K (chgTo B (H.stt N) t N) := by
      rcases g3 with h | h
      · exact .inr (.inr h.2)
      · exact h.2
    have hlen : K.length ≤ 1073741824 := by rw [k2.len]; omega
    obtain ⟨m, K'', r1, r2, r3, r4, r5⟩ := recover_ends g1 h3 hp hlen g2
    refine ⟨?_, by have := hs2.2.1; omega, r2, ⟨K'', r3, ?_⟩, hs3.mono (by omega), ?_, ?_, ?_⟩
    · rcases g3 with h | h
      · exact .inl h.1
      · exact .inr h.1
    · rcases g3 with ⟨e, ha⟩ | ⟨e, -⟩
      · left
        have hrn := recover_none g1 ha.head
        rw [hrn] at r3
        have hKK : K'' = K' := r3.now.symm.trans g1.now
        rw [hKK]
        exact t2.after k2 s1 ha
      · rcases r4 with h | h
        · exact .inr ⟨by rw [e]; decide, k2.before h⟩
        · exact .inl (t2.after k2 s1 h)
    · show ((B.commit _).2.crash keep).now.length = _
      rw [g1.now, h3.len]; exact k2.len
    · have := recover_stop ((B.commit (chgTo B (H.stt N) t N)).2.crash keep)
      omega
    · have := (recover_small hs3).1
      omega
end Go.Proofs.Ytcnfnpccbnnplaa
