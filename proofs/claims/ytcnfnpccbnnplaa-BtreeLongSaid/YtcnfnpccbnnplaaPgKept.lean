/- Crash and Stop beside the pager; the walk of the law PagerKept. -/
import Derived.Test.YtcnfnpccbnnplaaPgTurns
import Derived.Deep.QuietTactic
import Derived.BigQuiet
namespace Go.Proofs.Ytcnfnpccbnnplaa
open Go.RowKit Go.Maps
set_option maxRecDepth 100000

section
variable {w0 w w' : World} {X : Nat → Prop} {r p N c : Nat} {A : Ab} {S : Stt} {T : Option Tx} {G : Lg} {H : Option Lg}
theorem Lx.disk {B : Ab} {f : FuncId} {args : Array Value} {R : Ending → Prop} (h : Lx w0 w X r p A S T) (hc : ∀ P, (∀ k, P k → w0.heap.size ≤ k ∧ k < w.heap.size ∧ ¬ X k) → DkA w P r A → Calls Try.prog f args w fun e w' => R e ∧ DkA w' P r B ∧ Moved P w w') :
    Calls Try.prog f args w fun e w' => R e ∧ Lx w0 w' X r p B S T ∧ Mx w0 X w w' := by
  obtain ⟨h1, h2, P, Q, h3, h4, h5, h6⟩ := h
  refine (hc P h5 h3).mono ?_
  rintro e w' ⟨hR, g1, g2⟩
  have hs := g2.size
  have hm : Mx w0 X w w' := g2.mono (fun k hk => ⟨(h5 k hk).1, (h5 k hk).2.2⟩)
  exact ⟨hR, ⟨h1.trans (hm.below (fun k hk => hk.1) h1.size), fun k hk => Nat.lt_of_lt_of_le (h2 k hk) hs, P, Q, g1, h4.moved g2 (fun k hk => (h6 k hk).2.2.2), fun k hk => ⟨(h5 k hk).1, Nat.lt_of_lt_of_le (h5 k hk).2.1 hs, (h5 k hk).2.2⟩, fun k hk => ⟨(h6 k hk).1, Nat.lt_of_lt_of_le (h6 k hk).2.1 hs, (h6 k hk).2.2⟩⟩, hm⟩
theorem lx_stop (n : Int) (h : Lx w0 w X r p A S T) : Calls Try.prog 19 #[.pointer (some ⟨r, 0, none⟩), .int .i64 n] w fun e w' => e = .returned (.tuple #[]) ∧ Lx w0 w' X r p (A.stopAt n) S T ∧ Mx w0 X w w' := by
  refine h.disk (R := fun e => e = .returned (.tuple #[])) (fun P hP hd => ?_)
  obtain ⟨s, g1, g2, rfl⟩ := hd
  refine (stop_any P r s n w g1).mono ?_
  rintro e w' ⟨rfl, hd, hm⟩
  exact ⟨rfl, ⟨_, hd, g2, rfl⟩, hm⟩
theorem lx_crash (v : Value) (keep : List Bool) (h : Lx w0 w X r p A S T) (hv : Bl w v keep) (hP : 0 < keep.length → ∀ k, v.ownBlock = some k → k < w0.heap.size ∨ X k) (hs : A.since.length ≤ 1073741824) :
    Calls Try.prog 20 #[.pointer (some ⟨r, 0, none⟩), v] w fun e w' => e = .returned (.tuple #[]) ∧ Lx w0 w' X r p (A.crash keep) S T ∧ Mx w0 X w w' := by
  refine h.disk (R := fun e => e = .returned (.tuple #[])) (fun P hPP hd => ?_)
  obtain ⟨s, g1, g2, rfl⟩ := hd
  refine (crash_any P r s v keep w g1 hv (fun h0 k hk hp => ?_) (by simpa [abs] using hs)).mono ?_
  · rcases hP h0 k hk with e | e
    · have := (hPP k hp).1; omega
    · exact (hPP k hp).2.2 e
  · rintro e w' ⟨rfl, hd, hm⟩
    exact ⟨rfl, ⟨_, hd, rfl, abs_crash s keep⟩, hm⟩
theorem ps_crash (v : Value) (keep : List Bool) (h : Ps w0 w X r p N c G H) (hv : Bl w v keep) (hP : 0 < keep.length → ∀ k, v.ownBlock = some k → k < w0.heap.size ∨ X k) :
    Calls Try.prog 20 #[.pointer (some ⟨r, 0, none⟩), v] w fun e w' => e = .returned (.tuple #[]) ∧ Ps w0 w' X r p N c G H ∧ Mx w0 X w w' := by
  obtain ⟨A, K, T, h, k1, k2, k3, k4, k5⟩ := h
  refine (lx_crash v keep h hv hP (by rw [k1.since]; exact Nat.zero_le _)).mono ?_
  rintro e w' ⟨rfl, g1, g2⟩
  exact ⟨rfl, ⟨_, K, T, g1, (k1.crash keep).1, k2, (k1.crash keep).2, k4, k5⟩, g2⟩
end

def keptPage (bs : List (List UInt8)) (k : Nat) (H : Lg) : Prop := H.free = List.range' (k + 1) (18 - k) ∧ ∀ i (hi : i < bs.length), i < k → H.page (i + 1) = page bs[i] ∧ bs[i].length ≤ 504

theorem Bl.three (w : World) (a b c : Bool) (t : TypeId) : Bl (w.alloc (.cells #[.bool a, .bool b, .bool c] t)) (.slice (some ⟨w.heap.size, 0, none⟩) 3 3) [a, b, c] := by
  refine ⟨_, 3, rfl, by simp, by simp [maxLen], (fun e => by cases e), fun ad had j u hu => ?_⟩
  cases had
  rw [Addr.add_lit, Nat.zero_add, (Blk.new w _ _).cell]
  simpa using hu

end Go.Proofs.Ytcnfnpccbnnplaa
