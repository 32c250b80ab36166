/- triadref4: Put and Drop at a page that is not in use; Put of too much. -/
import Derived.Test.YtcnfnpccbnnplaaRBusy
namespace Go.Proofs.Ytcnfnpccbnnplaa
open Go.RowKit Go.Maps
set_option maxRecDepth 100000
section
variable {w : World} {Q : Nat → Prop} {x pages : Nat} {S t : PS}
theorem Rp.openT (h : Rp w Q x pages S (some t)) : ∃ b, w.cell? ⟨x, 5, none⟩ = some (.map (some b)) ∧ Im Try.prog 3 9 w b t.f t.n := by
  obtain ⟨mS, gS, mT, gT, nT, rT, QS, QT, hb, -, -, -, -, hT⟩ := h
  obtain ⟨⟨b, rfl, -, him, -, -⟩, -, -⟩ := hT t rfl
  exact ⟨b, by rw [hb.cell]; rfl, him⟩

set_option maxHeartbeats 1000000 in
theorem rput_arg (i : Int) (hi : (Lit.int .i64 i).wf = true) (v : Value) (h : Rp w Q x pages S (some t)) (hf : (t.f i).isSome = false) :
    Calls Try.prog 47 #[.pointer (some ⟨x, 0, none⟩), .int .i64 i, v] w fun e w' => e = .returned (.int .i64 1) ∧ w' = w := by
  have c9 : w.cell? ⟨x, 9, none⟩ = some (.bool true) := h.open
  obtain ⟨b, c5, him⟩ := h.openT
  have hlk := him.look und_k und_e und_m (zero_e w) hi
  rw [hf] at hlk
  obtain ⟨s0, hs0⟩ : ∃ s0, s0 = (t.f i).getD ByteArray.empty := ⟨_, rfl⟩
  rw [← hs0] at hlk
  clear h him hf hs0 hi
  go_enter Try.func47, Try.ntmps47
  go_wp2_with fail
  go_ret
  exact ⟨rfl, rfl⟩

set_option maxHeartbeats 1000000 in
theorem rput_long (i : Int) (hi : (Lit.int .i64 i).wf = true) (v : Value) (l : List UInt8) (hv : Bs w v l) (hl : 504 < l.length) (h : Rp w Q x pages S (some t)) (hf : (t.f i).isSome = true) :
    Calls Try.prog 47 #[.pointer (some ⟨x, 0, none⟩), .int .i64 i, v] w fun e w' => e = .returned (.int .i64 5) ∧ w' = w := by
  obtain ⟨vo, vc, rfl, -⟩ := id hv
  have c9 : w.cell? ⟨x, 9, none⟩ = some (.bool true) := h.open
  obtain ⟨b, c5, him⟩ := h.openT
  have hlk := him.look und_k und_e und_m (zero_e w) hi
  rw [hf] at hlk
  obtain ⟨s0, hs0⟩ : ∃ s0, s0 = (t.f i).getD ByteArray.empty := ⟨_, rfl⟩
  rw [← hs0] at hlk
  have hl' : (504 : Int) < l.length := by omega
  clear h him hf hs0 hi hv
  go_enter Try.func47, Try.ntmps47
  go_wp2_with fail
  go_ret
  exact ⟨rfl, rfl⟩

set_option maxHeartbeats 1000000 in
theorem rdrop_arg (i : Int) (hi : (Lit.int .i64 i).wf = true) (h : Rp w Q x pages S (some t)) (hf : (t.f i).isSome = false) :
    Calls Try.prog 49 #[.pointer (some ⟨x, 0, none⟩), .int .i64 i] w fun e w' => e = .returned (.int .i64 1) ∧ w' = w := by
  have c9 : w.cell? ⟨x, 9, none⟩ = some (.bool true) := h.open
  obtain ⟨b, c5, him⟩ := h.openT
  have hlk := him.look und_k und_e und_m (zero_e w) hi
  rw [hf] at hlk
  obtain ⟨s0, hs0⟩ : ∃ s0, s0 = (t.f i).getD ByteArray.empty := ⟨_, rfl⟩
  rw [← hs0] at hlk
  clear h him hf hs0 hi
  go_enter Try.func49, Try.ntmps49
  go_wp2_with fail
  go_ret
  exact ⟨rfl, rfl⟩

set_option maxHeartbeats 1000000 in
/-- Put of what it may be. -/
theorem rput_ok (i : Int) (hi : (Lit.int .i64 i).wf = true) (v : Value) (l : List UInt8) (hv : Bs w v l) (hl : l.length ≤ 504) (h : Rp w Q x pages S (some t)) (hf : (t.f i).isSome = true) (hn : t.n < maxLen) :
    Calls Try.prog 47 #[.pointer (some ⟨x, 0, none⟩), .int .i64 i, v] w fun e w' => e = .returned (.int .i64 0) ∧ Rp w' Q x pages S (some { t with f := fun j => if j = i then some ⟨(page l).toArray⟩ else t.f j }) ∧ Moved Q w w' := by
  obtain ⟨mS, gS, mT, gT, nT, rT, QS, QT, hb, hx, hS, hT, pS, pT⟩ := h
  obtain ⟨⟨b, rfl, hqb, him, ho, hg⟩, rfl, rfl⟩ := pT t rfl
  refine (rput_any x _ b t.f t.n i v l w hb rfl rfl him hv hi hl hf hn (hT b hqb).2.1.symm).mono ?_
  rintro e w' ⟨rfl, him', hm⟩
  refine ⟨rfl, ⟨mS, gS, .map (some b), gT, t.next, t.root, QS, QT, hb.moved hm (hT b hqb).2.1.symm, hx, hS, hT, pS.moved hm (fun k hk e => (hT b hqb).2.2 (e ▸ hk)), fun t' e => ?_⟩, Moved.trans (Moved.refl Q w) hm (fun j e => .inl (by rw [e]; exact (hT b hqb).1))⟩
  cases e
  exact ⟨⟨b, rfl, hqb, him', ho.moved hm (fun g hg' e => (hg g hg').2 e), hg⟩, rfl, rfl⟩
end
end Go.Proofs.Ytcnfnpccbnnplaa
