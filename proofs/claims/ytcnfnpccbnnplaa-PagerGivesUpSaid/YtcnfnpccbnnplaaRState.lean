/- triadref4's state as a word, and its small calls. -/
import Derived.Test.YtcnfnpccbnnplaaRPut
namespace Go.Proofs.Ytcnfnpccbnnplaa
open Go.RowKit Go.Maps
set_option maxRecDepth 100000

/-- A state of pages, plain: what page has what bytes, how many there are, those that are free and were in use (the last one last), the least one that never was, the root. -/
structure PS where
  f : Int → Option ByteArray
  n : Nat
  gone : List Int
  next : Nat
  root : Int

def OwnI (w : World) (v : Value) (l : List Int) : Prop := w.ownsRow 0 3 1 v l.length (l.map (Value.int .i64))

/-- The state s lies in the map mv and the row gv, whose blocks are of Q. -/
def PsAt (w : World) (Q : Nat → Prop) (mv gv : Value) (s : PS) : Prop :=
  ∃ b, mv = .map (some b) ∧ Q b ∧ Im Try.prog 3 9 w b s.f s.n ∧ OwnI w gv s.gone ∧ ∀ g, gv.ownBlock = some g → Q g ∧ g ≠ b

theorem OwnI.moved {P : Nat → Prop} {w w' : World} {v : Value} {l : List Int} (h : OwnI w v l) (hm : Moved P w w') (hP : ∀ g, v.ownBlock = some g → ¬ P g) : OwnI w' v l := by
  obtain ⟨h0, h1⟩ := h
  refine ⟨h0, ?_⟩
  rcases h1 with h1 | ⟨g, cap, cur, rfl, hb, hh, h2⟩
  · exact .inl h1
  · exact .inr ⟨g, cap, cur, rfl, hb, (hm.block g (Array.getElem?_eq_some_iff.1 hh).1 (hP g rfl)).trans hh, h2⟩

theorem PsAt.moved {P Q : Nat → Prop} {w w' : World} {mv gv : Value} {s : PS} (h : PsAt w Q mv gv s) (hm : Moved P w w') (hP : ∀ k, Q k → ¬ P k) : PsAt w' Q mv gv s := by
  obtain ⟨b, h1, h2, h3, h4, h5⟩ := h
  exact ⟨b, h1, h2, h3.moved hm (hP b h2), h4.moved hm (fun g hg => hP g (h5 g hg).1), h5⟩
theorem PsAt.mono {Q Q' : Nat → Prop} {w : World} {mv gv : Value} {s : PS} (h : PsAt w Q mv gv s) (hQ : ∀ k, Q k → Q' k) : PsAt w Q' mv gv s := by
  obtain ⟨b, h1, h2, h3, h4, h5⟩ := h
  exact ⟨b, h1, hQ b h2, h3, h4, fun g hg => ⟨hQ g (h5 g hg).1, (h5 g hg).2⟩⟩

/-- triadref4's pager at x: so many pages, S committed, T under way (if a transaction is open); its blocks are of Q. -/
def Rp (w : World) (Q : Nat → Prop) (x : Nat) (pages : Nat) (S : PS) (T : Option PS) : Prop :=
  ∃ mS gS mT gT, ∃ nT rT : Int, ∃ QS QT : Nat → Prop, Blk w x #[.int .i64 pages, mS, gS, .int .i64 S.next, .int .i64 S.root, mT, gT, .int .i64 nT, .int .i64 rT, .bool T.isSome] 48 ∧ Q x ∧
    (∀ k, QS k → Q k ∧ k ≠ x) ∧ (∀ k, QT k → Q k ∧ k ≠ x ∧ ¬ QS k) ∧ PsAt w QS mS gS S ∧ ∀ t, T = some t → PsAt w QT mT gT t ∧ nT = t.next ∧ rT = t.root

set_option maxHeartbeats 1000000 in
theorem rsetroot_any {w : World} {Q : Nat → Prop} {x pages : Nat} {S t : PS} (i : Int) (h : Rp w Q x pages S (some t)) (hi : 0 ≤ i) :
    Calls Try.prog 51 #[.pointer (some ⟨x, 0, none⟩), .int .i64 i] w fun e w' => e = .returned (.int .i64 0) ∧ Rp w' Q x pages S (some { t with root := i }) ∧ Moved (· = x) w w' := by
  obtain ⟨mS, gS, mT, gT, nT, rT, QS, QT, hb, hx, hS, hT, pS, pT⟩ := h
  obtain ⟨qT, rfl, rfl⟩ := pT t rfl
  have c9 : w.cell? ⟨x, 9, none⟩ = some (.bool true) := by rw [hb.cell]; rfl
  have c8 : w.cell? ⟨x, 8, none⟩ = some (.int .i64 t.root) := by rw [hb.cell]; rfl
  have f8 := hb.frozen 8
  have hms : Moved (· = x) w (w.setCell ⟨x, 8, none⟩ (.int .i64 i)) := (Moved.refl (· = x) w).setCell ⟨x, 8, none⟩ _ (.inl rfl)
  have H : Hid (Rp (w.setCell ⟨x, 8, none⟩ (.int .i64 i)) Q x pages S (some { t with root := i })) := Lib.hid
    ⟨mS, gS, mT, gT, t.next, i, QS, QT, hb.set 8 _, hx, hS, hT, pS.moved hms (fun k hk e => (hS k hk).2 e), fun t' e => by cases e; exact ⟨qT.moved hms (fun k hk e => (hT k hk).2.1 e), rfl, rfl⟩⟩
  have HM := Lib.hid hms
  clear hb hx hS hT pS pT qT hms
  go_enter Try.func51, Try.ntmps51
  go_wp2_with fail
  go_ret
  exact ⟨rfl, H.out, HM.out⟩

theorem rabort_any {w : World} {Q : Nat → Prop} {x pages : Nat} {S : PS} {T : Option PS} (h : Rp w Q x pages S T) :
    Calls Try.prog 21 #[.pointer (some ⟨x, 0, none⟩)] w fun e w' => e = .returned (.tuple #[]) ∧ Rp w' Q x pages S none ∧ Moved (· = x) w w' := by
  obtain ⟨mS, gS, mT, gT, nT, rT, QS, QT, hb, hx, hS, hT, pS, pT⟩ := h
  have c9 : w.cell? ⟨x, 9, none⟩ = some (.bool T.isSome) := by rw [hb.cell]; rfl
  have f9 := hb.frozen 9
  have hms : Moved (· = x) w (w.setCell ⟨x, 9, none⟩ (.bool false)) := (Moved.refl (· = x) w).setCell ⟨x, 9, none⟩ _ (.inl rfl)
  have H : Hid (Rp (w.setCell ⟨x, 9, none⟩ (.bool false)) Q x pages S none) := Lib.hid
    ⟨mS, gS, mT, gT, nT, rT, QS, QT, hb.set 9 _, hx, hS, hT, pS.moved hms (fun k hk e => (hS k hk).2 e), fun t' e => by cases e⟩
  have HM := Lib.hid hms
  clear hb hx hS hT pS pT hms
  go_enter Try.func21, Try.ntmps21
  go_wp2
  go_end0
  exact ⟨rfl, H.out, HM.out⟩

set_option maxHeartbeats 1000000 in
theorem rcommit4_any {w : World} {Q : Nat → Prop} {x pages : Nat} {S t : PS} (h : Rp w Q x pages S (some t)) :
    Calls Try.prog 18 #[.pointer (some ⟨x, 0, none⟩)] w fun e w' => e = .returned (.int .i64 0) ∧ Rp w' Q x pages t none ∧ Moved (· = x) w w' := by
  obtain ⟨mS, gS, mT, gT, nT, rT, QS, QT, hb, hx, hS, hT, pS, pT⟩ := h
  obtain ⟨qT, rfl, rfl⟩ := pT t rfl
  obtain ⟨bS, rfl, -, -, oS, -⟩ := id pS
  obtain ⟨bT, rfl, -, -, oT, -⟩ := id qT
  obtain ⟨sS, kS, rfl, -⟩ := owns_form oS
  obtain ⟨sT, kT, rfl, -⟩ := owns_form oT
  have c9 : w.cell? ⟨x, 9, none⟩ = some (.bool true) := by rw [hb.cell]; rfl
  have c5 : w.cell? ⟨x, 5, none⟩ = some (.map (some bT)) := by rw [hb.cell]; rfl
  have c6 : w.cell? ⟨x, 6, none⟩ = some (.slice sT t.gone.length kT) := by rw [hb.cell]; rfl
  have c7 : w.cell? ⟨x, 7, none⟩ = some (.int .i64 t.next) := by rw [hb.cell]; rfl
  have c8 : w.cell? ⟨x, 8, none⟩ = some (.int .i64 t.root) := by rw [hb.cell]; rfl
  have c1 : w.cell? ⟨x, 1, none⟩ = some (.map (some bS)) := by rw [hb.cell]; rfl
  have c2 : w.cell? ⟨x, 2, none⟩ = some (.slice sS S.gone.length kS) := by rw [hb.cell]; rfl
  have c3 : w.cell? ⟨x, 3, none⟩ = some (.int .i64 S.next) := by rw [hb.cell]; rfl
  have c4 : w.cell? ⟨x, 4, none⟩ = some (.int .i64 S.root) := by rw [hb.cell]; rfl
  have f1 := hb.frozen 1
  have f2 := hb.frozen 2
  have f3 := hb.frozen 3
  have f4 := hb.frozen 4
  have f9 := hb.frozen 9
  have hms : Moved (· = x) w (((((w.setCell ⟨x, 1, none⟩ (.map (some bT))).setCell ⟨x, 2, none⟩ (.slice sT t.gone.length kT)).setCell ⟨x, 3, none⟩ (.int .i64 t.next)).setCell ⟨x, 4, none⟩ (.int .i64 t.root)).setCell ⟨x, 9, none⟩ (.bool false)) :=
    (((((Moved.refl (· = x) w).setCell ⟨x, 1, none⟩ _ (.inl rfl)).setCell ⟨x, 2, none⟩ _ (.inl rfl)).setCell ⟨x, 3, none⟩ _ (.inl rfl)).setCell ⟨x, 4, none⟩ _ (.inl rfl)).setCell ⟨x, 9, none⟩ _ (.inl rfl)
  have H : Hid (Rp (((((w.setCell ⟨x, 1, none⟩ (.map (some bT))).setCell ⟨x, 2, none⟩ (.slice sT t.gone.length kT)).setCell ⟨x, 3, none⟩ (.int .i64 t.next)).setCell ⟨x, 4, none⟩ (.int .i64 t.root)).setCell ⟨x, 9, none⟩ (.bool false)) Q x pages t none) := Lib.hid
    ⟨_, _, _, _, _, _, QT, fun _ => False, ((((hb.set 1 _).set 2 _).set 3 _).set 4 _).set 9 _, hx, fun k hk => ⟨(hT k hk).1, (hT k hk).2.1⟩, fun _ h => h.elim, qT.moved hms (fun k hk e => (hT k hk).2.1 e), fun t' e => by cases e⟩
  have HM := Lib.hid hms
  clear hb hx hS hT pS pT qT hms oS oT
  go_enter Try.func18, Try.ntmps18
  go_wp2_with fail
  go_ret
  exact ⟨rfl, H.out, HM.out⟩
end Go.Proofs.Ytcnfnpccbnnplaa
