/- triadref4's Drop of a page in use. -/
import Derived.Test.YtcnfnpccbnnplaaR4b
import Derived.Test.YtcnfnpccbnnplaaPgBegin
namespace Go.Proofs.Ytcnfnpccbnnplaa
open Go.RowKit Go.Maps
set_option maxRecDepth 100000

/-- The state with a page fewer. -/
def PS.del (t : PS) (a : Int) : PS := { t with f := fun j => if j = a then none else t.f j, n := if (t.f a).isSome then t.n - 1 else t.n, gone := t.gone ++ [a] }

/-- Q, and what is new. -/
abbrev Gr (Q : Nat → Prop) (w w' : World) : Nat → Prop := fun k => Q k ∨ (w.heap.size ≤ k ∧ k < w'.heap.size)

theorem Rp.moved {P Q : Nat → Prop} {w w' : World} {x pages : Nat} {S : PS} {T : Option PS} (h : Rp w Q x pages S T) (hm : Moved P w w') (hP : ∀ k, Q k → ¬ P k) : Rp w' Q x pages S T := by
  obtain ⟨mS, gS, mT, gT, nT, rT, QS, QT, hb, hx, hS, hT, pS, pT⟩ := h
  exact ⟨mS, gS, mT, gT, nT, rT, QS, QT, hb.moved hm (hP x hx), hx, hS, hT, pS.moved hm (fun k hk => hP k (hS k hk).1), fun t e => ⟨(pT t e).1.moved hm (fun k hk => hP k (hT k hk).1), (pT t e).2⟩⟩
theorem Rp.mono {Q Q' : Nat → Prop} {w : World} {x pages : Nat} {S : PS} {T : Option PS} (h : Rp w Q x pages S T) (hQ : ∀ k, Q k → Q' k) : Rp w Q' x pages S T := by
  obtain ⟨mS, gS, mT, gT, nT, rT, QS, QT, hb, hx, hS, hT, pS, pT⟩ := h
  exact ⟨mS, gS, mT, gT, nT, rT, QS, QT, hb, hQ x hx, fun k hk => ⟨hQ k (hS k hk).1, (hS k hk).2⟩, fun k hk => ⟨hQ k (hT k hk).1, (hT k hk).2⟩, pS, pT⟩

theorem OwnI.lt {w : World} {v : Value} {l : List Int} (h : OwnI w v l) {g : Nat} (hg : v.ownBlock = some g) : g < w.heap.size := by
  obtain ⟨-, h1⟩ := h
  rcases h1 with ⟨rfl, -⟩ | ⟨q, cap, cur, rfl, -, hh, -⟩
  · cases hg
  · cases hg
    exact (Array.getElem?_eq_some_iff.1 hh).1

set_option maxHeartbeats 4000000 in
theorem rdrop_ok {w : World} {Q : Nat → Prop} {x pages : Nat} {S t : PS} (i : Int) (hi : (Lit.int .i64 i).wf = true) (h : Rp w Q x pages S (some t)) (hf : (t.f i).isSome = true) (hl : t.gone.length ≤ 100000) :
    Calls Try.prog 49 #[.pointer (some ⟨x, 0, none⟩), .int .i64 i] w fun e w' => e = .returned (.int .i64 0) ∧ Rp w' (Gr Q w w') x pages S (some (t.del i)) ∧ Moved Q w w' := by
  obtain ⟨mS, gS, mT, gT, nT, rT, QS, QT, hb, hx, hS, hT, pS, pT⟩ := h
  obtain ⟨⟨b, rfl, hqb, him, ho, hgo⟩, rfl, rfl⟩ := pT t rfl
  obtain ⟨so, sk, rfl, d1, d2⟩ := owns_form ho
  have c9 : w.cell? ⟨x, 9, none⟩ = some (.bool true) := by rw [hb.cell]; rfl
  have c5 : w.cell? ⟨x, 5, none⟩ = some (.map (some b)) := by rw [hb.cell]; rfl
  have hlk := him.look und_k und_e und_m (zero_e w) hi
  rw [hf] at hlk
  obtain ⟨s0, hs0⟩ : ∃ s0, s0 = (t.f i).getD ByteArray.empty := ⟨_, rfl⟩
  rw [← hs0] at hlk
  obtain ⟨w1, hdl, him1, htu⟩ := him.drop und_k und_m hi 0
  have hbx : b ≠ x := (hT b hqb).2.1
  have hm1 := turned_moved htu
  have hb1 := hb.moved hm1 hbx.symm
  have ho1 : OwnI w1 (.slice so t.gone.length sk) t.gone := ho.moved hm1 (fun g hg e => (hgo g hg).2 e)
  obtain ⟨k, hk⟩ : ∃ k, k = t.gone.length := ⟨_, rfl⟩
  have c6 : w1.cell? ⟨x, 6, none⟩ = some (.slice so k sk) := by rw [hb1.cell, hk]; rfl
  have hal : Below w1.heap.size w1 (w1.alloc (.cells #[.int .i64 i] 3)) := (Below.refl _ w1).alloc (Nat.le_refl _) _
  have ho2 : OwnI (w1.alloc (.cells #[.int .i64 i] 3)) (.slice so t.gone.length sk) t.gone := ho1.moved (Moved.of_below hal (fun _ => False)) (fun _ _ h => h)
  have hnb := Blk.new w1 #[.int .i64 i] 3
  have hcl : ∀ (j : Nat) u, (ints [i])[j]? = some u → (w1.alloc (.cells #[.int .i64 i] 3)).cell? ((⟨w1.heap.size, 0, none⟩ : Addr).add j) = some u := by
    intro j u hu
    rw [Addr.add_lit, Nat.zero_add, hnb.cell]
    simpa [ints] using hu
  have hown : (w1.alloc (.cells #[.int .i64 i] 3)).ownsRow 0 3 1 (.slice so k sk) k (t.gone.map (Value.int .i64)) := by
    have := ho2
    unfold OwnI at this
    rw [← hk] at this
    exact this
  obtain ⟨X, hX⟩ : ∃ X, X = t.gone.map (Value.int .i64) := ⟨_, rfl⟩
  rw [← hX] at hown
  have HOW := Lib.hid hown
  have HCL := Lib.hid hcl
  have hss : k + 1 ≤ 1000000000 := by omega
  have hs1 : (w1.alloc (.cells #[.int .i64 i] 3)).heap.size = w1.heap.size + 1 := by simp
  have hfin : ∀ g cap8 w8, w8.ownsRow 0 3 1 (.slice (some ⟨g, 0, none⟩) (k + 1) cap8) (k + 1) (X ++ ints [i]) → (w1.alloc (.cells #[.int .i64 i] 3)).grownBy w8 (Value.slice so k sk).ownBlock → ((Value.slice so k sk).ownBlock = some g ∨ g = (w1.alloc (.cells #[.int .i64 i] 3)).heap.size) →
      w8.frozen? ⟨x, 6, none⟩ = false ∧ w8.cell? ⟨x, 6, none⟩ = some (.slice so k sk) ∧
      Rp (w8.setCell ⟨x, 6, none⟩ (.slice (some ⟨g, 0, none⟩) (k + 1) cap8)) (Gr Q w (w8.setCell ⟨x, 6, none⟩ (.slice (some ⟨g, 0, none⟩) (k + 1) cap8))) x pages S (some (t.del i)) ∧ Moved Q w (w8.setCell ⟨x, 6, none⟩ (.slice (some ⟨g, 0, none⟩) (k + 1) cap8)) := by
    intro g cap8 w8 hr hg hq
    rw [hk] at hr hg hq ⊢
    have hm2 : Moved (fun j => (Value.slice so t.gone.length sk).ownBlock = some j) (w1.alloc (.cells #[.int .i64 i] 3)) w8 := ⟨hg.os, hg.tape, hg.output, hg.size, fun j hj hn => hg.block j hj (fun e => hn e.symm)⟩
    have hm3 : Moved (fun j => j = b ∨ (Value.slice so t.gone.length sk).ownBlock = some j) w w8 := ((hm1.mono (fun _ h => .inl h)).trans (Moved.of_below hal (fun _ => False)) (fun _ h => h.elim)).trans hm2 (fun _ h => .inl (.inr h))
    have hxn : ¬ (x = b ∨ (Value.slice so t.gone.length sk).ownBlock = some x) := fun e => e.elim (fun e => hbx e.symm) (fun e => (hT x (hgo x e).1).2.1 rfl)
    have hb8 := hb.moved hm3 hxn
    have hms : Moved (· = x) w8 (w8.setCell ⟨x, 6, none⟩ (.slice (some ⟨g, 0, none⟩) (t.gone.length + 1) cap8)) := (Moved.refl (· = x) w8).setCell ⟨x, 6, none⟩ _ (.inl rfl)
    have hm4 : Moved (fun j => j = x ∨ j = b ∨ (Value.slice so t.gone.length sk).ownBlock = some j) w (w8.setCell ⟨x, 6, none⟩ (.slice (some ⟨g, 0, none⟩) (t.gone.length + 1) cap8)) := (hm3.mono (fun _ h => .inr h)).trans hms (fun _ h => .inl (.inl h))
    have hin : ∀ j, (j = x ∨ j = b ∨ (Value.slice so t.gone.length sk).ownBlock = some j) → Q j := fun j hj => hj.elim (fun e => e ▸ hx) (fun hj => hj.elim (fun e => e ▸ (hT b hqb).1) (fun e => (hT j (hgo j e).1).1))
    have hsz : (w8.setCell ⟨x, 6, none⟩ (.slice (some ⟨g, 0, none⟩) (t.gone.length + 1) cap8)).heap.size = w8.heap.size := by simp [World.setCell]
    obtain ⟨bS, rfl, qbS, imS, oS, gS'⟩ := pS
    have lbS := imS.lt
    have lgS : ∀ j, gS.ownBlock = some j → j < w.heap.size := fun j hj => OwnI.lt oS hj
    have lb := him.lt
    have h18 := hm1.size
    have h28 := hg.size
    have hglt : g < w8.heap.size := OwnI.lt (l := t.gone ++ [i]) (by unfold OwnI; rw [List.length_append, List.map_append, ← hX]; exact hr) rfl
    have hgq : (QT g ∧ g ≠ b) ∨ w.heap.size ≤ g := hq.elim (fun e => .inl (hgo g e)) (fun e => .inr (by omega))
    have hlx := hb.lt
    refine ⟨hb8.frozen 6, by rw [hb8.cell]; rfl, ⟨.map (some bS), gS, .map (some b), .slice (some ⟨g, 0, none⟩) (t.gone.length + 1) cap8, t.next, t.root, fun j => j = bS ∨ gS.ownBlock = some j, fun j => j = b ∨ j = g, hb8.set 6 _, .inl hx, ?_, ?_, ?_, ?_⟩, hm4.mono hin⟩
    · intro j hj
      have : QS j := hj.elim (fun e => e ▸ qbS) (fun e => (gS' j e).1)
      exact ⟨.inl (hS j this).1, (hS j this).2⟩
    · intro j hj
      have hnS : ∀ j, (j = bS ∨ gS.ownBlock = some j) → QS j := fun j hj => hj.elim (fun e => e ▸ qbS) (fun e => (gS' j e).1)
      rcases hj with rfl | rfl
      · exact ⟨.inl (hT j hqb).1, hbx, fun e => (hT j hqb).2.2 (hnS j e)⟩
      · rcases hgq with ⟨e, -⟩ | e
        · exact ⟨.inl (hT j e).1, (hT j e).2.1, fun e' => (hT j e).2.2 (hnS j e')⟩
        · exact ⟨.inr ⟨e, by rw [hsz]; exact hglt⟩, by omega, fun e' => e'.elim (fun e' => by omega) (fun e' => by have := lgS j e'; omega)⟩
    · have hnS : ∀ j, QS j → ¬ (j = x ∨ j = b ∨ (Value.slice so t.gone.length sk).ownBlock = some j) := fun j hj e => e.elim (fun e => (hS j hj).2 e) (fun e => e.elim (fun e => (hT b hqb).2.2 (e ▸ hj)) (fun e => (hT j (hgo j e).1).2.2 hj))
      exact ⟨bS, rfl, .inl rfl, imS.moved hm4 (hnS bS qbS), oS.moved hm4 (fun j hj => hnS j (gS' j hj).1), fun j hj => ⟨.inr hj, (gS' j hj).2⟩⟩
    · intro t' e
      cases e
      refine ⟨⟨b, rfl, .inl rfl, ?_, ?_, fun j hj => ?_⟩, rfl, rfl⟩
      · have i1 := ((him1.moved (Moved.of_below hal (fun _ => False)) (fun h => h)).moved hm2 (fun e => (hgo b e).2 rfl)).moved hms hbx
        exact i1
      · have : OwnI w8 (.slice (some ⟨g, 0, none⟩) (t.gone.length + 1) cap8) (t.gone ++ [i]) := by unfold OwnI; rw [List.length_append, List.map_append, ← hX]; exact hr
        exact this.moved hms (fun j hj e => by
          have e2 : g = j := Option.some.inj hj
          subst e2
          rcases hgq with ⟨e', -⟩ | e'
          · exact (hT g e').2.1 e
          · omega)
      · have e2 : g = j := Option.some.inj hj
        subst e2
        refine ⟨.inr rfl, ?_⟩
        rcases hgq with ⟨-, e'⟩ | e'
        · exact e'
        · omega
  have HFIN := Lib.hid hfin
  clear hfin hown hcl hnb ho2 hal ho1 hb1 hm1 htu him1 hb hx hS hT pS pT him ho hgo hqb hbx hf hi hX hs0 hk hs1
  go_enter Try.func49, Try.ntmps49
  go_wp2_with (first | (with_reducible refine wpList_append_ints rfl _ _ rfl 0 (.slice so k sk) k X rfl HOW.out ⟨w1.heap.size, 0, none⟩ 1 1 [i] rfl rfl HCL.out (by decide) hss (Nat.zero_le _) ?_; intro g cap8 w8 hr8 hg8 hq8; obtain ⟨f6, c6w, h8⟩ := HFIN.out g cap8 w8 hr8 hg8 hq8; have HF8 := Lib.hid h8) | fail)
  go_ret
  exact ⟨rfl, HF8.out⟩
end Go.Proofs.Ytcnfnpccbnnplaa
