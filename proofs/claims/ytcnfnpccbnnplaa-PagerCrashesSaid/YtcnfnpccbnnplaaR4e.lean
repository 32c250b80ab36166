/- triadref4's Begin. -/
import Derived.Test.YtcnfnpccbnnplaaR4d
namespace Go.Proofs.Ytcnfnpccbnnplaa
open Go.RowKit Go.Maps
set_option maxRecDepth 100000

set_option maxHeartbeats 400000 in
theorem rbegin_ok {w : World} {Q : Nat → Prop} {x pages : Nat} {S : PS} (h : Rp w Q x pages S none) (hok : S.Ok) :
    Calls Try.prog 14 #[.pointer (some ⟨x, 0, none⟩)] w fun e w' => e = .returned (.int .i64 0) ∧ Rp w' (Gr Q w w') x pages S (some S) ∧ Moved Q w w' := by
  obtain ⟨mS, gS, mT, gT, nT, rT, QS, QT, hb, hx, hS, hT, pS, -⟩ := h
  obtain ⟨bS, rfl, qbS, imS, oS, gS'⟩ := id pS
  obtain ⟨sS, kS, rfl, -⟩ := owns_form oS
  have hcp := copied_any (w := w) pS hok
  have c9 : w.cell? ⟨x, 9, none⟩ = some (.bool false) := by rw [hb.cell]; rfl
  have c1 : w.cell? ⟨x, 1, none⟩ = some (.map (some bS)) := by rw [hb.cell]; rfl
  have c2 : w.cell? ⟨x, 2, none⟩ = some (.slice sS S.gone.length kS) := by rw [hb.cell]; rfl
  have c3 : w.cell? ⟨x, 3, none⟩ = some (.int .i64 S.next) := by rw [hb.cell]; rfl
  have c4 : w.cell? ⟨x, 4, none⟩ = some (.int .i64 S.root) := by rw [hb.cell]; rfl
  obtain ⟨G, hG⟩ : ∃ G, G = S.gone.length := ⟨_, rfl⟩
  obtain ⟨N, hN⟩ : ∃ N, N = S.next := ⟨_, rfl⟩
  obtain ⟨rt, hrt⟩ : ∃ y, y = S.root := ⟨_, rfl⟩
  rw [← hG, ← hN, ← hrt] at hcp
  rw [← hG] at c2
  rw [← hN] at c3
  rw [← hrt] at c4
  have HCP := Lib.hid hcp
  have HBX := Lib.hid hb
  have HS := Lib.hid hS
  have HGS := Lib.hid gS'
  have HPS := Lib.hid pS
  have HX := Lib.hid hx
  have HQB := Lib.hid qbS
  have HIS := Lib.hid imS
  have HOS := Lib.hid oS
  have HGG := Lib.hid hG
  have HNN := Lib.hid hN
  have HRT := Lib.hid hrt
  clear hcp hS gS' pS hx qbS imS oS hT hok hG hN hrt hb
  go_enter Try.func14, Try.ntmps14
  go_wp2_with fail
  refine HCP.out.mono ?_
  rintro e w1 ⟨b, gv, rfl, im1, o1, lb1, lg1, bel1⟩
  obtain ⟨s1, k1, rfl, -⟩ := owns_form o1
  have b1 := HBX.out.moved (Moved.of_below bel1 (fun _ => False)) (fun h => h)
  have f5 := b1.frozen 5
  have f6 := b1.frozen 6
  have f7 := b1.frozen 7
  have f8 := b1.frozen 8
  have f9 := b1.frozen 9
  have d5 : w1.cell? ⟨x, 5, none⟩ = some mT := by rw [b1.cell]; rfl
  have d6 : w1.cell? ⟨x, 6, none⟩ = some gT := by rw [b1.cell]; rfl
  have d7 : w1.cell? ⟨x, 7, none⟩ = some (.int .i64 nT) := by rw [b1.cell]; rfl
  have d8 : w1.cell? ⟨x, 8, none⟩ = some (.int .i64 rT) := by rw [b1.cell]; rfl
  have d9 : w1.cell? ⟨x, 9, none⟩ = some (.bool false) := by rw [b1.cell]; rfl
  have HB1 := Lib.hid b1
  have HIM := Lib.hid im1
  have HO1 := Lib.hid o1
  have HBEL := Lib.hid bel1
  clear b1 im1 o1 bel1
  go_wp2_with fail
  go_ret
  have hms : Moved (· = x) w1 (((((w1.setCell ⟨x, 9, none⟩ (.bool true)).setCell ⟨x, 5, none⟩ (.map (some b))).setCell ⟨x, 6, none⟩ (.slice s1 S.gone.length k1)).setCell ⟨x, 7, none⟩ (.int .i64 N)).setCell ⟨x, 8, none⟩ (.int .i64 rt)) :=
    (((((Moved.refl (· = x) w1).setCell _ _ (.inl rfl)).setCell _ _ (.inl rfl)).setCell _ _ (.inl rfl)).setCell _ _ (.inl rfl)).setCell _ _ (.inl rfl)
  have hbb : Blk (((((w1.setCell ⟨x, 9, none⟩ (.bool true)).setCell ⟨x, 5, none⟩ (.map (some b))).setCell ⟨x, 6, none⟩ (.slice s1 S.gone.length k1)).setCell ⟨x, 7, none⟩ (.int .i64 N)).setCell ⟨x, 8, none⟩ (.int .i64 rt)) x #[.int .i64 pages, .map (some bS), .slice sS S.gone.length kS, .int .i64 S.next, .int .i64 S.root, .map (some b), .slice s1 S.gone.length k1, .int .i64 N, .int .i64 rt, .bool true] 48 :=
    ((((HB1.out.set 9 _).set 5 _).set 6 _).set 7 _).set 8 _
  generalize (((((w1.setCell ⟨x, 9, none⟩ (.bool true)).setCell ⟨x, 5, none⟩ (.map (some b))).setCell ⟨x, 6, none⟩ (.slice s1 S.gone.length k1)).setCell ⟨x, 7, none⟩ (.int .i64 N)).setCell ⟨x, 8, none⟩ (.int .i64 rt)) = w2 at hms hbb ⊢
  have hlx := HBX.out.lt
  have hmv : Moved (· = x) w w2 := ((Moved.of_below HBEL.out (fun _ => False)).mono (fun _ h => h.elim)).trans hms (fun _ h => .inl h)
  have hqs : ∀ j, (j = bS ∨ (Value.slice sS S.gone.length kS).ownBlock = some j) → QS j := fun j hj => hj.elim (fun e => e ▸ HQB.out) (fun e => (HGS.out j e).1)
  have hlt : ∀ j, (j = bS ∨ (Value.slice sS S.gone.length kS).ownBlock = some j) → j < w.heap.size := fun j hj => hj.elim (fun e => e ▸ HIS.out.lt) (fun e => OwnI.lt HOS.out e)
  have hb2 := HIM.out.lt
  have hsz := hms.size
  refine ⟨rfl, ⟨.map (some bS), _, .map (some b), _, N, rt, fun j => j = bS ∨ (Value.slice sS S.gone.length kS).ownBlock = some j, fun j => j = b ∨ (Value.slice s1 S.gone.length k1).ownBlock = some j, hbb, .inl HX.out, ?_, ?_, ?_, ?_⟩, hmv.mono (fun j e => e ▸ HX.out)⟩
  · exact fun j hj => ⟨.inl (HS.out j (hqs j hj)).1, (HS.out j (hqs j hj)).2⟩
  · intro j hj
    have h1 : w.heap.size ≤ j := hj.elim (fun e => e ▸ lb1) (fun e => (lg1 j e).1)
    have h2 : j < w1.heap.size := hj.elim (fun e => e ▸ hb2) (fun e => OwnI.lt HO1.out e)
    exact ⟨.inr ⟨h1, by omega⟩, by omega, fun e => by have := hlt j e; omega⟩
  · refine ⟨bS, rfl, .inl rfl, HIS.out.moved hmv (HS.out bS HQB.out).2, HOS.out.moved hmv (fun j hj => (HS.out j (HGS.out j hj).1).2), fun j hj => ⟨.inr hj, (HGS.out j hj).2⟩⟩
  · intro t e
    cases e
    exact ⟨⟨b, rfl, .inl rfl, HIM.out.moved hms (by omega), HO1.out.moved hms (fun j hj e => by have := (lg1 j hj).1; omega), fun j hj => ⟨.inr hj, (lg1 j hj).2⟩⟩, HNN.out.symm ▸ rfl, HRT.out⟩
end Go.Proofs.Ytcnfnpccbnnplaa
