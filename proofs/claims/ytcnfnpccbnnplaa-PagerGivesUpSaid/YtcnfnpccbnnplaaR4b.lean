/- triadref4's New: a page that never was; a page that was given back. -/
import Derived.Test.YtcnfnpccbnnplaaR4a
namespace Go.Proofs.Ytcnfnpccbnnplaa
open Go.RowKit Go.Maps
set_option maxRecDepth 100000

theorem zeros_ok : (⟨(zeros 504).toArray⟩ : ByteArray).size ≤ maxLen := by
  show (zeros 504).toArray.size ≤ maxLen
  rw [List.size_toArray, zeros_length]
  simp [maxLen]

set_option maxHeartbeats 4000000 in
theorem rnew_fresh {w : World} {Q : Nat → Prop} {x pages : Nat} {S t : PS} (h : Rp w Q x pages S (some t)) (hg : t.gone = []) (hn : t.next < pages) (hp : pages ≤ 100000) (hm : t.n ≤ 100000) :
    Calls Try.prog 25 #[.pointer (some ⟨x, 0, none⟩)] w fun e w' => e = .returned (.tuple #[.int .i64 t.next, .int .i64 0]) ∧ Rp w' Q x pages S (some { t.add t.next with next := t.next + 1 }) ∧ Moved Q w w' := by
  obtain ⟨mS, gS, mT, gT, nT, rT, QS, QT, hb, hx, hS, hT, pS, pT⟩ := h
  obtain ⟨⟨b, rfl, hqb, him, ho, hgo⟩, rfl, rfl⟩ := pT t rfl
  obtain ⟨so, sk, rfl, -⟩ := owns_form ho
  have c9 : w.cell? ⟨x, 9, none⟩ = some (.bool true) := by rw [hb.cell]; rfl
  have c0 : w.cell? ⟨x, 0, none⟩ = some (.int .i64 pages) := by rw [hb.cell]; rfl
  have c7 : w.cell? ⟨x, 7, none⟩ = some (.int .i64 t.next) := by rw [hb.cell]; rfl
  have c6 : w.cell? ⟨x, 6, none⟩ = some (.slice so 0 sk) := by rw [hb.cell, hg]; rfl
  have f7 := hb.frozen 7
  obtain ⟨k, hk⟩ : ∃ k, k = t.next := ⟨_, rfl⟩
  have hb1 := hb.set 7 (.int .i64 ((k : Int) + 1))
  have hms : Moved (· = x) w (w.setCell ⟨x, 7, none⟩ (.int .i64 ((k : Int) + 1))) := (Moved.refl (· = x) w).setCell ⟨x, 7, none⟩ _ (.inl rfl)
  have hlx := hb.lt
  have hbx : b ≠ x := (hT b hqb).2.1
  have hwf : (Lit.int .i64 (k : Int)).wf = true := WalkArith.wf_i64 (by omega)
  have hmk := run_make_bytes 504 504 rfl (by omega)
  obtain ⟨o, ho2⟩ : ∃ o : Obj, o = .cells (vbs (zeros 504)).toArray 5 := ⟨_, rfl⟩
  rw [← ho2] at hmk
  obtain ⟨w1, hw1⟩ : ∃ w1, w1 = w.setCell ⟨x, 7, none⟩ (.int .i64 ((k : Int) + 1)) := ⟨_, rfl⟩
  rw [← hw1] at hb1 hms
  have hs1 : w1.heap.size = w.heap.size := by rw [hw1]; simp [World.setCell]
  have hal : Below w1.heap.size w1 (w1.alloc o).drew := ((Below.refl _ w1).alloc (Nat.le_refl _) o).drew
  have c5a : w1.drew.cell? ⟨x, 5, none⟩ = some (.map (some b)) := by show w1.cell? _ = _; rw [hb1.cell]; rfl
  have c5b : (w1.alloc o).drew.cell? ⟨x, 5, none⟩ = some (.map (some b)) := by
    rw [World.cell?_of_block (w := w1) (a := ⟨x, 5, none⟩) (hal.block x (by omega))]; exact c5a
  have hbs : Bs (w1.alloc o).drew (.slice (some ⟨w1.heap.size, 0, none⟩) 504 504) (zeros 504) := by
    have := (Blk.own (base := w1.heap.size) (Blk.new w1 (vbs (zeros 504)).toArray 5) (Nat.le_refl _) (by rw [zeros_length]; simp [maxLen])).bs
    rw [zeros_length] at this
    rw [ho2]; exact this.drew
  obtain ⟨Y, hY⟩ : ∃ Y : ByteArray, Y = ⟨(zeros 504).toArray⟩ := ⟨_, rfl⟩
  have him1 := (him.moved hms hbx).moved (Moved.of_below hal (fun _ => False)) (fun h => h)
  obtain ⟨w2, hup, him2, htu⟩ := him1.store und_k und_e und_m hwf ⟨(zeros 504).toArray⟩ zeros_ok (by simp [maxLen]; omega)
  rw [← hY] at hup
  have hmv : Moved (fun j => j = x ∨ j = b) w w2 := ((hms.mono (fun _ h => .inl h)).trans (Moved.of_below hal (fun _ => False)) (fun _ h => h.elim)).trans (turned_moved htu) (fun _ h => .inl (.inr h))
  have hm1 : Moved (· = b) w1 w2 := (Moved.of_below hal (· = b)).trans (turned_moved htu) (fun _ h => .inl h)
  have c5c : w2.cell? ⟨x, 5, none⟩ = some (.map (some b)) := by rw [(hb1.moved hm1 hbx.symm).cell]; rfl
  have hbs2 : Bs w2 (.slice (some ⟨w1.heap.size, 0, none⟩) 504 504) (zeros 504) := hbs.moved (turned_moved htu) (fun q hq e => by have e2 : w1.heap.size = q := Option.some.inj hq; have := him.lt; omega)
  have H : Hid (Rp w2 Q x pages S (some { t.add t.next with next := t.next + 1 }) ∧ Moved Q w w2) := Lib.hid (by
    have e1 : ((k : Int) + 1) = ((t.next + 1 : Nat) : Int) := by omega
    refine ⟨⟨mS, gS, .map (some b), .slice so t.gone.length sk, ((t.next + 1 : Nat) : Int), t.root, QS, QT, ?_, hx, hS, hT, pS.moved hmv (fun q hq e => e.elim (fun e => (hS q hq).2 e) (fun e => (hT b hqb).2.2 (e ▸ hq))), fun t' e => ?_⟩, hmv.mono (fun j hj => hj.elim (fun e => e ▸ hx) (fun e => e ▸ (hT b hqb).1))⟩
    · rw [e1] at hb1
      exact hb1.moved hm1 hbx.symm
    · cases e
      refine ⟨⟨b, rfl, hqb, ?_, ho.moved hmv (fun g hg' e => e.elim (fun e => (hT g (hgo g hg').1).2.1 e) (fun e => (hgo g hg').2 e)), hgo⟩, rfl, rfl⟩
      have := him2
      rw [hk] at this
      exact this)
  have hkk := hk
  rw [← hk] at c7 hn ⊢
  have hn' : (k : Int) < pages := by omega
  have HC := Lib.hid c5b
  have HC2 := Lib.hid c5c
  have HB2 := Lib.hid hbs2
  have HB := Lib.hid hbs
  have HY := Lib.hid hY
  clear hb hx hS hT pS pT ho hgo him hg hqb hb1 hms hal hbs him1 him2 htu hmv hm1 hs1 hY hwf hm hbx c5b ho2 hk c5c hbs2
  have HW1 := Lib.hid hw1
  have HKK : Hid (k = t.next) := Lib.hid hkk
  clear hw1 hkk
  go_enter Try.func25, Try.ntmps25
  go_wp2_with fail
  rw [← HW1.out]
  clear c7 c6 c0 c9 f7
  refine wp_region_any (by kernel_rfl) ?_
  change wpAny _ _ _ _ _ _ _ (World.drew _)
  refine wpAny_of_held (S := fun (w' : World) => w'.cell? ⟨x, 5, none⟩ = some (.map (some b))) _ _ _ _ ?_
  have hS : (fun (w' : World) => w'.cell? ⟨x, 5, none⟩ = some (.map (some b))) _ := c5a
  try simp only [Act.put, List.setIfInBounds_toArray, List.set_cons_zero, List.set_cons_succ]
  refine wpAnyH_take (i := 0) (oi := ⟨some 60, _, _, _, _, _⟩) (v := ?_) rfl (by kernel_rfl) (by kernel_rfl) (by kernel_rfl) (fun _ _ _ h => h) (Or.inl ⟨by rfl, ?_⟩) hS ?_
  rotate_left
  · intro wz hSw
    clear hSw
    go_simp
    first | done | with_reducible rfl
  try simp only [Act.put, List.setIfInBounds_toArray, List.set_cons_zero, List.set_cons_succ]
  refine wpAnyH_take (i := 1) (oi := ⟨some 61, _, _, _, _, _⟩) (v := ?_) rfl (by kernel_rfl) (by kernel_rfl) (by kernel_rfl) (fun _ _ _ h => h) (Or.inl ⟨by rfl, ?_⟩) hS ?_
  rotate_left
  · intro wz hSw
    clear hSw
    go_simp
    first | done | with_reducible rfl
  try simp only [Act.put, List.setIfInBounds_toArray, List.set_cons_zero, List.set_cons_succ]
  refine wpAnyH_take (i := 2) (oi := ⟨some 62, _, _, _, _, _⟩) (v := ?_) rfl (by kernel_rfl) (by kernel_rfl) (by kernel_rfl) (fun _ _ _ h => h) (Or.inl ⟨by rfl, ?_⟩) hS ?_
  rotate_left
  · intro wz hSw
    clear hSw
    go_simp
    first | done | with_reducible rfl
  try simp only [Act.put, List.setIfInBounds_toArray, List.set_cons_zero, List.set_cons_succ]
  refine wpAnyH_take (i := 3) (oi := ⟨some 63, _, _, _, _, _⟩) (v := ?_) rfl (by kernel_rfl) (by kernel_rfl) (by kernel_rfl) (fun _ _ _ h => h) (Or.inl ⟨by rfl, ?_⟩) hS ?_
  rotate_left
  · intro wz hSw
    clear hSw
    go_simp
    first | done | with_reducible rfl
  try simp only [Act.put, List.setIfInBounds_toArray, List.set_cons_zero, List.set_cons_succ]
  refine wpAnyH_take (i := 4) (oi := ⟨some 64, _, _, _, _, _⟩) (v := ?_) rfl (by kernel_rfl) (by kernel_rfl) (by kernel_rfl) (fun _ _ _ h => h) (Or.inl ⟨by rfl, ?_⟩) hS ?_
  rotate_left
  · intro wz hSw
    (try dsimp only at hSw)
    (try go_split_ands)
    go_simp
    first | done | with_reducible rfl
  try simp only [Act.put, List.setIfInBounds_toArray, List.set_cons_zero, List.set_cons_succ]
  refine wpAnyH_take (i := 5) (oi := ⟨some 65, _, _, _, _, _⟩) (v := ?_) rfl (by kernel_rfl) (by kernel_rfl) (by kernel_rfl) (fun _ _ _ h => h) (Or.inl ⟨by rfl, ?_⟩) hS ?_
  rotate_left
  · intro wz hSw
    clear hSw
    go_simp
    first | done | with_reducible rfl
  try simp only [Act.put, List.setIfInBounds_toArray, List.set_cons_zero, List.set_cons_succ]
  refine wpAnyH_ready (rs := [6]) (by kernel_rfl) (by simp) ?_
  refine AllReadyH.cons (o := ⟨some 66, _, _, _, _, _⟩) rfl (fun K hK => ?_) AllReadyH.nil
  go_simp
  refine hK.out _ _ (HC.out) (fun hS => ?_)
  clear hK K
  try simp only [Act.put, List.setIfInBounds_toArray, List.set_cons_zero, List.set_cons_succ]
  have hS' : (fun (w' : World) => w'.cell? ⟨x, 5, none⟩ = some (.map (some b)) ∧ Bs w' (.slice (some ⟨w1.heap.size, 0, none⟩) 504 504) (zeros 504)) (_) := ⟨hS, HB.out⟩
  refine wpAnyH_mono (S' := fun (w' : World) => w'.cell? ⟨x, 5, none⟩ = some (.map (some b)) ∧ Bs w' (.slice (some ⟨w1.heap.size, 0, none⟩) 504 504) (zeros 504)) (fun _ h => h.1) _ _ _ _ ?_
  clear hS
  have hS := hS'
  clear hS'
  refine wpAnyH_take (i := 7) (oi := ⟨some 67, _, _, _, _, _⟩) (v := ?_) rfl (by kernel_rfl) (by kernel_rfl) (by kernel_rfl) (fun _ _ _ h => h) (Or.inl ⟨by rfl, ?_⟩) hS ?_
  rotate_left
  · intro wz hSw; have hcz := run_conv_bytes hSw.2; rw [← HY.out] at hcz
    clear hSw
    go_simp
    first | done | with_reducible rfl
  try simp only [Act.put, List.setIfInBounds_toArray, List.set_cons_zero, List.set_cons_succ]
  refine wpAnyH_ready (rs := [8]) (by kernel_rfl) (by simp) ?_
  refine AllReadyH.cons (o := ⟨none, _, _, _, _, _⟩) rfl (fun K hK => ?_) AllReadyH.nil
  go_simp
  refine hK.out _ _ (⟨HC2.out, HB2.out⟩) (fun hS => ?_)
  clear hK K
  try simp only [Act.put, List.setIfInBounds_toArray, List.set_cons_zero, List.set_cons_succ]
  refine wpAnyH_done (by kernel_rfl) ?_ _
  clear hS
  go_wp2_with fail
  go_ret2
  rw [HKK.out]
  exact ⟨rfl, H.out⟩
set_option maxHeartbeats 4000000 in
theorem rnew_gone {w : World} {Q : Nat → Prop} {x pages : Nat} {S t : PS} (h : Rp w Q x pages S (some t)) (l : List Int) (a : Int) (hg : t.gone = l ++ [a]) (ha : 0 ≤ a ∧ a ≤ 100000) (hlen : l.length ≤ 100000) (hm : t.n ≤ 100000) :
    Calls Try.prog 25 #[.pointer (some ⟨x, 0, none⟩)] w fun e w' => e = .returned (.tuple #[.int .i64 a, .int .i64 0]) ∧ Rp w' Q x pages S (some { t.add a with gone := l }) ∧ Moved Q w w' := by
  obtain ⟨mS, gS, mT, gT, nT, rT, QS, QT, hb, hx, hS, hT, pS, pT⟩ := h
  obtain ⟨⟨b, rfl, hqb, him, ho, hgo⟩, rfl, rfl⟩ := pT t rfl
  rw [hg] at ho
  obtain ⟨q, cap, rfl, d1, d2, cq, ho⟩ := ho.last
  have d2' : cap ≤ 9223372036854775807 := d2
  have c9 : w.cell? ⟨x, 9, none⟩ = some (.bool true) := by rw [hb.cell]; rfl
  have c7 : w.cell? ⟨x, 7, none⟩ = some (.int .i64 t.next) := by rw [hb.cell]; rfl
  have c6 : w.cell? ⟨x, 6, none⟩ = some (.slice (some ⟨q, 0, none⟩) (l.length + 1) cap) := by rw [hb.cell]; rfl
  have f6 := hb.frozen 6
  obtain ⟨k, hk⟩ : ∃ k, k = l.length := ⟨_, rfl⟩
  have hb1 := hb.set 6 (.slice (some ⟨q, 0, none⟩) k cap)
  have hms : Moved (· = x) w (w.setCell ⟨x, 6, none⟩ (.slice (some ⟨q, 0, none⟩) k cap)) := (Moved.refl (· = x) w).setCell ⟨x, 6, none⟩ _ (.inl rfl)
  have hlx := hb.lt
  have hbx : b ≠ x := (hT b hqb).2.1
  have hwf : (Lit.int .i64 a).wf = true := WalkArith.wf_i64 (by omega)
  have hmk := run_make_bytes 504 504 rfl (by omega)
  obtain ⟨o, ho2⟩ : ∃ o : Obj, o = .cells (vbs (zeros 504)).toArray 5 := ⟨_, rfl⟩
  rw [← ho2] at hmk
  obtain ⟨w1, hw1⟩ : ∃ w1, w1 = w.setCell ⟨x, 6, none⟩ (.slice (some ⟨q, 0, none⟩) k cap) := ⟨_, rfl⟩
  rw [← hw1] at hb1 hms
  have hs1 : w1.heap.size = w.heap.size := by rw [hw1]; simp [World.setCell]
  have hal : Below w1.heap.size w1 (w1.alloc o).drew := ((Below.refl _ w1).alloc (Nat.le_refl _) o).drew
  have c5a : w1.drew.cell? ⟨x, 5, none⟩ = some (.map (some b)) := by show w1.cell? _ = _; rw [hb1.cell]; rfl
  have c5b : (w1.alloc o).drew.cell? ⟨x, 5, none⟩ = some (.map (some b)) := by
    rw [World.cell?_of_block (w := w1) (a := ⟨x, 5, none⟩) (hal.block x (by omega))]; exact c5a
  have hbs : Bs (w1.alloc o).drew (.slice (some ⟨w1.heap.size, 0, none⟩) 504 504) (zeros 504) := by
    have := (Blk.own (base := w1.heap.size) (Blk.new w1 (vbs (zeros 504)).toArray 5) (Nat.le_refl _) (by rw [zeros_length]; simp [maxLen])).bs
    rw [zeros_length] at this
    rw [ho2]; exact this.drew
  obtain ⟨Y, hY⟩ : ∃ Y : ByteArray, Y = ⟨(zeros 504).toArray⟩ := ⟨_, rfl⟩
  have him1 := (him.moved hms hbx).moved (Moved.of_below hal (fun _ => False)) (fun h => h)
  obtain ⟨w2, hup, him2, htu⟩ := him1.store und_k und_e und_m hwf ⟨(zeros 504).toArray⟩ zeros_ok (by simp [maxLen]; omega)
  rw [← hY] at hup
  have hmv : Moved (fun j => j = x ∨ j = b) w w2 := ((hms.mono (fun _ h => .inl h)).trans (Moved.of_below hal (fun _ => False)) (fun _ h => h.elim)).trans (turned_moved htu) (fun _ h => .inl (.inr h))
  have hm1 : Moved (· = b) w1 w2 := (Moved.of_below hal (· = b)).trans (turned_moved htu) (fun _ h => .inl h)
  have c5c : w2.cell? ⟨x, 5, none⟩ = some (.map (some b)) := by rw [(hb1.moved hm1 hbx.symm).cell]; rfl
  have hbs2 : Bs w2 (.slice (some ⟨w1.heap.size, 0, none⟩) 504 504) (zeros 504) := hbs.moved (turned_moved htu) (fun q hq e => by have e2 : w1.heap.size = q := Option.some.inj hq; have := him.lt; omega)
  have H : Hid (Rp w2 Q x pages S (some { t.add a with gone := l }) ∧ Moved Q w w2) := Lib.hid (by
    refine ⟨⟨mS, gS, .map (some b), .slice (some ⟨q, 0, none⟩) k cap, t.next, t.root, QS, QT, ?_, hx, hS, hT, pS.moved hmv (fun j hq e => e.elim (fun e => (hS j hq).2 e) (fun e => (hT b hqb).2.2 (e ▸ hq))), fun t' e => ?_⟩, hmv.mono (fun j hj => hj.elim (fun e => e ▸ hx) (fun e => e ▸ (hT b hqb).1))⟩
    · exact hb1.moved hm1 hbx.symm
    · cases e
      have hgq := hgo q rfl
      refine ⟨⟨b, rfl, hqb, him2, ?_, fun g hg' => by cases hg'; exact hgq⟩, rfl, rfl⟩
      rw [hk]
      exact ho.moved hmv (fun g hg' e => by cases hg'; exact e.elim (fun e => (hT q hgq.1).2.1 e) (fun e => hgq.2 e)))
  rw [← hk] at c6 cq d1 hlen
  have HC := Lib.hid c5b
  have HC2 := Lib.hid c5c
  have HB2 := Lib.hid hbs2
  have HB := Lib.hid hbs
  have HY := Lib.hid hY
  clear hb hx hS hT pS pT ho hgo him hg hqb hb1 d2 ha hms hal hbs him1 him2 htu hmv hm1 hs1 hY hwf hm hbx c5b ho2 hk c5c hbs2
  have HW1 := Lib.hid hw1
  clear hw1
  go_enter Try.func25, Try.ntmps25
  go_wp2_with fail
  rw [← HW1.out]
  clear c7 c6 c9 f6 cq
  refine wp_region_any (by kernel_rfl) ?_
  change wpAny _ _ _ _ _ _ _ (World.drew _)
  refine wpAny_of_held (S := fun (w' : World) => w'.cell? ⟨x, 5, none⟩ = some (.map (some b))) _ _ _ _ ?_
  have hS : (fun (w' : World) => w'.cell? ⟨x, 5, none⟩ = some (.map (some b))) _ := c5a
  try simp only [Act.put, List.setIfInBounds_toArray, List.set_cons_zero, List.set_cons_succ]
  refine wpAnyH_take (i := 0) (oi := ⟨some 60, _, _, _, _, _⟩) (v := ?_) rfl (by kernel_rfl) (by kernel_rfl) (by kernel_rfl) (fun _ _ _ h => h) (Or.inl ⟨by rfl, ?_⟩) hS ?_
  rotate_left
  · intro wz hSw
    clear hSw
    go_simp
    first | done | with_reducible rfl
  try simp only [Act.put, List.setIfInBounds_toArray, List.set_cons_zero, List.set_cons_succ]
  refine wpAnyH_take (i := 1) (oi := ⟨some 61, _, _, _, _, _⟩) (v := ?_) rfl (by kernel_rfl) (by kernel_rfl) (by kernel_rfl) (fun _ _ _ h => h) (Or.inl ⟨by rfl, ?_⟩) hS ?_
  rotate_left
  · intro wz hSw
    clear hSw
    go_simp
    first | done | with_reducible rfl
  try simp only [Act.put, List.setIfInBounds_toArray, List.set_cons_zero, List.set_cons_succ]
  refine wpAnyH_take (i := 2) (oi := ⟨some 62, _, _, _, _, _⟩) (v := ?_) rfl (by kernel_rfl) (by kernel_rfl) (by kernel_rfl) (fun _ _ _ h => h) (Or.inl ⟨by rfl, ?_⟩) hS ?_
  rotate_left
  · intro wz hSw
    clear hSw
    go_simp
    first | done | with_reducible rfl
  try simp only [Act.put, List.setIfInBounds_toArray, List.set_cons_zero, List.set_cons_succ]
  refine wpAnyH_take (i := 3) (oi := ⟨some 63, _, _, _, _, _⟩) (v := ?_) rfl (by kernel_rfl) (by kernel_rfl) (by kernel_rfl) (fun _ _ _ h => h) (Or.inl ⟨by rfl, ?_⟩) hS ?_
  rotate_left
  · intro wz hSw
    clear hSw
    go_simp
    first | done | with_reducible rfl
  try simp only [Act.put, List.setIfInBounds_toArray, List.set_cons_zero, List.set_cons_succ]
  refine wpAnyH_take (i := 4) (oi := ⟨some 64, _, _, _, _, _⟩) (v := ?_) rfl (by kernel_rfl) (by kernel_rfl) (by kernel_rfl) (fun _ _ _ h => h) (Or.inl ⟨by rfl, ?_⟩) hS ?_
  rotate_left
  · intro wz hSw
    (try dsimp only at hSw)
    (try go_split_ands)
    go_simp
    first | done | with_reducible rfl
  try simp only [Act.put, List.setIfInBounds_toArray, List.set_cons_zero, List.set_cons_succ]
  refine wpAnyH_take (i := 5) (oi := ⟨some 65, _, _, _, _, _⟩) (v := ?_) rfl (by kernel_rfl) (by kernel_rfl) (by kernel_rfl) (fun _ _ _ h => h) (Or.inl ⟨by rfl, ?_⟩) hS ?_
  rotate_left
  · intro wz hSw
    clear hSw
    go_simp
    first | done | with_reducible rfl
  try simp only [Act.put, List.setIfInBounds_toArray, List.set_cons_zero, List.set_cons_succ]
  refine wpAnyH_ready (rs := [6]) (by kernel_rfl) (by simp) ?_
  refine AllReadyH.cons (o := ⟨some 66, _, _, _, _, _⟩) rfl (fun K hK => ?_) AllReadyH.nil
  go_simp
  refine hK.out _ _ (HC.out) (fun hS => ?_)
  clear hK K
  try simp only [Act.put, List.setIfInBounds_toArray, List.set_cons_zero, List.set_cons_succ]
  have hS' : (fun (w' : World) => w'.cell? ⟨x, 5, none⟩ = some (.map (some b)) ∧ Bs w' (.slice (some ⟨w1.heap.size, 0, none⟩) 504 504) (zeros 504)) (_) := ⟨hS, HB.out⟩
  refine wpAnyH_mono (S' := fun (w' : World) => w'.cell? ⟨x, 5, none⟩ = some (.map (some b)) ∧ Bs w' (.slice (some ⟨w1.heap.size, 0, none⟩) 504 504) (zeros 504)) (fun _ h => h.1) _ _ _ _ ?_
  clear hS
  have hS := hS'
  clear hS'
  refine wpAnyH_take (i := 7) (oi := ⟨some 67, _, _, _, _, _⟩) (v := ?_) rfl (by kernel_rfl) (by kernel_rfl) (by kernel_rfl) (fun _ _ _ h => h) (Or.inl ⟨by rfl, ?_⟩) hS ?_
  rotate_left
  · intro wz hSw; have hcz := run_conv_bytes hSw.2; rw [← HY.out] at hcz
    clear hSw
    go_simp
    first | done | with_reducible rfl
  try simp only [Act.put, List.setIfInBounds_toArray, List.set_cons_zero, List.set_cons_succ]
  refine wpAnyH_ready (rs := [8]) (by kernel_rfl) (by simp) ?_
  refine AllReadyH.cons (o := ⟨none, _, _, _, _, _⟩) rfl (fun K hK => ?_) AllReadyH.nil
  go_simp
  refine hK.out _ _ (⟨HC2.out, HB2.out⟩) (fun hS => ?_)
  clear hK K
  try simp only [Act.put, List.setIfInBounds_toArray, List.set_cons_zero, List.set_cons_succ]
  refine wpAnyH_done (by kernel_rfl) ?_ _
  clear hS
  go_wp2_with fail
  go_ret2
  exact ⟨rfl, H.out⟩
end Go.Proofs.Ytcnfnpccbnnplaa
