/- triadref4: what is seen: now, Root, Free, Get. -/
import Derived.Test.YtcnfnpccbnnplaaRState
namespace Go.Proofs.Ytcnfnpccbnnplaa
open Go.RowKit Go.Maps
set_option maxRecDepth 100000

theorem rnow_any {w : World} {Q : Nat → Prop} {x pages : Nat} {S : PS} {T : Option PS} (h : Rp w Q x pages S T) :
    Calls Try.prog 89 #[.pointer (some ⟨x, 0, none⟩)] w fun e w' => ∃ m g Q', e = .returned (.agg #[m, g, .int .i64 (T.getD S).next, .int .i64 (T.getD S).root]) ∧ PsAt w' Q' m g (T.getD S) ∧ Below w.heap.size w w' := by
  obtain ⟨mS, gS, mT, gT, nT, rT, QS, QT, hb, hx, hS, hT, pS, pT⟩ := h
  obtain ⟨o, ho⟩ : ∃ o : Obj, o = .cells #[.map none, .slice none 0 0, .int .i64 0, .int .i64 0] 46 := ⟨_, rfl⟩
  have hb := hb.alloc o
  have hal : Below w.heap.size w (w.alloc o) := (Below.refl _ w).alloc (Nat.le_refl _) o
  have hnb := Blk.new w #[.map none, .slice none 0 0, .int .i64 0, .int .i64 0] 46
  rw [← ho] at hnb
  have hlx := hb.lt
  cases T with
  | none =>
    have c9 : (w.alloc o).cell? ⟨x, 9, none⟩ = some (.bool false) := by rw [hb.cell]; rfl
    obtain ⟨bS, rfl, -, -, oS, -⟩ := id pS
    obtain ⟨sS, kS, rfl, -⟩ := owns_form oS
    have c1 : (w.alloc o).cell? ⟨x, 1, none⟩ = some (.map (some bS)) := by rw [hb.cell]; rfl
    have c2 : (w.alloc o).cell? ⟨x, 2, none⟩ = some (.slice sS S.gone.length kS) := by rw [hb.cell]; rfl
    have c3 : (w.alloc o).cell? ⟨x, 3, none⟩ = some (.int .i64 S.next) := by rw [hb.cell]; rfl
    have c4 : (w.alloc o).cell? ⟨x, 4, none⟩ = some (.int .i64 S.root) := by rw [hb.cell]; rfl
    have HP := Lib.hid pS
    subst ho
    clear hb hx hS hT pS pT oS
    go_enter Try.func89, Try.ntmps89
    go_wp2_with fail
    refine bodyPost_ret (results_cell_row rfl _ _ w.heap.size 46 _ (0, 0) _ rfl (heap_alloc_new w _) Try.underlying46 rfl (by kernel_rfl)) rfl ?_
    exact ⟨_, _, _, rfl, HP.out.moved (Moved.of_below ((Below.refl _ w).alloc (Nat.le_refl _) _) (fun _ => False)) (fun _ _ h => h), (Below.refl _ w).alloc (Nat.le_refl _) _⟩
  | some t =>
    have c9 : (w.alloc o).cell? ⟨x, 9, none⟩ = some (.bool true) := by rw [hb.cell]; rfl
    obtain ⟨qT, rfl, rfl⟩ := pT t rfl
    obtain ⟨bT, rfl, -, -, oT, -⟩ := id qT
    obtain ⟨sT, kT, rfl, -⟩ := owns_form oT
    have c5 : (w.alloc o).cell? ⟨x, 5, none⟩ = some (.map (some bT)) := by rw [hb.cell]; rfl
    have c6 : (w.alloc o).cell? ⟨x, 6, none⟩ = some (.slice sT t.gone.length kT) := by rw [hb.cell]; rfl
    have c7 : (w.alloc o).cell? ⟨x, 7, none⟩ = some (.int .i64 t.next) := by rw [hb.cell]; rfl
    have c8 : (w.alloc o).cell? ⟨x, 8, none⟩ = some (.int .i64 t.root) := by rw [hb.cell]; rfl
    have HP := Lib.hid qT
    subst ho
    clear hb hx hS hT pS pT oT qT
    go_enter Try.func89, Try.ntmps89
    go_wp2_with fail
    refine bodyPost_ret (results_cell_row rfl _ _ w.heap.size 46 _ (0, 0) _ rfl (heap_alloc_new w _) Try.underlying46 rfl (by kernel_rfl)) rfl ?_
    exact ⟨_, _, _, rfl, HP.out.moved (Moved.of_below ((Below.refl _ w).alloc (Nat.le_refl _) _) (fun _ => False)) (fun _ _ h => h), (Below.refl _ w).alloc (Nat.le_refl _) _⟩

theorem field_root (b : Nat) (so : Option Addr) (n k : Nat) (nx rt : Int) (w : World) : (Instr.field 46 (.agg #[.map (some b), .slice so n k, .int .i64 nx, .int .i64 rt]) 3).run Try.prog w = .ok (.int .i64 rt) w := by kernel_rfl
theorem field_map (b : Nat) (so : Option Addr) (n k : Nat) (nx rt : Int) (w : World) : (Instr.field 46 (.agg #[.map (some b), .slice so n k, .int .i64 nx, .int .i64 rt]) 0).run Try.prog w = .ok (.map (some b)) w := by kernel_rfl

theorem rroot_any {w : World} {Q : Nat → Prop} {x pages : Nat} {S : PS} {T : Option PS} (h : Rp w Q x pages S T) :
    Calls Try.prog 58 #[.pointer (some ⟨x, 0, none⟩)] w fun e w' => e = .returned (.int .i64 (T.getD S).root) ∧ Below w.heap.size w w' := by
  have H := Lib.hid (rnow_any h)
  clear h
  go_enter Try.func58, Try.ntmps58
  go_wp2_with fail
  refine H.out.mono ?_
  rintro e w' ⟨m, g, Q', rfl, ⟨b, rfl, -, -, ho, -⟩, hw⟩
  obtain ⟨so, sk, rfl, -⟩ := owns_form ho
  have HB := Lib.hid hw
  have hfd := field_root b so (T.getD S).gone.length sk (T.getD S).next (T.getD S).root w'
  clear hw ho
  go_wp2_with fail
  go_ret
  exact ⟨rfl, HB.out⟩

/-- Free: how many pages, but page 0, are not in use. -/
theorem rfree_any {w : World} {Q : Nat → Prop} {x pages : Nat} {S : PS} {T : Option PS} (h : Rp w Q x pages S T) (hp : pages ≤ 1000000) (hn : (T.getD S).n ≤ 1000000) :
    Calls Try.prog 59 #[.pointer (some ⟨x, 0, none⟩)] w fun e w' => e = .returned (.int .i64 ((pages : Int) - 1 - (T.getD S).n)) ∧ Below w.heap.size w w' := by
  have c0 : w.cell? ⟨x, 0, none⟩ = some (.int .i64 pages) := by
    obtain ⟨mS, gS, mT, gT, nT, rT, QS, QT, hb, -⟩ := h
    rw [hb.cell]; rfl
  have hlx : x < w.heap.size := by
    obtain ⟨mS, gS, mT, gT, nT, rT, QS, QT, hb, -⟩ := h
    exact hb.lt
  have hd : Rp w.drew Q x pages S T := h
  have H := Lib.hid (rnow_any hd)
  have HC := Lib.hid c0
  have HLX := Lib.hid hlx
  have hwr1 : IntKind.i64.wrap ((pages : Int) - 1) = pages - 1 := by rw [IntKind.wrap_i64]; omega
  have hwr2 : IntKind.i64.wrap ((pages : Int) - 1 - (T.getD S).n) = pages - 1 - (T.getD S).n := by rw [IntKind.wrap_i64]; omega
  clear h hd hlx
  generalize T.getD S = s at H hn hwr2 ⊢
  go_enter Try.func59, Try.ntmps59
  go_wp2_with fail
  refine wp_region_any (by kernel_rfl) ?_
  change wpAny _ _ _ _ _ _ _ (World.drew _)
  refine wpAny_of_held (S := fun (w' : World) => w'.cell? ⟨x, 0, none⟩ = some (Value.int .i64 pages)) _ _ _ _ ?_
  have hS : (fun (w' : World) => w'.cell? ⟨x, 0, none⟩ = some (Value.int .i64 pages)) _ := c0
  try simp only [Act.put, List.setIfInBounds_toArray, List.set_cons_zero, List.set_cons_succ]
  refine wpAnyH_take (i := 0) (oi := ⟨some 3, _, _, _, _, _⟩) (v := ?_) rfl (by kernel_rfl) (by kernel_rfl) (by kernel_rfl) (fun _ _ _ h => h) (Or.inl ⟨by rfl, ?_⟩) hS ?_
  rotate_left
  · intro wz hSw
    clear hSw
    go_simp
    first | done | with_reducible rfl
  try simp only [Act.put, List.setIfInBounds_toArray, List.set_cons_zero, List.set_cons_succ]
  refine wpAnyH_take (i := 1) (oi := ⟨some 4, _, _, _, _, _⟩) (v := ?_) rfl (by kernel_rfl) (by kernel_rfl) (by kernel_rfl) (fun _ _ _ h => h) (Or.inl ⟨by rfl, ?_⟩) hS ?_
  rotate_left
  · intro wz hSw
    clear hSw
    go_simp
    first | done | with_reducible rfl
  try simp only [Act.put, List.setIfInBounds_toArray, List.set_cons_zero, List.set_cons_succ]
  refine wpAnyH_take (i := 2) (oi := ⟨some 5, _, _, _, _, _⟩) (v := ?_) rfl (by kernel_rfl) (by kernel_rfl) (by kernel_rfl) (fun _ _ _ h => h) (Or.inl ⟨by rfl, ?_⟩) hS ?_
  rotate_left
  · intro wz hSw
    clear hSw
    go_simp
    first | done | with_reducible rfl
  try simp only [Act.put, List.setIfInBounds_toArray, List.set_cons_zero, List.set_cons_succ]
  refine wpAnyH_take (i := 3) (oi := ⟨some 6, _, _, _, _, _⟩) (v := ?_) rfl (by kernel_rfl) (by kernel_rfl) (by kernel_rfl) (fun _ _ _ h => h) (Or.inl ⟨by rfl, ?_⟩) hS ?_
  rotate_left
  · intro wz hSw
    (try dsimp only at hSw)
    (try go_split_ands)
    go_simp
    first | done | with_reducible rfl
  try simp only [Act.put, List.setIfInBounds_toArray, List.set_cons_zero, List.set_cons_succ]
  refine wpAnyH_take (i := 4) (oi := ⟨some 7, _, _, _, _, _⟩) (v := ?_) rfl (by kernel_rfl) (by kernel_rfl) (by kernel_rfl) (fun _ _ _ h => h) (Or.inl ⟨by rfl, ?_⟩) hS ?_
  rotate_left
  · intro wz hSw
    clear hSw
    go_simp
    first | done | with_reducible rfl
  try simp only [Act.put, List.setIfInBounds_toArray, List.set_cons_zero, List.set_cons_succ]
  refine wpAnyH_take (i := 5) (oi := ⟨some 8, _, _, _, _, _⟩) (v := ?_) rfl (by kernel_rfl) (by kernel_rfl) (by kernel_rfl) (fun _ _ _ h => h) (Or.inl ⟨by rfl, ?_⟩) hS ?_
  rotate_left
  · intro wz hSw
    clear hSw
    go_simp
    first | done | with_reducible rfl
  try simp only [Act.put, List.setIfInBounds_toArray, List.set_cons_zero, List.set_cons_succ]
  refine wpAnyH_ready (rs := [6]) (by kernel_rfl) (by simp) ?_
  refine AllReadyH.cons (o := ⟨some 9, _, _, _, _, _⟩) rfl (fun K hK => ?_) AllReadyH.nil
  go_simp
  refine H.out.mono ?_
  rintro e w' ⟨m, g, Q', rfl, ⟨b, rfl, -, him, ho, -⟩, hw⟩
  obtain ⟨so, sk, rfl, -⟩ := owns_form ho
  have HB : Hid (Below w.heap.size w w') := Lib.hid ((Below.refl w.heap.size w).drew.trans hw)
  have HIM := Lib.hid him
  try go_simp
  refine hK.out _ _ ((World.cell?_of_block (a := ⟨x, 0, none⟩) (HB.out.block x HLX.out)).trans HC.out) (fun hS => ?_)
  clear hK K hw him ho
  try simp only [Act.put, List.setIfInBounds_toArray, List.set_cons_zero, List.set_cons_succ]
  have hS' : (fun (w'' : World) => (fun (w' : World) => w'.cell? ⟨x, 0, none⟩ = some (Value.int .i64 pages)) w'' ∧ Im Try.prog 3 9 w'' b s.f s.n) (w') := ⟨hS, HIM.out⟩
  refine wpAnyH_mono (S' := fun (w'' : World) => (fun (w' : World) => w'.cell? ⟨x, 0, none⟩ = some (Value.int .i64 pages)) w'' ∧ Im Try.prog 3 9 w'' b s.f s.n) (fun _ h => h.1) _ _ _ _ ?_
  clear hS
  have hS := hS'
  clear hS'
  refine wpAnyH_take (i := 7) (oi := ⟨some 10, _, _, _, _, _⟩) (v := ?_) rfl (by kernel_rfl) (by kernel_rfl) (by kernel_rfl) (fun _ _ _ h => h) (Or.inl ⟨by rfl, ?_⟩) hS ?_
  rotate_left
  · intro wz hSw; have hcz := field_map b so s.gone.length sk s.next s.root wz
    clear hSw
    go_simp
    first | done | with_reducible rfl
  try simp only [Act.put, List.setIfInBounds_toArray, List.set_cons_zero, List.set_cons_succ]
  refine wpAnyH_take (i := 8) (oi := ⟨some 11, _, _, _, _, _⟩) (v := ?_) rfl (by kernel_rfl) (by kernel_rfl) (by kernel_rfl) (fun _ _ _ h => h) (Or.inl ⟨by rfl, ?_⟩) hS ?_
  rotate_left
  · intro wz hSw; have hcz := hSw.2.len und_m 3
    clear hSw
    go_simp
    first | done | with_reducible rfl
  try simp only [Act.put, List.setIfInBounds_toArray, List.set_cons_zero, List.set_cons_succ]
  refine wpAnyH_take (i := 9) (oi := ⟨some 12, _, _, _, _, _⟩) (v := ?_) rfl (by kernel_rfl) (by kernel_rfl) (by kernel_rfl) (fun _ _ _ h => h) (Or.inl ⟨by rfl, ?_⟩) hS ?_
  rotate_left
  · intro wz hSw
    clear hSw
    go_simp
    first | done | with_reducible rfl
  try simp only [Act.put, List.setIfInBounds_toArray, List.set_cons_zero, List.set_cons_succ]
  refine wpAnyH_take (i := 10) (oi := ⟨some 2, _, _, _, _, _⟩) (v := ?_) rfl (by kernel_rfl) (by kernel_rfl) (by kernel_rfl) (fun _ _ _ h => h) (Or.inl ⟨by rfl, ?_⟩) hS ?_
  rotate_left
  · intro wz hSw
    clear hSw
    go_simp
    first | done | with_reducible rfl
  try simp only [Act.put, List.setIfInBounds_toArray, List.set_cons_zero, List.set_cons_succ]
  refine wpAnyH_done (by kernel_rfl) ?_ _
  go_wp2_with fail
  go_ret
  exact ⟨rfl, HB.out⟩

/-- Get: the text and OK, or nothing and ErrArg. -/
theorem rget_any {w : World} {Q : Nat → Prop} {x pages : Nat} {S : PS} {T : Option PS} (i : Int) (hi : (Lit.int .i64 i).wf = true) (h : Rp w Q x pages S T) :
    Calls Try.prog 61 #[.pointer (some ⟨x, 0, none⟩), .int .i64 i] w fun e w' => e = .returned (.tuple #[.string (((T.getD S).f i).getD ByteArray.empty), .int .i64 (if ((T.getD S).f i).isSome then 0 else 1)]) ∧ Below w.heap.size w w' := by
  have H := Lib.hid (rnow_any h)
  have HI := Lib.hid hi
  clear h hi
  generalize T.getD S = s at H ⊢
  obtain ⟨s0, hs0⟩ : ∃ s0, s0 = (s.f i).getD ByteArray.empty := ⟨_, rfl⟩
  obtain ⟨c, hc⟩ : ∃ c, c = (s.f i).isSome := ⟨_, rfl⟩
  rw [← hs0, ← hc]
  have h0 : c = false → s0 = ⟨#[]⟩ := fun e => by
    rw [hs0]
    cases hf : s.f i with
    | none => rfl
    | some y => rw [hc, hf] at e; cases e
  have H0 := Lib.hid h0
  have HS0 := Lib.hid hs0
  have HC0 := Lib.hid hc
  clear hs0 hc h0
  cases c
  · obtain rfl := H0.out rfl
    simp only [Bool.false_eq_true, if_false]
    go_enter Try.func61, Try.ntmps61
    go_wp2_with fail
    refine H.out.mono ?_
    rintro e w' ⟨m, g, Q', rfl, ⟨b, rfl, -, him, ho, -⟩, hw⟩
    obtain ⟨so, sk, rfl, -⟩ := owns_form ho
    have HB := Lib.hid hw
    have hlk := him.look und_k und_e und_m (zero_e w') HI.out
    rw [← HS0.out, ← HC0.out] at hlk
    have hfd := field_map b so s.gone.length sk s.next s.root w'
    clear hw him ho
    go_wp2_with fail
    go_ret2
    exact ⟨rfl, HB.out⟩
  · simp only [if_true]
    go_enter Try.func61, Try.ntmps61
    go_wp2_with fail
    refine H.out.mono ?_
    rintro e w' ⟨m, g, Q', rfl, ⟨b, rfl, -, him, ho, -⟩, hw⟩
    obtain ⟨so, sk, rfl, -⟩ := owns_form ho
    have HB := Lib.hid hw
    have hlk := him.look und_k und_e und_m (zero_e w') HI.out
    rw [← HS0.out, ← HC0.out] at hlk
    have hfd := field_map b so s.gone.length sk s.next s.root w'
    clear hw him ho
    go_wp2_with fail
    go_ret2
    exact ⟨rfl, HB.out⟩
end Go.Proofs.Ytcnfnpccbnnplaa
