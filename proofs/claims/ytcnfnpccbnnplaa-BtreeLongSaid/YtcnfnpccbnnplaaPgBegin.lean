/- The pager: Begin; slices.Clone of numbers. -/
import Derived.Test.YtcnfnpccbnnplaaPgNew
import Derived.Deep.DeepMust
namespace Go.Proofs.Ytcnfnpccbnnplaa
open Go.RowKit Go.Maps
set_option maxRecDepth 100000

theorem Try.infoI : (Try.prog.info? 3).map (fun i => (i.zero, i.size, i.bytes)) = some (some (.int .i64 0), 1, 8) := by kernel_rfl

theorem IRow.of_owns {w : World} {base g cap : Nat} {L : List Int} (h : w.ownsRow base 3 1 (.slice (some ⟨g, 0, none⟩) L.length cap) L.length (ints L)) (h0 : 0 < L.length) : IRow w g L ∧ base ≤ g ∧ L.length ≤ cap ∧ cap ≤ maxLen := by
  rcases h.2 with ⟨hx, hn⟩ | ⟨g', cap', cur, hx, hb, hh, h1, h2, h3, h4⟩
  · omega
  · simp only [Value.slice.injEq, Option.some.injEq, Addr.mk.injEq] at hx
    obtain ⟨⟨rfl, -, -⟩, -, rfl⟩ := hx
    exact ⟨⟨cur, hh, by simpa using h4⟩, hb, h1, h2⟩

/-- append(x, y...) of numbers. -/
theorem wpList_append_ints {w : World} {ops : Array Oper} {rest : List Oper} {o : Oper} {a : Act} {Q : Exit → Act → World → Prop} (hgd : o.guard = none) (s x : Operand)
    (ho : o.op = .call { callee := .builtin .append, args := #[s, x], argTypes := #[44, 44] })
    (base : Nat) (v : Value) (n : Nat) (xs : List Value) (hs : a.eval s = v) (hown : w.ownsRow base 3 1 v n xs) (ad : Addr) (m c : Nat) (L : List Int) (hx : a.eval x = .slice (some ad) m c) (hm : L.length = m)
    (hL : ∀ j u, (ints L)[j]? = some u → w.cell? (ad.add j) = some u) (h0 : 0 < m) (hl : n + m ≤ 1000000000) (hbase : base ≤ w.heap.size)
    (h : ∀ g cap w', w'.ownsRow base 3 1 (.slice (some ⟨g, 0, none⟩) (n + m) cap) (n + m) (xs ++ ints L) → w.grownBy w' v.ownBlock → (v.ownBlock = some g ∨ g = w.heap.size) → wpList Try.prog ops Q rest (a.put o.dst (.slice (some ⟨g, 0, none⟩) (n + m) cap)) w') : wpList Try.prog ops Q (o :: rest) a w := by
  obtain ⟨i0, hi, hz0, hz1, hz2⟩ := info_parts Try.infoI
  refine wpList_append_lies w hgd s x _ ho base 3 i0 _ 1 8 Try.underlying44 hi hz0 hz1 hz2 rfl (by decide) v n xs hs hown ad m c (ints L) hx (by rw [ints_length]; omega) hL ?_ h0 (by simp [maxLen]; omega) (by omega) hbase _ rfl ?_
  · intro u hu
    obtain ⟨_, _, rfl⟩ := List.mem_map.1 hu
    rfl
  · intro g cap w' h1 h2 h3 _
    exact h g cap w' h1 h2 h3

theorem clone_any (w : World) (gn n cn : Nat) (L : List Int) (h : IRow w gn L) (hL : L.length = n) (h0 : 0 < n) (hn : n ≤ 1000000) :
    Calls Try.prog 44 #[.slice (some ⟨gn, 0, none⟩) n cn] w fun e w' => ∃ g cap, e = .returned (.slice (some ⟨g, 0, none⟩) n cap) ∧ IRow w' g L ∧ w.heap.size ≤ g ∧ n ≤ cap ∧ cap ≤ maxLen ∧ Below w.heap.size w w' := by
  have hq : ∀ w, (binOp .eql 44 (.slice (some ⟨gn, 0, none⟩) n cn) (.slice none 0 0)).run Try.prog w = .ok (.bool false) w := fun w => Lib.run_eql_slice_nil w _ _ _ _ _ 0 0 Try.underlying44
  have hal : Below w.heap.size w (w.alloc (.cells #[] 3)) := (Below.refl _ w).alloc (Nat.le_refl _) _
  have hown : (w.alloc (.cells #[] 3)).ownsRow w.heap.size 3 1 (.slice (some ⟨w.heap.size, 0, none⟩) 0 0) 0 [] := World.ownsRow_lit w #[] 0 (Nat.le_refl _) (by simp [maxLen]) rfl
  have hr : IRow (w.alloc (.cells #[] 3)) gn L := h.moved (Moved.of_below hal (fun _ => False)) (fun h => h)
  have hcells : ∀ j u, (ints L)[j]? = some u → (w.alloc (.cells #[] 3)).cell? ((⟨gn, 0, none⟩ : Addr).add j) = some u := by
    intro j u hu
    have hj : j < L.length := by have := (List.getElem?_eq_some_iff.1 hu).1; rwa [ints_length] at this
    rw [Addr.add_lit, Nat.zero_add, hr.cell j hj]
    simpa [ints, hj] using hu
  have HC := Lib.hid hcells
  have HO := Lib.hid hown
  have HA := Lib.hid hal
  clear hcells hown h hr hal
  go_enter Try.func44, Try.ntmps44
  go_wp2_with (first | (with_reducible refine wpList_append_ints rfl _ _ rfl w.heap.size (.slice (some ⟨w.heap.size, 0, none⟩) 0 0) 0 [] rfl HO.out ⟨gn, 0, none⟩ n cn L rfl hL HC.out h0 ?_ ?_ ?_) | fail)
  · omega
  · exact HA.out.size
  intro g cap w' hr hg hgg
  have hB := HA.out.grown hg HA.out.size (fun q hq => by have h2 : w.heap.size = q := Option.some.inj hq; omega)
  rw [← hL] at hr
  obtain ⟨q1, q2, q3, q4⟩ := IRow.of_owns hr (by omega)
  rw [hL] at q3
  have HB := Lib.hid hB
  have H1 := Lib.hid q1
  clear hr hg hgg hB q1
  go_wp2_with fail
  go_ret
  exact ⟨g, cap, rfl, H1.out, q2, q3, q4, HB.out⟩

theorem begin_busy {w : World} {Q : Nat → Prop} {r p : Nat} {S : Stt} {t : Tx} (h : Pg w Q r p S (some t)) :
    Calls Try.prog 13 #[.pointer (some ⟨p, 0, none⟩)] w fun e w' => e = .returned (.int .i64 12) ∧ w' = w := by
  obtain ⟨gn, cn, gw, cw, b, h, -⟩ := h
  obtain ⟨-, -, -, -, -, c5⟩ := h.cells
  have hk := neqM
  clear h
  go_enter Try.func13, Try.ntmps13
  go_wp2_with fail
  go_ret
  exact ⟨rfl, rfl⟩

theorem begin_open {w : World} {Q : Nat → Prop} {r p : Nat} {S : Stt} (h : Pg w Q r p S none) (h0 : 0 < S.next.length) (hn : S.next.length ≤ 1000000) :
    Calls Try.prog 13 #[.pointer (some ⟨p, 0, none⟩)] w fun e w' => e = .returned (.int .i64 0) ∧ PgTo w Q w' r p S (some ⟨S, fun _ => none, 0⟩) := by
  obtain ⟨gn, cn, h⟩ := h
  obtain ⟨c0, c1, c2, c3, c4, c5⟩ := h.cells
  have hc := clone_any w.drew gn S.next.length cn S.next (by obtain ⟨cur, q1, q2⟩ := h.row; exact ⟨cur, q1.drew, q2⟩) rfl h0 hn
  have hk := neqM
  have hmm := @run_makeMap Try.prog
  obtain ⟨n, hnn⟩ : ∃ n, n = S.next.length := ⟨_, rfl⟩
  have HH := Lib.hid h
  have HC := Lib.hid hc
  have HNN := Lib.hid hnn
  rw [← hnn] at c2 HC
  clear h hc hnn h0 hn
  go_enter Try.func13, Try.ntmps13
  go_wp2_with fail
  refine wp_region_any (by kernel_rfl) ?_
  change wpAny _ _ _ _ _ _ _ (World.drew _)
  refine wpAny_of_held (S := fun (w' : World) => w'.cell? ⟨p, 1, none⟩ = some (.int .i64 S.root) ∧ w'.cell? ⟨p, 2, none⟩ = some (.slice (some ⟨gn, 0, none⟩) n cn)) _ _ _ _ ?_
  have hS : (fun (w' : World) => w'.cell? ⟨p, 1, none⟩ = some (.int .i64 S.root) ∧ w'.cell? ⟨p, 2, none⟩ = some (.slice (some ⟨gn, 0, none⟩) n cn)) _ := ⟨c1, c2⟩
  try simp only [Act.put, List.setIfInBounds_toArray, List.set_cons_zero, List.set_cons_succ]
  refine wpAnyH_take (i := 0) (oi := ⟨some 8, _, _, _, _, _⟩) (v := ?_) rfl (by kernel_rfl) (by kernel_rfl) (by kernel_rfl) (fun _ _ _ h => h) (Or.inl ⟨by simp only [Region.wanted], ?_⟩) hS ?_
  rotate_left
  · intro wz hSw
    clear hSw
    go_simp
    first | done | with_reducible rfl
  try simp only [Act.put, List.setIfInBounds_toArray, List.set_cons_zero, List.set_cons_succ]
  refine wpAnyH_take (i := 1) (oi := ⟨some 9, _, _, _, _, _⟩) (v := ?_) rfl (by kernel_rfl) (by kernel_rfl) (by kernel_rfl) (fun _ _ _ h => h) (Or.inl ⟨by simp only [Region.wanted], ?_⟩) hS ?_
  rotate_left
  · intro wz hSw
    clear hSw
    go_simp
    first | done | with_reducible rfl
  try simp only [Act.put, List.setIfInBounds_toArray, List.set_cons_zero, List.set_cons_succ]
  refine wpAnyH_take (i := 2) (oi := ⟨some 10, _, _, _, _, _⟩) (v := ?_) rfl (by kernel_rfl) (by kernel_rfl) (by kernel_rfl) (fun _ _ _ h => h) (Or.inl ⟨by simp only [Region.wanted], ?_⟩) hS ?_
  rotate_left
  · intro wz hSw
    clear hSw
    go_simp
    first | done | with_reducible rfl
  try simp only [Act.put, List.setIfInBounds_toArray, List.set_cons_zero, List.set_cons_succ]
  refine wpAnyH_take (i := 3) (oi := ⟨some 11, _, _, _, _, _⟩) (v := ?_) rfl (by kernel_rfl) (by kernel_rfl) (by kernel_rfl) (fun _ _ _ h => h) (Or.inl ⟨by simp only [Region.wanted], ?_⟩) hS ?_
  rotate_left
  · intro wz hSw
    clear hSw
    go_simp
    first | done | with_reducible rfl
  try simp only [Act.put, List.setIfInBounds_toArray, List.set_cons_zero, List.set_cons_succ]
  refine wpAnyH_take (i := 4) (oi := ⟨some 12, _, _, _, _, _⟩) (v := ?_) rfl (by kernel_rfl) (by kernel_rfl) (by kernel_rfl) (fun _ _ _ h => h) (Or.inl ⟨by simp only [Region.wanted], ?_⟩) hS ?_
  rotate_left
  · intro wz hSw
    clear hSw
    go_simp
    first | done | with_reducible rfl
  try simp only [Act.put, List.setIfInBounds_toArray, List.set_cons_zero, List.set_cons_succ]
  refine wpAnyH_take (i := 5) (oi := ⟨some 13, _, _, _, _, _⟩) (v := ?_) rfl (by kernel_rfl) (by kernel_rfl) (by kernel_rfl) (fun _ _ _ h => h) (Or.inl ⟨by simp only [Region.wanted], ?_⟩) hS ?_
  rotate_left
  · intro wz hSw
    (try dsimp only at hSw)
    (try go_split_ands)
    go_simp
    first | done | with_reducible rfl
  try simp only [Act.put, List.setIfInBounds_toArray, List.set_cons_zero, List.set_cons_succ]
  refine wpAnyH_take (i := 6) (oi := ⟨some 14, _, _, _, _, _⟩) (v := ?_) rfl (by kernel_rfl) (by kernel_rfl) (by kernel_rfl) (fun _ _ _ h => h) (Or.inl ⟨by simp only [Region.wanted], ?_⟩) hS ?_
  rotate_left
  · intro wz hSw
    clear hSw
    go_simp
    first | done | with_reducible rfl
  try simp only [Act.put, List.setIfInBounds_toArray, List.set_cons_zero, List.set_cons_succ]
  refine wpAnyH_take (i := 7) (oi := ⟨some 15, _, _, _, _, _⟩) (v := ?_) rfl (by kernel_rfl) (by kernel_rfl) (by kernel_rfl) (fun _ _ _ h => h) (Or.inl ⟨by simp only [Region.wanted], ?_⟩) hS ?_
  rotate_left
  · intro wz hSw
    clear hSw
    go_simp
    first | done | with_reducible rfl
  try simp only [Act.put, List.setIfInBounds_toArray, List.set_cons_zero, List.set_cons_succ]
  refine wpAnyH_take (i := 8) (oi := ⟨some 16, _, _, _, _, _⟩) (v := ?_) rfl (by kernel_rfl) (by kernel_rfl) (by kernel_rfl) (fun _ _ _ h => h) (Or.inl ⟨by simp only [Region.wanted], ?_⟩) hS ?_
  rotate_left
  · intro wz hSw
    clear hSw
    go_simp
    first | done | with_reducible rfl
  try simp only [Act.put, List.setIfInBounds_toArray, List.set_cons_zero, List.set_cons_succ]
  refine wpAnyH_take (i := 9) (oi := ⟨some 17, _, _, _, _, _⟩) (v := ?_) rfl (by kernel_rfl) (by kernel_rfl) (by kernel_rfl) (fun _ _ _ h => h) (Or.inl ⟨by simp only [Region.wanted], ?_⟩) hS ?_
  rotate_left
  · intro wz hSw
    clear hSw
    go_simp
    first | done | with_reducible rfl
  try simp only [Act.put, List.setIfInBounds_toArray, List.set_cons_zero, List.set_cons_succ]
  refine wpAnyH_take (i := 10) (oi := ⟨some 18, _, _, _, _, _⟩) (v := ?_) rfl (by kernel_rfl) (by kernel_rfl) (by kernel_rfl) (fun _ _ _ h => h) (Or.inl ⟨by simp only [Region.wanted], ?_⟩) hS ?_
  rotate_left
  · intro wz hSw
    (try dsimp only at hSw)
    (try go_split_ands)
    go_simp
    first | done | with_reducible rfl
  try simp only [Act.put, List.setIfInBounds_toArray, List.set_cons_zero, List.set_cons_succ]
  refine wpAnyH_ready (rs := [11]) (by kernel_rfl) (by simp) ?_
  refine AllReadyH.cons (o := ⟨some 19, _, _, _, _, _⟩) rfl (fun K hK => ?_) AllReadyH.nil
  go_simp
  refine HC.out.mono ?_
  rintro e w1 ⟨g, cap, rfl, hr, hg, hc1, hc2, hb⟩
  have HR := Lib.hid hr
  have HB := Lib.hid hb
  have ht := Lib.hid (HH.out.top.moved (P := fun _ => False) (((Moved.refl _ w).drew).trans (Moved.of_below hb _) (fun _ h => .inl h)) (fun h => h))
  clear hr hb
  go_simp
  refine hK.out _ _ (⟨by rw [ht.out.cell]; rfl, by rw [HNN.out, ht.out.cell]; rfl⟩) (fun hS => ?_)
  clear hK K
  try simp only [Act.put, List.setIfInBounds_toArray, List.set_cons_zero, List.set_cons_succ]
  refine wpAnyH_take (i := 12) (oi := ⟨some 20, _, _, _, _, _⟩) (v := ?_) rfl (by kernel_rfl) (by kernel_rfl) (by kernel_rfl) (fun _ _ _ h => h) (Or.inl ⟨by simp only [Region.wanted], ?_⟩) hS ?_
  rotate_left
  · intro wz hSw
    clear hSw
    go_simp
    first | done | with_reducible rfl
  try simp only [Act.put, List.setIfInBounds_toArray, List.set_cons_zero, List.set_cons_succ]
  refine wpAnyH_take (i := 13) (oi := ⟨some 21, _, _, _, _, _⟩) (v := ?_) rfl (by kernel_rfl) (by kernel_rfl) (by kernel_rfl) (fun _ _ _ h => h) (Or.inl ⟨by simp only [Region.wanted], ?_⟩) hS ?_
  rotate_left
  · intro wz hSw
    clear hSw
    go_simp
    first | done | with_reducible rfl
  try simp only [Act.put, List.setIfInBounds_toArray, List.set_cons_zero, List.set_cons_succ]
  refine wpAnyH_take (i := 14) (oi := ⟨some 22, _, _, _, _, _⟩) (v := ?_) rfl (by kernel_rfl) (by kernel_rfl) (by kernel_rfl) (fun _ _ _ h => h) (Or.inl ⟨by simp only [Region.wanted], ?_⟩) hS ?_
  rotate_left
  · intro wz hSw
    clear hSw
    go_simp
    first | done | with_reducible rfl
  try simp only [Act.put, List.setIfInBounds_toArray, List.set_cons_zero, List.set_cons_succ]
  have c3 : w1.cell? ⟨p, 3, none⟩ = some (.int .i64 0) := by rw [ht.out.cell]; rfl
  have c4 : w1.cell? ⟨p, 4, none⟩ = some (.slice none 0 0) := by rw [ht.out.cell]; rfl
  have f3 := ht.out.frozen 3
  have f4 := ht.out.frozen 4
  refine wpAnyH_ready (rs := [15]) (by kernel_rfl) (by simp) ?_
  refine AllReadyH.cons (o := ⟨none, _, _, _, _, _⟩) rfl (fun K hK => ?_) AllReadyH.nil
  go_simp
  refine hK.out _ _ (⟨by go_simp, by go_simp⟩) (fun hS => ?_)
  clear hK K
  try simp only [Act.put, List.setIfInBounds_toArray, List.set_cons_zero, List.set_cons_succ]
  refine wpAnyH_done (by kernel_rfl) ?_ _
  have hms : Moved (· = p) w1 ((w1.setCell ⟨p, 3, none⟩ (.int .i64 S.root)).setCell ⟨p, 4, none⟩ (.slice (some ⟨g, 0, none⟩) n cap)) := ((Moved.refl (· = p) w1).setCell ⟨p, 3, none⟩ _ (.inl rfl)).setCell ⟨p, 4, none⟩ _ (.inl rfl)
  have hbs : Blk ((w1.setCell ⟨p, 3, none⟩ (.int .i64 S.root)).setCell ⟨p, 4, none⟩ (.slice (some ⟨g, 0, none⟩) n cap)) p #[.pointer (some ⟨r, 0, none⟩), .int .i64 S.root, .slice (some ⟨gn, 0, none⟩) S.next.length cn, .int .i64 S.root, .slice (some ⟨g, 0, none⟩) n cap, .map none] 86 := (ht.out.set 3 _).set 4 _
  generalize ((w1.setCell ⟨p, 3, none⟩ (.int .i64 S.root)).setCell ⟨p, 4, none⟩ (.slice (some ⟨g, 0, none⟩) n cap)) = ws at hms hbs ⊢
  have c5' : (ws.alloc (.map #[] 0)).cell? ⟨p, 5, none⟩ = some (.map none) := by rw [(hbs.alloc _).cell]; rfl
  have f5' := (hbs.alloc (.map #[] 0)).frozen 5
  have H3 := Lib.hid hms
  have H4 := Lib.hid hbs
  clear hS c3 c4 f3 f4 hms hbs c0 c1 c2 c5
  go_wp2_with fail
  go_ret
  have h1 : Moved (fun _ => False) w w1 := ((Moved.refl _ w).drew).trans (Moved.of_below HB.out (fun _ => False)) (fun _ h => .inl h)
  have h2 : Moved (· = p) w1 ((ws.alloc (.map #[] 0)).setCell ⟨p, 5, none⟩ (.map (some ws.heap.size))) := (H3.out.alloc _).setCell _ _ (.inl rfl)
  have h3 : Moved (· = p) w ((ws.alloc (.map #[] 0)).setCell ⟨p, 5, none⟩ (.map (some ws.heap.size))) := (h1.mono (fun _ h => False.elim h)).trans h2 (fun _ h => .inl h)
  have hpl : p < w.heap.size := HH.out.top.lt
  have hgl : gn < w.heap.size := HH.out.row.lt
  have hws : g < ws.heap.size := Nat.lt_of_lt_of_le HR.out.lt H3.out.size
  have hwl : w.heap.size ≤ ws.heap.size := Nat.le_trans h1.size H3.out.size
  have hg' : w.heap.size ≤ g := hg
  have hn2 := HNN.out
  refine ⟨rfl, fun k => Q k ∨ w.heap.size ≤ k, ⟨gn, cn, g, cap, ws.heap.size, ⟨?_, HH.out.row.moved h3 HH.out.ne, HH.out.cap, HH.out.max, .inl HH.out.qp, .inl HH.out.qn, HH.out.ne⟩,
    ⟨HR.out.moved h2 (by omega), by rw [← hn2]; exact hc1, hc2, (Pm.made ws).moved (((Moved.refl (· = p) _)).setCell ⟨p, 5, none⟩ _ (.inl rfl)) (by omega), .inr hg', .inr hwl, by omega, by omega, by omega, by omega, by omega⟩⟩, h3.mono (fun j hj => by rw [hj]; exact HH.out.qp), fun _ h => h⟩
  have := (H4.out.alloc (.map #[] 0)).set 5 (.map (some ws.heap.size))
  rw [HNN.out] at this
  exact this
end Go.Proofs.Ytcnfnpccbnnplaa
