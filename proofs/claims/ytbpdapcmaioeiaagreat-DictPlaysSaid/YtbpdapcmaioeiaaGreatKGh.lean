/- Gh -/
import Derived.Test.YtbpdapcmaioeiaaGreatKGf
import Derived.WalkArith
import Derived.Deep.DeepMust
import Derived.ChangeKeysEq
namespace Go.Proofs.YtbpdapcmaioeiaaGreat
open Go.RowKit Go.Maps
set_option maxRecDepth 100000
theorem Tryz.infoI : (Tryz.prog.info? 3).map (fun i => (i.zero, i.size, i.bytes)) = some (some (.int .i64 0), 1, 8) := by kernel_rfl
theorem IRow.of_owns {w : World} {base g cap : Nat} {L : List Int} (h : w.ownsRow base 3 1 (.slice (some ⟨g, 0, none⟩) L.length cap) L.length (ints L)) (h0 : 0 < L.length) : IRow w g L ∧ base ≤ g ∧ L.length ≤ cap ∧ cap ≤ maxLen := by
 rcases h.2 with ⟨hx, hn⟩ | ⟨g', cap', cur, hx, hb, hh, h1, h2, h3, h4⟩
 ·omega
 ·simp only [Value.slice.injEq, Option.some.injEq, Addr.mk.injEq] at hx
  obtain ⟨⟨rfl, -, -⟩, -, rfl⟩ := hx
  exact ⟨⟨cur, hh, by simpa using h4⟩, hb, h1, h2⟩
/-- append(x, y...) of numbers. -/
theorem wpList_append_ints {w : World} {ops : Array Oper} {rest : List Oper} {o : Oper} {a : Act} {Q : Exit → Act → World → Prop} (hgd : o.guard = none) (s x : Operand)
 (ho : o.op = .call { callee := .builtin .append, args := #[s, x], argTypes := #[47, 47] })
 (base : Nat) (v : Value) (n : Nat) (xs : List Value) (hs : a.eval s = v) (hown : w.ownsRow base 3 1 v n xs) (ad : Addr) (m c : Nat) (L : List Int) (hx : a.eval x = .slice (some ad) m c) (hm : L.length = m)
 (hL : ∀ j u, (ints L)[j]? = some u → w.cell? (ad.add j) = some u) (h0 : 0 < m) (hl : n + m ≤ 1000000000) (hbase : base ≤ w.heap.size)
 (h : ∀ g cap w', w'.ownsRow base 3 1 (.slice (some ⟨g, 0, none⟩) (n + m) cap) (n + m) (xs ++ ints L) → w.grownBy w' v.ownBlock → (v.ownBlock = some g ∨ g = w.heap.size) → wpList Tryz.prog ops Q rest (a.put o.dst (.slice (some ⟨g, 0, none⟩) (n + m) cap)) w') : wpList Tryz.prog ops Q (o :: rest) a w := by
 obtain ⟨i0, hi, hz0, hz1, hz2⟩ := info_parts Tryz.infoI
 refine wpList_append_lies w hgd s x _ ho base 3 i0 _ 1 8 Tryz.underlying47 hi hz0 hz1 hz2 rfl (by decide) v n xs hs hown ad m c (ints L) hx (by rw [ints_length]; omega) hL ?_ h0 (by simp [maxLen]; omega) (by omega) hbase _ rfl ?_
 ·intro u hu
  obtain ⟨_, _, rfl⟩ := List.mem_map.1 hu
  rfl
 ·intro g cap w' h1 h2 h3 _
  exact h g cap w' h1 h2 h3
theorem clone_any (w : World) (gn n cn : Nat) (L : List Int) (h : IRow w gn L) (hL : L.length = n) (h0 : 0 < n) (hn : n ≤ 1000000) :
 Calls Tryz.prog 36 #[.slice (some ⟨gn, 0, none⟩) n cn] w fun e w' => ∃ g cap, e = .returned (.slice (some ⟨g, 0, none⟩) n cap) ∧ IRow w' g L ∧ w.heap.size ≤ g ∧ n ≤ cap ∧ cap ≤ maxLen ∧ Below w.heap.size w w' := by
 have hq : ∀ w, (binOp .eql 47 (.slice (some ⟨gn, 0, none⟩) n cn) (.slice none 0 0)).run Tryz.prog w = .ok (.bool false) w := fun w => Lib.run_eql_slice_nil w _ _ _ _ _ 0 0 Tryz.underlying47
 have hal : Below w.heap.size w (w.alloc (.cells #[] 3)) := (Below.refl _ w).alloc (Nat.le_refl _) _
 have hown : (w.alloc (.cells #[] 3)).ownsRow w.heap.size 3 1 (.slice (some ⟨w.heap.size, 0, none⟩) 0 0) 0 [] := World.ownsRow_lit w #[] 0 (Nat.le_refl _) (by simp [maxLen]) rfl
 have hr : IRow (w.alloc (.cells #[] 3)) gn L := h.moved (Moved.of_below hal (fun _ => False)) (fun h => h)
 have hcells : ∀ j u, (ints L)[j]? = some u → (w.alloc (.cells #[] 3)).cell? ((⟨gn, 0, none⟩ : Addr).add j) = some u := by
  intro j u hu
  have hj : j < L.length := by have := (List.getElem?_eq_some_iff.1 hu).1; rwa [ints_length] at this
  rw [Addr.add_lit, Nat.zero_add, hr.cell j hj]
  simpa [ints, hj] using hu
 have HC := Lib.hid hcells
 have HO := Lib.hid hown
 have HA := Lib.hid hal
 clear hcells hown h hr hal
 go_enter Tryz.func36, Tryz.ntmps36
 go_wp2_with (first | (with_reducible refine wpList_append_ints rfl _ _ rfl w.heap.size (.slice (some ⟨w.heap.size, 0, none⟩) 0 0) 0 [] rfl HO.out ⟨gn, 0, none⟩ n cn L rfl hL HC.out h0 ?_ ?_ ?_) | fail)
 ·omega
 ·exact HA.out.size
 intro g cap w' hr hg hgg
 have hB := HA.out.grown hg HA.out.size (fun q hq => by have h2 : w.heap.size = q := Option.some.inj hq; omega)
 rw [← hL] at hr
 obtain ⟨q1, q2, q3, q4⟩ := IRow.of_owns hr (by omega)
 rw [hL] at q3
 have HB := Lib.hid hB
 have H1 := Lib.hid q1
 clear hr hg hgg hB q1
 go_wp2_with fail
 go_ret
 exact ⟨g, cap, rfl, H1.out, q2, q3, q4, HB.out⟩
theorem begin_open {w : World} {Q : Nat → Prop} {r p : Nat} {S : Stt} (h : Pg w Q r p S none) (h0 : 0 < S.next.length) (hn : S.next.length ≤ 1000000) :
 Calls Tryz.prog 11 #[.pointer (some ⟨p, 0, none⟩)] w fun e w' => e = .returned (.int .i64 0) ∧ PgTo w Q w' r p S (some ⟨S, fun _ => none, 0⟩) := by
 obtain ⟨gn, cn, h⟩ := h
 obtain ⟨c0, c1, c2, c3, c4, c5⟩ := h.cells
 have hc := clone_any w.drew gn S.next.length cn S.next (by obtain ⟨cur, q1, q2⟩ := h.row; exact ⟨cur, q1.drew, q2⟩) rfl h0 hn
 have hk := neqM
 have hmm := @run_makeMap Tryz.prog
 obtain ⟨n, hnn⟩ : ∃ n, n = S.next.length := ⟨_, rfl⟩
 have HH := Lib.hid h
 have HC := Lib.hid hc
 have HNN := Lib.hid hnn
 rw [← hnn] at c2 HC
 clear h hc hnn h0 hn
 go_enter Tryz.func11, Tryz.ntmps11
 go_wp2_with fail
 refine wp_region_any (by kernel_rfl) ?_
 change wpAny _ _ _ _ _ _ _ (World.drew _)
 refine wpAny_of_held (S := fun (w' : World) => w'.cell? ⟨p, 1, none⟩ = some (.int .i64 S.root) ∧ w'.cell? ⟨p, 2, none⟩ = some (.slice (some ⟨gn, 0, none⟩) n cn)) _ _ _ _ ?_
 have hS : (fun (w' : World) => w'.cell? ⟨p, 1, none⟩ = some (.int .i64 S.root) ∧ w'.cell? ⟨p, 2, none⟩ = some (.slice (some ⟨gn, 0, none⟩) n cn)) _ := ⟨c1, c2⟩
 try simp only [Act.put, List.setIfInBounds_toArray, List.set_cons_zero, List.set_cons_succ]
 refine wpAnyH_take (i := 0) (oi := ⟨some 8, _, _, _, _, _⟩) (v := ?_) rfl (by kernel_rfl) (by kernel_rfl) (by kernel_rfl) (fun _ _ _ h => h) (Or.inl ⟨by simp only [Region.wanted], ?_⟩) hS ?_
 rotate_left
 ·intro wz hSw
  clear hSw
  go_simp
  first | done | with_reducible rfl
 try simp only [Act.put, List.setIfInBounds_toArray, List.set_cons_zero, List.set_cons_succ]
 refine wpAnyH_take (i := 1) (oi := ⟨some 9, _, _, _, _, _⟩) (v := ?_) rfl (by kernel_rfl) (by kernel_rfl) (by kernel_rfl) (fun _ _ _ h => h) (Or.inl ⟨by simp only [Region.wanted], ?_⟩) hS ?_
 rotate_left
 ·intro wz hSw
  clear hSw
  go_simp
  first | done | with_reducible rfl
 try simp only [Act.put, List.setIfInBounds_toArray, List.set_cons_zero, List.set_cons_succ]
 refine wpAnyH_take (i := 2) (oi := ⟨some 10, _, _, _, _, _⟩) (v := ?_) rfl (by kernel_rfl) (by kernel_rfl) (by kernel_rfl) (fun _ _ _ h => h) (Or.inl ⟨by simp only [Region.wanted], ?_⟩) hS ?_
 rotate_left
 ·intro wz hSw
  clear hSw
  go_simp
  first | done | with_reducible rfl
 try simp only [Act.put, List.setIfInBounds_toArray, List.set_cons_zero, List.set_cons_succ]
 refine wpAnyH_take (i := 3) (oi := ⟨some 11, _, _, _, _, _⟩) (v := ?_) rfl (by kernel_rfl) (by kernel_rfl) (by kernel_rfl) (fun _ _ _ h => h) (Or.inl ⟨by simp only [Region.wanted], ?_⟩) hS ?_
 rotate_left
 ·intro wz hSw
  clear hSw
  go_simp
  first | done | with_reducible rfl
 try simp only [Act.put, List.setIfInBounds_toArray, List.set_cons_zero, List.set_cons_succ]
 refine wpAnyH_take (i := 4) (oi := ⟨some 12, _, _, _, _, _⟩) (v := ?_) rfl (by kernel_rfl) (by kernel_rfl) (by kernel_rfl) (fun _ _ _ h => h) (Or.inl ⟨by simp only [Region.wanted], ?_⟩) hS ?_
 rotate_left
 ·intro wz hSw
  clear hSw
  go_simp
  first | done | with_reducible rfl
 try simp only [Act.put, List.setIfInBounds_toArray, List.set_cons_zero, List.set_cons_succ]
 refine wpAnyH_take (i := 5) (oi := ⟨some 13, _, _, _, _, _⟩) (v := ?_) rfl (by kernel_rfl) (by kernel_rfl) (by kernel_rfl) (fun _ _ _ h => h) (Or.inl ⟨by simp only [Region.wanted], ?_⟩) hS ?_
 rotate_left
 ·intro wz hSw
  (try dsimp only at hSw)
  (try go_split_ands)
  go_simp
  first | done | with_reducible rfl
 try simp only [Act.put, List.setIfInBounds_toArray, List.set_cons_zero, List.set_cons_succ]
 refine wpAnyH_take (i := 6) (oi := ⟨some 14, _, _, _, _, _⟩) (v := ?_) rfl (by kernel_rfl) (by kernel_rfl) (by kernel_rfl) (fun _ _ _ h => h) (Or.inl ⟨by simp only [Region.wanted], ?_⟩) hS ?_
 rotate_left
 ·intro wz hSw
  clear hSw
  go_simp
  first | done | with_reducible rfl
 try simp only [Act.put, List.setIfInBounds_toArray, List.set_cons_zero, List.set_cons_succ]
 refine wpAnyH_take (i := 7) (oi := ⟨some 15, _, _, _, _, _⟩) (v := ?_) rfl (by kernel_rfl) (by kernel_rfl) (by kernel_rfl) (fun _ _ _ h => h) (Or.inl ⟨by simp only [Region.wanted], ?_⟩) hS ?_
 rotate_left
 ·intro wz hSw
  clear hSw
  go_simp
  first | done | with_reducible rfl
 try simp only [Act.put, List.setIfInBounds_toArray, List.set_cons_zero, List.set_cons_succ]
 refine wpAnyH_take (i := 8) (oi := ⟨some 16, _, _, _, _, _⟩) (v := ?_) rfl (by kernel_rfl) (by kernel_rfl) (by kernel_rfl) (fun _ _ _ h => h) (Or.inl ⟨by simp only [Region.wanted], ?_⟩) hS ?_
 rotate_left
 ·intro wz hSw
  clear hSw
  go_simp
  first | done | with_reducible rfl
 try simp only [Act.put, List.setIfInBounds_toArray, List.set_cons_zero, List.set_cons_succ]
 refine wpAnyH_take (i := 9) (oi := ⟨some 17, _, _, _, _, _⟩) (v := ?_) rfl (by kernel_rfl) (by kernel_rfl) (by kernel_rfl) (fun _ _ _ h => h) (Or.inl ⟨by simp only [Region.wanted], ?_⟩) hS ?_
 rotate_left
 ·intro wz hSw
  clear hSw
  go_simp
  first | done | with_reducible rfl
 try simp only [Act.put, List.setIfInBounds_toArray, List.set_cons_zero, List.set_cons_succ]
 refine wpAnyH_take (i := 10) (oi := ⟨some 18, _, _, _, _, _⟩) (v := ?_) rfl (by kernel_rfl) (by kernel_rfl) (by kernel_rfl) (fun _ _ _ h => h) (Or.inl ⟨by simp only [Region.wanted], ?_⟩) hS ?_
 rotate_left
 ·intro wz hSw
  (try dsimp only at hSw)
  (try go_split_ands)
  go_simp
  first | done | with_reducible rfl
 try simp only [Act.put, List.setIfInBounds_toArray, List.set_cons_zero, List.set_cons_succ]
 refine wpAnyH_ready (rs := [11]) (by kernel_rfl) (by simp) ?_
 refine AllReadyH.cons (o := ⟨some 19, _, _, _, _, _⟩) rfl (fun K hK => ?_) AllReadyH.nil
 go_simp
 refine HC.out.mono ?_
 rintro e w1 ⟨g, cap, rfl, hr, hg, hc1, hc2, hb⟩
 have HR := Lib.hid hr
 have HB := Lib.hid hb
 have ht := Lib.hid (HH.out.top.moved (P := fun _ => False) (((Moved.refl _ w).drew).trans (Moved.of_below hb _) (fun _ h => .inl h)) (fun h => h))
 clear hr hb
 go_simp
 refine hK.out _ _ (⟨by rw [ht.out.cell]; rfl, by rw [HNN.out, ht.out.cell]; rfl⟩) (fun hS => ?_)
 clear hK K
 try simp only [Act.put, List.setIfInBounds_toArray, List.set_cons_zero, List.set_cons_succ]
 refine wpAnyH_take (i := 12) (oi := ⟨some 20, _, _, _, _, _⟩) (v := ?_) rfl (by kernel_rfl) (by kernel_rfl) (by kernel_rfl) (fun _ _ _ h => h) (Or.inl ⟨by simp only [Region.wanted], ?_⟩) hS ?_
 rotate_left
 ·intro wz hSw
  clear hSw
  go_simp
  first | done | with_reducible rfl
 try simp only [Act.put, List.setIfInBounds_toArray, List.set_cons_zero, List.set_cons_succ]
 refine wpAnyH_take (i := 13) (oi := ⟨some 21, _, _, _, _, _⟩) (v := ?_) rfl (by kernel_rfl) (by kernel_rfl) (by kernel_rfl) (fun _ _ _ h => h) (Or.inl ⟨by simp only [Region.wanted], ?_⟩) hS ?_
 rotate_left
 ·intro wz hSw
  clear hSw
  go_simp
  first | done | with_reducible rfl
 try simp only [Act.put, List.setIfInBounds_toArray, List.set_cons_zero, List.set_cons_succ]
 refine wpAnyH_take (i := 14) (oi := ⟨some 22, _, _, _, _, _⟩) (v := ?_) rfl (by kernel_rfl) (by kernel_rfl) (by kernel_rfl) (fun _ _ _ h => h) (Or.inl ⟨by simp only [Region.wanted], ?_⟩) hS ?_
 rotate_left
 ·intro wz hSw
  clear hSw
  go_simp
  first | done | with_reducible rfl
 try simp only [Act.put, List.setIfInBounds_toArray, List.set_cons_zero, List.set_cons_succ]
 have c3 : w1.cell? ⟨p, 3, none⟩ = some (.int .i64 0) := by rw [ht.out.cell]; rfl
 have c4 : w1.cell? ⟨p, 4, none⟩ = some (.slice none 0 0) := by rw [ht.out.cell]; rfl
 have f3 := ht.out.frozen 3
 have f4 := ht.out.frozen 4
 refine wpAnyH_ready (rs := [15]) (by kernel_rfl) (by simp) ?_
 refine AllReadyH.cons (o := ⟨none, _, _, _, _, _⟩) rfl (fun K hK => ?_) AllReadyH.nil
 go_simp
 refine hK.out _ _ (⟨by go_simp, by go_simp⟩) (fun hS => ?_)
 clear hK K
 try simp only [Act.put, List.setIfInBounds_toArray, List.set_cons_zero, List.set_cons_succ]
 refine wpAnyH_done (by kernel_rfl) ?_ _
 have hms : Moved (· = p) w1 ((w1.setCell ⟨p, 3, none⟩ (.int .i64 S.root)).setCell ⟨p, 4, none⟩ (.slice (some ⟨g, 0, none⟩) n cap)) := ((Moved.refl (· = p) w1).setCell ⟨p, 3, none⟩ _ (.inl rfl)).setCell ⟨p, 4, none⟩ _ (.inl rfl)
 have hbs : Blk ((w1.setCell ⟨p, 3, none⟩ (.int .i64 S.root)).setCell ⟨p, 4, none⟩ (.slice (some ⟨g, 0, none⟩) n cap)) p #[.pointer (some ⟨r, 0, none⟩), .int .i64 S.root, .slice (some ⟨gn, 0, none⟩) S.next.length cn, .int .i64 S.root, .slice (some ⟨g, 0, none⟩) n cap, .map none] 84 := (ht.out.set 3 _).set 4 _
 generalize ((w1.setCell ⟨p, 3, none⟩ (.int .i64 S.root)).setCell ⟨p, 4, none⟩ (.slice (some ⟨g, 0, none⟩) n cap)) = ws at hms hbs ⊢
 have c5' : (ws.alloc (.map #[] 0)).cell? ⟨p, 5, none⟩ = some (.map none) := by rw [(hbs.alloc _).cell]; rfl
 have f5' := (hbs.alloc (.map #[] 0)).frozen 5
 have H3 := Lib.hid hms
 have H4 := Lib.hid hbs
 clear hS c3 c4 f3 f4 hms hbs c0 c1 c2 c5
 go_wp2_with fail
 go_ret
 have h1 : Moved (fun _ => False) w w1 := ((Moved.refl _ w).drew).trans (Moved.of_below HB.out (fun _ => False)) (fun _ h => .inl h)
 have h2 : Moved (· = p) w1 ((ws.alloc (.map #[] 0)).setCell ⟨p, 5, none⟩ (.map (some ws.heap.size))) := (H3.out.alloc _).setCell _ _ (.inl rfl)
 have h3 : Moved (· = p) w ((ws.alloc (.map #[] 0)).setCell ⟨p, 5, none⟩ (.map (some ws.heap.size))) := (h1.mono (fun _ h => False.elim h)).trans h2 (fun _ h => .inl h)
 have hpl : p < w.heap.size := HH.out.top.lt
 have hgl : gn < w.heap.size := HH.out.row.lt
 have hws : g < ws.heap.size := Nat.lt_of_lt_of_le HR.out.lt H3.out.size
 have hwl : w.heap.size ≤ ws.heap.size := Nat.le_trans h1.size H3.out.size
 have hg' : w.heap.size ≤ g := hg
 have hn2 := HNN.out
 refine ⟨rfl, fun k => Q k ∨ w.heap.size ≤ k, ⟨gn, cn, g, cap, ws.heap.size, ⟨?_, HH.out.row.moved h3 HH.out.ne, HH.out.cap, HH.out.max, .inl HH.out.qp, .inl HH.out.qn, HH.out.ne⟩,
  ⟨HR.out.moved h2 (by omega), by rw [← hn2]; exact hc1, hc2, (Pm.made ws).moved (((Moved.refl (· = p) _)).setCell ⟨p, 5, none⟩ _ (.inl rfl)) (by omega), .inr hg', .inr hwl, by omega, by omega, by omega, by omega, by omega⟩⟩, h3.mono (fun j hj => by rw [hj]; exact HH.out.qp), fun _ h => h⟩
 have := (H4.out.alloc (.map #[] 0)).set 5 (.map (some ws.heap.size))
 rw [HNN.out] at this
 exact this
end Go.Proofs.YtbpdapcmaioeiaaGreat
namespace Go.Proofs.YtbpdapcmaioeiaaGreat
open Go.RowKit Go.Maps
set_option maxRecDepth 100000
theorem pg_results2 {fn : Func} {p u : Tmp} (h : fn.results = #[.cell p 126, .tmp u]) (tmps : Array Value) (w : World) (g : Nat) (t : TypeId) (l : List UInt8)
 (hp : tmps.getD p undef = .pointer (some ⟨g, 0, none⟩)) (hg : Blk w g (vbs l).toArray t) (hl : l.length = 504) : (results fn tmps).run Tryz.prog w = .ok (.tuple #[pg l, tmps.getD u undef]) w := by
 rw [results_cell_tmp h, hp]
 have := run_loadVar_row (P := Tryz.prog) w g t 126 (vbs l).toArray (0, 0) _ hg Tryz.underlying126 rfl (pg_size hl)
 simp only [asAddr, Sem.run_pure, Result.andThen_ok, this]
 rfl
theorem dread_any {w : World} {P : Nat → Prop} {r : Nat} {A : Ab} (h : DkA w P r A) (i : Int) :
 Calls Tryz.prog 106 #[.pointer (some ⟨r, 0, none⟩), .int .i64 i] w fun e w' => ∃ v, e = .returned (.tuple #[v, .int .i64 (A.fault i)]) ∧ Bs w' v (A.read i) ∧ Below w.heap.size w w' := by
 refine (to_read i (DkTo.refl h)).mono ?_
 rintro e w' ⟨v, rfl, hv, hb, -⟩
 exact ⟨v, rfl, hv.bs, hb⟩
/-- What 'stored' answers. -/
def storedOf (A : Ab) (k : Nat) : List UInt8 := pageOf (A.read (401 + k))
theorem storedOf_length (A : Ab) (k : Nat) : (storedOf A k).length = 504 := pageOf_length _
theorem stored_any {w : World} {P : Nat → Prop} {r : Nat} {A : Ab} (h : DkA w P r A) (k : Nat) (hk : k ≤ 1000000) :
 Calls Tryz.prog 67 #[.pointer (some ⟨r, 0, none⟩), .int .i64 k] w fun e w' => e = .returned (.tuple #[pg (storedOf A k), .int .i64 (A.fault (401 + k))]) ∧ Below w.heap.size w w' := by
 have hz := pg_zero
 obtain ⟨Z, hZ⟩ : ∃ Z, Z = (vbs (zeros 504)).toArray := ⟨_, rfl⟩
 rw [← hZ] at hz
 have hal : Below w.heap.size w (w.alloc (.cells Z 126)) := (Below.refl _ w).alloc (Nat.le_refl _) _
 have hb0 : Blk (w.alloc (.cells Z 126)) w.heap.size (vbs (zeros 504)).toArray 126 := by
  rw [hZ]; exact Blk.new w _ _
 have hr := dread_any (h.below hal) (401 + k)
 obtain ⟨F, hF⟩ : ∃ F, F = A.fault (401 + k) := ⟨_, rfl⟩
 obtain ⟨L, hL⟩ : ∃ L, L = A.read (401 + k) := ⟨_, rfl⟩
 have hs : storedOf A k = pageOf L := by rw [hL]; rfl
 rw [hs, ← hF]
 rw [← hF, ← hL] at hr
 have HR := Lib.hid hr
 have HA := Lib.hid hal
 have HB := Lib.hid hb0
 have hpl := pageOf_length L
 clear hs hF hL h hr hal hb0 hZ
 go_enter Tryz.func67, Tryz.ntmps67
 go_wp2_with fail
 refine HR.out.mono ?_
 rintro e w1 ⟨v, rfl, hv, hb⟩
 have hp := paged_any v L w1 hv
 have HB1 := Lib.hid hb
 clear hb hv HR
 go_wp2_with fail
 refine hp.mono ?_
 rintro e w2 ⟨rfl, hb⟩
 have HB2 := Lib.hid hb
 have hb2 := (HB.out.moved (Moved.of_below HB1.out (fun _ => False)) (fun h => h)).moved (Moved.of_below HB2.out (fun _ => False)) (fun h => h)
 clear hb hp
 go_wp2_with (first | (with_reducible refine wpList_pstore rfl _ _ rfl w.heap.size (pageOf L) (zeros 504) rfl rfl 126 hb2 (zeros_length _) hpl ?_; intro w3 hb3 hg3) | fail)
 refine bodyPost_ret (pg_results2 rfl _ _ w.heap.size 126 (pageOf L) rfl hb3 hpl) rfl ?_
 have h1 := HA.out.trans (HB1.out.mono HA.out.size)
 have h2 := h1.trans (HB2.out.mono h1.size)
 exact ⟨rfl, h2.grown hg3 h2.size (fun q hq => by have := Option.some.inj hq; omega)⟩
def putAt (T : Option Tx) (i : Int) : Option (List UInt8) := match T with
 | some t => t.f i
 | none => none
/-- The bytes of a page, and the error. -/
def bytesOf (A : Ab) (T : Option Tx) (k : Nat) : List UInt8 × Int := match putAt T k with
 | some l => (l, 0)
 | none => (storedOf A k, A.fault (401 + k))
def AllLong (T : Option Tx) : Prop := ∀ i l, putAt T i = some l → l.length = 504
theorem bytesOf_length {A : Ab} {T : Option Tx} (k : Nat) (h : AllLong T) : (bytesOf A T k).1.length = 504 := by
 unfold bytesOf
 cases hp : putAt T k with
 | none => exact storedOf_length A k
 | some l => exact h _ _ hp
/-- 'b, ok := p.put[at]', whether a transaction is open or not. -/
theorem put_look {w : World} {Q : Nat → Prop} {r p : Nat} {S : Stt} {T : Option Tx} (h : Pg w Q r p S T) (i : Int) (hi : (Lit.int .i64 i).wf = true) :
 ∃ mv, w.cell? ⟨p, 5, none⟩ = some mv ∧ (∃ b, mv = .map b) ∧ ∀ w', Moved (fun _ => False) w w' → (Instr.lookup 82 mv (.int .i64 i) true).run Tryz.prog w' = .ok (.tuple #[pg ((putAt T i).getD (zeros 504)), .bool (putAt T i).isSome]) w' := by
 obtain ⟨gn, cn, wr, vw, mv, h, hT⟩ := h.cells
 obtain ⟨-, -, -, -, -, c5⟩ := h.cells
 refine ⟨mv, c5, ?_, ?_⟩
 ·rcases hT with ⟨rfl, rfl⟩ | ⟨t, b, rfl, rfl, hm⟩
  ·exact ⟨_, rfl⟩
  ·exact ⟨_, rfl⟩
 ·intro w' hm'
  rcases hT with ⟨rfl, rfl⟩ | ⟨t, b, rfl, rfl, hm⟩
  ·exact Maps.look_nil true (int_keyed und_pk) und_pm (pg_zero w') (keyOf_int_mk und_pk hi)
  ·exact (hm.moved hm' (fun h => h)).look hi
theorem bytes_any {w : World} {P Q : Nat → Prop} {r p : Nat} {A : Ab} {S : Stt} {T : Option Tx} (h : Pg w Q r p S T) (hd : DkA w P r A) (k : Nat) (hk : k ≤ 1000000) (hl : AllLong T) :
 Calls Tryz.prog 164 #[.pointer (some ⟨p, 0, none⟩), .int .i64 k] w fun e w' => e = .returned (.tuple #[pg (bytesOf A T k).1, .int .i64 (bytesOf A T k).2]) ∧ Below w.heap.size w w' := by
 have hz := pg_zero
 obtain ⟨Z, hZ⟩ : ∃ Z, Z = (vbs (zeros 504)).toArray := ⟨_, rfl⟩
 rw [← hZ] at hz
 have hal : Below w.heap.size w (w.alloc (.cells Z 126)) := (Below.refl _ w).alloc (Nat.le_refl _) _
 have hal2 : Below w.heap.size w ((w.alloc (.cells Z 126)).alloc (.cells Z 126)) := hal.alloc hal.size _
 have hb0 : Blk ((w.alloc (.cells Z 126)).alloc (.cells Z 126)) w.heap.size (vbs (zeros 504)).toArray 126 := by
  rw [hZ]; exact (Blk.new w _ _).alloc _
 have hb1 : Blk ((w.alloc (.cells Z 126)).alloc (.cells Z 126)) (w.heap.size + 1) (vbs (zeros 504)).toArray 126 := by
  rw [hZ]; exact heap_alloc2_new w _ _
 obtain ⟨mv, c5, ⟨mb, rfl⟩, hlook⟩ := put_look h k (WalkArith.wf_i64 (by omega))
 have hlk := hlook _ (Moved.of_below hal _)
 have hbl : ((putAt T k).getD (zeros 504)).length = 504 := by
  cases hp : putAt T k with
  | none => exact zeros_length _
  | some l => exact hl _ _ hp
 have H0 := Lib.hid hb0
 have H1 := Lib.hid hb1
 have HA := Lib.hid hal
 have HA2 := Lib.hid hal2
 have hpl := h.cells
 obtain ⟨gn, cn, wr, vw, mv', hh, -⟩ := hpl
 have HPL := Lib.hid hh.top.lt
 have HD := Lib.hid hd
 obtain ⟨-, -, -, -, -, -⟩ := hh.cells
 have c0 := hh.cells.1
 have c5' : (w.alloc (.cells Z 126)).cell? ⟨p, 5, none⟩ = some (.map mb) := (World.cell?_of_block (a := ⟨p, 5, none⟩) (hal.block p hh.top.lt)).trans c5
 have C0 := Lib.hid c0
 cases hp : putAt T k with
 | some l =>
  have e : bytesOf A T k = (l, 0) := by unfold bytesOf; rw [hp]
  rw [e]
  rw [hp] at hlk hbl
  simp only [Option.getD_some, Option.isSome_some] at hlk hbl
  clear h hd hb0 hb1 hal hal2 hlook hh c5 c0 hp e hZ hl
  go_enter Tryz.func164, Tryz.ntmps164
  go_wp2_with (first | (with_reducible refine wpList_pstore rfl _ _ rfl (w.heap.size + 1) l (zeros 504) rfl rfl 126 H1.out (zeros_length _) hbl ?_; intro w3 hb3 hg3; have H03 := Lib.hid (grown_keep hg3 H0.out (fun e => by have := Option.some.inj e; omega))) | (with_reducible refine wpList_pload rfl _ rfl _ rfl 126 l hb3 hbl ?_) | (with_reducible refine wpList_pstore rfl _ _ rfl w.heap.size l (zeros 504) rfl rfl 126 H03.out (zeros_length _) hbl ?_; intro w4 hb4 hg4) | fail)
  refine bodyPost_ret (pg_results2 rfl _ _ w.heap.size 126 l rfl hb4 hbl) rfl ?_
  have h3 := HA2.out.grown hg3 HA2.out.size (fun q hq => by have := Option.some.inj hq; omega)
  exact ⟨rfl, h3.grown hg4 h3.size (fun q hq => by have := Option.some.inj hq; omega)⟩
 | none =>
  have e : bytesOf A T k = (storedOf A k, A.fault (401 + k)) := by unfold bytesOf; rw [hp]
  rw [e]
  obtain ⟨F, hF⟩ : ∃ F, F = A.fault (401 + k) := ⟨_, rfl⟩
  obtain ⟨l, hL⟩ : ∃ l, l = storedOf A k := ⟨_, rfl⟩
  have hll : l.length = 504 := by rw [hL]; exact storedOf_length A k
  rw [← hF, ← hL]
  have HF := Lib.hid hF
  have HL := Lib.hid hL
  clear hF hL
  rw [hp] at hlk hbl
  simp only [Option.getD_none, Option.isSome_none] at hlk hbl
  clear h hd hb0 hb1 hal hal2 hlook hh c5 c0 hp e hZ hl
  go_enter Tryz.func164, Tryz.ntmps164
  go_wp2_with (first | (with_reducible refine wpList_pstore rfl _ _ rfl (w.heap.size + 1) (zeros 504) (zeros 504) rfl rfl 126 H1.out (zeros_length _) hbl ?_; intro w3 hb3 hg3; have H03 := Lib.hid (grown_keep hg3 H0.out (fun e => by have := Option.some.inj e; omega)); have c03 := (World.cell?_of_block (a := ⟨p, 0, none⟩) ((HA2.out.grown hg3 HA2.out.size (fun q hq => by have := Option.some.inj hq; omega)).block p HPL.out)).trans C0.out) | fail)
  have h3 := Lib.hid (HA2.out.grown hg3 HA2.out.size (fun q hq => by have := Option.some.inj hq; omega))
  have hst := stored_any (HD.out.below h3.out) k hk
  rw [← HF.out, ← HL.out] at hst
  have H03' := Lib.hid H03.out
  clear hb3
  refine hst.mono ?_
  rintro e w4 ⟨rfl, hb⟩
  have HB4 := Lib.hid hb
  have hb4 := H03'.out.moved (Moved.of_below HB4.out (fun _ => False)) (fun h => h)
  clear hb hst
  go_wp2_with (first | (with_reducible refine wpList_pstore rfl _ _ rfl w.heap.size l (zeros 504) rfl rfl 126 hb4 (zeros_length _) hll ?_; intro w5 hb5 hg5) | fail)
  refine bodyPost_ret (pg_results2 rfl _ _ w.heap.size 126 l rfl hb5 hll) rfl ?_
  have h4 := h3.out.trans (HB4.out.mono h3.out.size)
  exact ⟨rfl, h4.grown hg5 h4.size (fun q hq => by have := Option.some.inj hq; omega)⟩
theorem get_absent {w : World} {Q : Nat → Prop} {r p : Nat} {S : Stt} {T : Option Tx} (h : Pg w Q r p S T) (i : Int) (hb : absentOf S i ≠ 0) :
 Calls Tryz.prog 151 #[.pointer (some ⟨p, 0, none⟩), .int .i64 i] w fun e w' => e = .returned (.tuple #[.slice none 0 0, .int .i64 1]) ∧ Below w.heap.size w w' := by
 have hz := pg_zero
 obtain ⟨Z, hZ⟩ : ∃ Z, Z = (vbs (zeros 504)).toArray := ⟨_, rfl⟩
 rw [← hZ] at hz
 have hal : Below w.heap.size w (w.alloc (.cells Z 126)) := (Below.refl _ w).alloc (Nat.le_refl _) _
 have ha := absent_any (h.below hal) i
 have e1 : absentOf S i = 1 := by
  unfold absentOf at hb ⊢
  split
  ·rename_i h1; exact absurd (if_pos h1) hb
  ·rfl
 rw [e1] at ha
 have HA := Lib.hid hal
 have HB := Lib.hid ha
 clear h hb hal e1 hZ ha
 go_enter Tryz.func151, Tryz.ntmps151
 go_wp2_with fail
 refine wp_scope_jumps 0 (fun a' w' => ∃ u0 u1 u2 u3 u4 u5 u6 u8 u9 u10 u11 u12 u13 u14 u15 u16 u17 u18 u19 u20 u21 u22 : Value, a' = { tmps := #[u0, u1, u2, u3, u4, u5, u6, .int .i64 1, u8, u9, u10, u11, u12, u13, u14, u15, u16, u17, u18, u19, u20, u21, u22], defers := [] } ∧ w' = w.alloc (.cells Z 126)) (fun _ _ => 0) rfl ?_ ?_
 ·go_wp2_with fail
  refine HB.out.mono ?_
  rintro e w' ⟨rfl, he⟩
  subst he
  go_wp2_with fail
  go_step3
  exact ⟨rfl, ⟨_, _, _, _, _, _, _, _, _, _, _, _, _, _, _, _, _, _, _, _, _, _, rfl, rfl⟩⟩
 ·rintro a' w' ⟨u0, u1, u2, u3, u4, u5, u6, u8, u9, u10, u11, u12, u13, u14, u15, u16, u17, u18, u19, u20, u21, u22, rfl, rfl⟩
  go_wp2
  simp only [Exit.jump]
  go_ret2
  exact ⟨rfl, HA.out⟩
theorem Blk.bs {w : World} {g : Nat} {l : List UInt8} {t : TypeId} (h : Blk w g (vbs l).toArray t) (hl : l.length ≤ maxLen) : Bs w (.slice (some ⟨g, 0, none⟩) l.length l.length) l := by
 refine ⟨_, l.length, rfl, Nat.le_refl _, hl, (fun e => by cases e), fun ad had j u hu => ?_⟩
 cases had
 rw [Addr.add_lit, Nat.zero_add, h.cell]
 simpa using hu
theorem get_ok {w : World} {P Q : Nat → Prop} {r p : Nat} {A : Ab} {S : Stt} {T : Option Tx} (h : Pg w Q r p S T) (hd : DkA w P r A) (k : Nat) (hk : k ≤ 1000000) (hl : AllLong T) (h0 : absentOf S k = 0) (he : (bytesOf A T k).2 = 0) :
 Calls Tryz.prog 151 #[.pointer (some ⟨p, 0, none⟩), .int .i64 k] w fun e w' => ∃ v, e = .returned (.tuple #[v, .int .i64 0]) ∧ Bs w' v (bytesOf A T k).1 ∧ (∃ g, v.ownBlock = some g ∧ w.heap.size ≤ g) ∧ Below w.heap.size w w' := by
 have hz := pg_zero
 obtain ⟨Z, hZ⟩ : ∃ Z, Z = (vbs (zeros 504)).toArray := ⟨_, rfl⟩
 rw [← hZ] at hz
 have hal : Below w.heap.size w (w.alloc (.cells Z 126)) := (Below.refl _ w).alloc (Nat.le_refl _) _
 have hb0 : Blk (w.alloc (.cells Z 126)) w.heap.size (vbs (zeros 504)).toArray 126 := by
  rw [hZ]; exact Blk.new w _ _
 have ha := absent_any (h.below hal) k
 rw [h0] at ha
 have hb := bytes_any (h.below hal) (hd.below hal) k hk hl
 rw [he] at hb
 have hll := bytesOf_length (A := A) k hl
 obtain ⟨l, hL⟩ : ∃ l, l = (bytesOf A T k).1 := ⟨_, rfl⟩
 rw [← hL] at hb hll ⊢
 have HA := Lib.hid hal
 have HB := Lib.hid hb
 have HC := Lib.hid ha
 have H0 := Lib.hid hb0
 clear h hd hal hZ ha hb hb0 hl h0 he hL
 go_enter Tryz.func151, Tryz.ntmps151
 go_wp2_with fail
 go_step3
 go_wp2_with fail
 refine HC.out.mono ?_
 rintro e w' ⟨rfl, he⟩
 subst he
 go_wp2_with fail
 refine HB.out.mono ?_
 rintro e w2 ⟨rfl, hb⟩
 have HB2 := Lib.hid hb
 have hb2 := H0.out.moved (Moved.of_below HB2.out (fun _ => False)) (fun h => h)
 clear hb HB HC
 go_wp2_with (first | (with_reducible refine wpList_pstore rfl _ _ rfl w.heap.size l (zeros 504) rfl rfl 126 hb2 (zeros_length _) hll ?_; intro w3 hb3 hg3) | fail)
 rw [Exit.noGoto_ret]
 go_ret2
 have h2 := HA.out.trans (HB2.out.mono HA.out.size)
 have hbs := hb3.bs (by rw [hll]; simp [maxLen])
 rw [hll] at hbs
 exact ⟨_, rfl, hbs, ⟨_, rfl, Nat.le_refl _⟩, h2.grown hg3 h2.size (fun q hq => by have := Option.some.inj hq; omega)⟩
end Go.Proofs.YtbpdapcmaioeiaaGreat
namespace Go.Proofs.YtbpdapcmaioeiaaGreat
open Go.RowKit Go.Maps
set_option maxRecDepth 100000
/-- What 'own' answers. -/
def ownOf (S : Stt) (k : Nat) : List UInt8 := pageOf (le (S.next.getD k 0 - k - 1) 8 ++ if k = 0 then le S.root 8 else [])
theorem ownOf_length (S : Stt) (k : Nat) : (ownOf S k).length = 504 := pageOf_length _
end Go.Proofs.YtbpdapcmaioeiaaGreat
namespace Go.Proofs.YtbpdapcmaioeiaaGreat
open Go.RowKit Go.Maps
set_option maxRecDepth 100000
end Go.Proofs.YtbpdapcmaioeiaaGreat
namespace Go.Proofs.YtbpdapcmaioeiaaGreat
open Go.RowKit Go.Maps
set_option maxRecDepth 100000
/-- A reader whose bytes lie in blocks from base on. -/
def Rdn (base : Nat) (w : World) (r : Nat) (l : List UInt8) (e : Int) : Prop := Rd w r l e ∧ ∃ sv, w.cell? ⟨r, 0, none⟩ = some sv ∧ ∀ q, sv.ownBlock = some q → base ≤ q
theorem Rdn.grown {base : Nat} {w w' : World} {r : Nat} {l : List UInt8} {e : Int} {row : Option Nat} (h : Rdn base w r l e) (hg : w.grownBy w' row) (hr : row ≠ some r) (hs : ∀ q, row = some q → q < base) : Rdn base w' r l e := by
 obtain ⟨h1, sv, h2, h3⟩ := h
 have hb := hg.block r h1.lt (Ne.symm hr)
 refine ⟨h1.grown hg hr (fun sv' h => ?_), sv, by rw [World.cell?_of_block (w := w) hb]; exact h2, h3⟩
 rw [h2] at h
 cases h
 cases row with
 | none => exact .inl rfl
 | some q =>
  refine .inr (fun e => ?_)
  have := h3 q e
  have := hs q rfl
  omega
theorem Rdn.below {base : Nat} {w w' : World} {r : Nat} {l : List UInt8} {e : Int} (h : Rdn base w r l e) (hb : Below w.heap.size w w') : Rdn base w' r l e :=
 h.grown (Below.grownBy hb) (by simp) (fun q h => by cases h)
theorem Rdn.drew {base : Nat} {w : World} {r : Nat} {l : List UInt8} {e : Int} (h : Rdn base w r l e) : Rdn base w.drew r l e := h
theorem Rdn.fails {base : Nat} {w : World} {r : Nat} {l : List UInt8} {e : Int} (h : Rdn base w r l e) (x : Int) : Rdn base (w.setCell ⟨r, 1, none⟩ (.int .i64 x)) r l x ∧ w.grownBy (w.setCell ⟨r, 1, none⟩ (.int .i64 x)) (some r) := by
 obtain ⟨h1, sv, h2, h3⟩ := h
 exact ⟨⟨(h1.fails x).1, sv, (World.cell?_setCell_other w _ _ _ (by simp)).trans h2, h3⟩, (h1.fails x).2⟩
theorem Rdn.lefts {base : Nat} {w : World} {r : Nat} {l m : List UInt8} {e : Int} (h : Rdn base w r l e) (v : Value) (hv : Bs w v m) (hne : v.ownBlock ≠ some r) (hq : ∀ q, v.ownBlock = some q → base ≤ q) : Rdn base (w.setCell ⟨r, 0, none⟩ v) r m e ∧ w.grownBy (w.setCell ⟨r, 0, none⟩ v) (some r) := by
 obtain ⟨h1, sv, h2, h3⟩ := h
 exact ⟨⟨(h1.lefts v hv hne).1, v, World.cell?_setCell_same w _ _ h2, hq⟩, (h1.lefts v hv hne).2⟩
theorem newN_any (v : Value) (l : List UInt8) (hl : l.length ≤ 1099511627776) (w : World) (hbs : Bs w v l) :
 Calls Tryz.prog 68 #[v] w fun e w' => ∃ r, e = .returned (.pointer (some ⟨r, 0, none⟩)) ∧ Rdn w.heap.size w' r l 0 ∧ w.heap.size ≤ r ∧ Below w.heap.size w w' := by
 go_enter Tryz.func68, Tryz.ntmps68
 go_wp2_with fail
 refine (behind_any v l 0 (by omega) (by omega) hl _ hbs).mono ?_
 rintro e w1 ⟨v1, rfl, ho1, hb1⟩
 have hs1 := hb1.size
 obtain ⟨ao1, cap1, hv1, -⟩ := ho1.bs
 subst hv1
 go_wp2
 go_ret
 have hne : (Value.slice ao1 l.length cap1).ownBlock ≠ some w1.heap.size := by
  intro h
  have := (ho1.out.lt _ h).2
  omega
 have hb2 : Below w1.heap.size w1 (w1.alloc (.cells #[.slice ao1 l.length cap1, .int .i64 0] 173)) := (Below.refl _ _).alloc (Nat.le_refl _) _
 refine ⟨w1.heap.size, rfl, ⟨⟨_, ?_, ?_, ?_, ?_, ho1.bs.below hb2, hne⟩, .slice ao1 l.length cap1, ?_, fun q hq => (ho1.out.lt q hq).1⟩, hs1, hb1.alloc hs1 _⟩
 all_goals simp
theorem failN_any (base r : Nat) (l : List UInt8) (e x : Int) (w : World) (h : Rdn base w r l e) :
 Calls Tryz.prog 143 #[.pointer (some ⟨r, 0, none⟩), .int .i64 x] w fun en w' => en = .returned (.tuple #[]) ∧ Rdn base w' r l (failOf e x) ∧ w.grownBy w' (some r) := by
 have hr := h
 obtain ⟨⟨sv, h0, h1, h2, h3, hbs, h5⟩, -⟩ := h
 by_cases he : e = 0
 ·subst he
  go_enter Tryz.func143, Tryz.ntmps143
  go_wp2
  go_end0
  exact ⟨rfl, (hr.fails x).1, (hr.fails x).2⟩
 ·have hb : (e == 0) = false := by simpa using he
  have hfin : Rdn base w r l (failOf e x) := by simpa [failOf, he] using hr
  clear he
  go_enter Tryz.func143, Tryz.ntmps143
  go_wp2
  go_end0
  exact ⟨rfl, hfin, World.grownBy.refl _ _⟩
theorem takeN_any (base r : Nat) (l : List UInt8) (e : Int) (n : Nat) (hn : n ≤ 4294967296) (w : World) (h : Rdn base w r l e) :
 Calls Tryz.prog 110 #[.pointer (some ⟨r, 0, none⟩), .int .i64 n] w fun en w' => ∃ v, en = .returned v ∧ Bs w' v (tookOf l e n) ∧ Rdn base w' r (leftOf l e n) (errOf l e n) ∧ w.grownBy w' (some r) := by
 have hr := h
 obtain ⟨⟨sv, h0, h1, h2, h3, hbs, h5⟩, sv', h6, h7⟩ := h
 obtain rfl : sv' = sv := by rw [h0] at h6; exact (Option.some.inj h6).symm
 clear h6
 by_cases he : e = 0
 ·subst he
  obtain ⟨ao, cap, rfl, g1, g2, g3, g4⟩ := hbs
  have g2' : cap ≤ 9223372036854775807 := g2
  by_cases hlt : l.length < n
  ·have e1 : tookOf l 0 n = [] := by simp [tookOf]; omega
   have e2 : leftOf l 0 n = l := by simp [leftOf]; omega
   have e3 : errOf l 0 n = 7 := by simp [errOf]; omega
   rw [e1, e2, e3]
   clear e1 e2 e3
   go_enter Tryz.func110, Tryz.ntmps110
   go_wp2
   refine wp_scope_jumps 0 (fun a' w' => AtOut r n a' ∧ Rdn base w' r l 7 ∧ w.grownBy w' (some r)) (fun _ _ => 0) rfl ?_ ?_
   ·go_wp2_with (go_at_call 143; refine (failN_any base r l 0 7 _ hr).mono ?_; rintro e w1 ⟨rfl, hr1, hg1⟩)
    go_step3
    exact ⟨rfl, ⟨_, _, _, _, _, _, _, _, _, _, _, _, _, _, rfl⟩, hr1, hg1⟩
   ·rintro a' w' ⟨⟨u6, u7, u8, u9, u10, u11, u12, u13, u14, u15, u16, u17, u18, u19, rfl⟩, hr1, hg1⟩
    go_wp2
    simp only [Exit.jump]
    go_ret
    exact ⟨_, rfl, Bs.nil _, hr1, hg1⟩
  ·have hle : n ≤ l.length := by omega
   have hle' : (n : Int) ≤ l.length := by omega
   go_enter Tryz.func110, Tryz.ntmps110
   go_wp2
   go_step3
   go_wp2
   go_region
   have hbs : Bs w (.slice ao l.length cap) l := ⟨ao, cap, rfl, g1, g2, g3, g4⟩
   have hL := hr.lefts _ (hbs.drops n hle) (by rw [ownBlock_drops (c := l.length) (d := cap)]; exact h5) (fun q hq => h7 q (by rw [ownBlock_drops (c := l.length) (d := cap)] at hq; exact hq))
   generalize Value.slice (if cap = n then ao else Option.map (fun x => x.add n) ao) (l.length - n) (cap - n) = V at hL ⊢
   go_wp2
   go_step3
   go_wp2
   rw [Exit.noGoto_ret]
   go_ret
   have e1 : tookOf l 0 n = l.take n := by simp [tookOf, hle]
   have e2 : leftOf l 0 n = l.drop n := by simp [leftOf, hle]
   have e3 : errOf l 0 n = 0 := by simp [errOf]; omega
   have h5' : (Value.slice ao n cap).ownBlock ≠ some r := by cases ao with | none => simp [Value.ownBlock] | some a => exact h5
   rw [e1, e2, e3]
   exact ⟨_, rfl, ((hbs.takes n hle).grown hL.2 (.inr (.inr h5'))).drew, hL.1.drew, grownBy_drew hL.2⟩
 ·have hb : (e != 0) = true := by simpa using he
  have e1 : tookOf l e n = [] := by simp [tookOf, he]
  have e2 : leftOf l e n = l := by simp [leftOf, he]
  have e3 : errOf l e n = e := by simp [errOf, he]
  rw [e1, e2, e3]
  clear e1 e2 e3 he
  go_enter Tryz.func110, Tryz.ntmps110
  go_wp2
  refine wp_scope_jumps 0 (fun a' w' => AtOut r n a' ∧ Rdn base w' r l e ∧ w.grownBy w' (some r)) (fun _ _ => 0) rfl ?_ ?_
  ·go_wp2
   go_step3
   exact ⟨rfl, ⟨_, _, _, _, _, _, _, _, _, _, _, _, _, _, rfl⟩, hr, World.grownBy.refl _ _⟩
  ·rintro a' w' ⟨⟨u6, u7, u8, u9, u10, u11, u12, u13, u14, u15, u16, u17, u18, u19, rfl⟩, hr1, hg1⟩
   go_wp2
   simp only [Exit.jump]
   go_ret
   exact ⟨_, rfl, Bs.nil _, hr1, hg1⟩
theorem numberN_any (base r : Nat) (l : List UInt8) (e : Int) (n : Nat) (hn : n ≤ 8) (w : World) (h : Rdn base w r l e) :
 Calls Tryz.prog 109 #[.func (.func 110) #[.pointer (some ⟨r, 0, none⟩)] #[], .int .i64 n] w fun en w' =>
  en = .returned (.int .i64 (wrap64 (num (tookOf l e n)))) ∧ Rdn base w' r (leftOf l e n) (errOf l e n) ∧ w.grownBy w' (some r) := by
 have hlen : (tookOf l e n).length ≤ 8 := Nat.le_trans (tookOf_le l e n) hn
 go_enter Tryz.func109, Tryz.ntmps109
 go_wp2_with fail
 refine (takeN_any base r l e n (by omega) _ h).mono ?_
 rintro en w1 ⟨v, rfl, hbs, hrd, hg⟩
 generalize hq : tookOf l e n = p at *
 have HQ := Lib.hid hq
 clear hq
 by_cases hp : p.length = 0
 ·obtain rfl : p = [] := List.eq_nil_of_length_eq_zero hp
  obtain ⟨ao, cap, rfl, -⟩ := hbs
  go_wp2
  refine wp_loop_rounds 1 ?_
  rw [rounds_succ]
  go_wp2
  go_ret
  exact ⟨by rw [HQ.out, num_nil]; rfl, hrd, hg⟩
 ·obtain ⟨b, off, cap, rfl, h1, h2, hc⟩ := hbs.at (by omega)
  obtain ⟨m, hm⟩ : ∃ m, m = p.length := ⟨_, rfl⟩
  have hm1 : m ≤ p.length := by omega
  have hm2 : p.length ≤ m := by omega
  rw [← hm]
  go_wp2
  go_loop [5, 6, 7, 12] (fun v _ _ i => ∃ k : Nat, k ≤ m ∧ i = .int .i64 k ∧ v = .int .u64 (num (p.take k))) (fun _ _ _ i => m - (intOf i).toNat)
  case atStart => exact ⟨0, Nat.zero_le _, rfl, by simp [num]⟩
  case round =>
   obtain ⟨k, hk, rfl, rfl⟩ := hrel
   by_cases hlt : k < m
   ·have hck := hc k (by omega)
    unfold vb at hck
    obtain ⟨c, hc'⟩ : ∃ c : Nat, c = (p[k]'(by omega)).toNat := ⟨_, rfl⟩
    rw [← hc'] at hck
    have hc256 : c < 256 := by rw [hc']; exact UInt8.toNat_lt _
    obtain ⟨N, hN⟩ : ∃ N, N = num (p.take k) := ⟨_, rfl⟩
    have HN := Lib.hid hN
    have HC := Lib.hid hc'
    rw [← hN]
    clear hN hc' hc
    have hNlt : N < 256 ^ k := by
     rw [HN.out]
     refine Nat.lt_of_lt_of_le (num_lt _) ?_
     rw [List.length_take]
     exact Nat.pow_le_pow_right (by decide) (by omega)
    have ho := or_byte N c k (by omega) hNlt hc256
    have HO := Lib.hid ho
    have hs : p.take (k + 1) = p.take k ++ [p[k]'(by omega)] := by rw [List.take_succ_eq_append_getElem]
    have HS := Lib.hid hs
    clear ho hNlt hs
    go_wp2
    go_round
    case rel => exact ⟨k + 1, by omega, by go_num, by rw [HO.out, HS.out, num_snoc, ← HN.out, ← HC.out, List.length_take, Nat.min_eq_left (by omega)]⟩
    case measure => simp [intOf]; omega
   ·obtain rfl : k = m := by omega
    go_wp2
    go_ret
    exact ⟨by rw [HQ.out]; rfl, hrd, hg⟩
theorem numberN_at (base r : Nat) (l : List UInt8) (e m : Int) (n : Nat) (hm : m = n) (hn : n ≤ 8) (w : World) (h : Rdn base w r l e) :
 Calls Tryz.prog 109 #[.func (.func 110) #[.pointer (some ⟨r, 0, none⟩)] #[], .int .i64 m] w fun en w' =>
  en = .returned (.int .i64 (wrap64 (num (tookOf l e n)))) ∧ Rdn base w' r (leftOf l e n) (errOf l e n) ∧ w.grownBy w' (some r) := by
 subst hm; exact numberN_any base r l e n hn w h
theorem rintN_any (base r : Nat) (l : List UInt8) (e : Int) (w : World) (h : Rdn base w r l e) :
 Calls Tryz.prog 69 #[.pointer (some ⟨r, 0, none⟩)] w fun en w' =>
  en = .returned (.int .i64 (wrap64 (num (tookOf l e 8)))) ∧ Rdn base w' r (leftOf l e 8) (errOf l e 8) ∧ w.grownBy w' (some r) := by
 go_enter Tryz.func69, Tryz.ntmps69
 go_wp2_with fail
 refine (numberN_at base r l e 8 8 rfl (by omega) _ h).mono ?_
 rintro en w1 ⟨rfl, h1, hg⟩
 go_wp2
 go_ret
 exact ⟨rfl, h1, hg⟩
end Go.Proofs.YtbpdapcmaioeiaaGreat
