/- Gj -/
import Derived.Test.YtbpdapcmaioeiaaGreatKGg
import Derived.Test.YtbpdapcmaioeiaaGreatKGh
namespace Go.Proofs.YtbpdapcmaioeiaaGreat
open Go.RowKit Go.Maps
set_option maxRecDepth 100000
def sq (N : Nat) (L : List Nat) (j : Nat) : Nat := (0 :: L ++ [N]).getD j 0
def pos : List Nat → Nat → Nat
 | [], _ => 0
 | a :: l, i => if i = a then 0 else pos l i + 1
theorem pos_get : ∀ {l : List Nat} (j : Nat) (hj : j < l.length), l.Nodup → pos l l[j] = j
 | a :: l, 0, _, _ => by simp [pos]
 | a :: l, j + 1, hj, h => by
  have hj' : j < l.length := by simpa using hj
  have hn := List.nodup_cons.1 h
  rw [List.getElem_cons_succ]
  unfold pos
  rw [if_neg (fun e => hn.1 (by rw [← e]; exact List.getElem_mem _)), pos_get j hj' hn.2]
theorem Chn.sq_nodup {N : Nat} {L : List Nat} (h : Chn N L) : (0 :: L ++ [N]).Nodup := by
 rw [List.nodup_append]
 refine ⟨h.nodup0, by simp, fun a ha b hb e => ?_⟩
 have : b = N := List.mem_singleton.1 hb
 rcases List.mem_cons.1 ha with e1 | e1
 ·have := h.pos; omega
 ·have := (h.all a e1).2; omega
theorem sq_pos {N : Nat} {L : List Nat} (h : Chn N L) (j : Nat) (hj : j ≤ L.length + 1) : pos (0 :: L ++ [N]) (sq N L j) = j := by
 have hl : j < (0 :: L ++ [N]).length := by simp; omega
 have e : sq N L j = (0 :: L ++ [N])[j] := by unfold sq; rw [List.getD_eq_getElem?_getD, List.getElem?_eq_getElem hl]; rfl
 rw [e]
 exact pos_get j hl h.sq_nodup
theorem sq_get {N : Nat} {L : List Nat} (j : Nat) (hj : j < (0 :: L).length) : sq N L j = (0 :: L)[j] := by
 unfold sq
 rw [List.getD_eq_getElem?_getD, List.getElem?_append_left hj, List.getElem?_eq_getElem hj]
 rfl
theorem sq_last (N : Nat) (L : List Nat) : sq N L (L.length + 1) = N := by
 unfold sq
 rw [List.getD_eq_getElem?_getD, List.getElem?_append_right (by simp)]
 simp
theorem sq_link {N : Nat} {L : List Nat} (h : Chn N L) (j : Nat) (hj : j < (0 :: L).length) : link N (0 :: L) (sq N L j) = sq N L (j + 1) := by
 rw [sq_get j hj, link_seq j hj h.nodup0]
 congr 1
 unfold sq
 have hl : j < (L ++ [N]).length := by simp at hj ⊢; omega
 rw [List.getD_eq_getElem?_getD, List.cons_append, List.getElem?_cons_succ, List.getElem?_eq_getElem hl]
 rfl
theorem sq_range {N : Nat} {L : List Nat} (h : Chn N L) (j : Nat) (hj : j < (0 :: L).length) : 1 ≤ sq N L (j + 1) ∧ sq N L (j + 1) ≤ N := by
 by_cases e : j = L.length
 ·subst e
  rw [sq_last]
  exact ⟨h.pos, Nat.le_refl _⟩
 ·have : j + 1 < (0 :: L).length := by simp at hj ⊢; omega
  rw [sq_get (j + 1) this, List.getElem_cons_succ]
  have := h.all (L[j]'(by simp at hj; omega)) (List.getElem_mem _)
  omega
/-- The disk holds the row L of the free pages of N, and the root. -/
structure Enc (A : Ab) (N : Nat) (L : List Nat) (root : Int) : Prop where
 len : A.now.length = 401 + N
 most : N ≤ 3000
 chn : Chn N L
 ok : ∀ i : Nat, i < N → A.fault (401 + i) = 0
 own : ∀ i ∈ 0 :: L, storedOf A i = ownOf ⟨root, nextOf N L⟩ i
 wf : (Lit.int .i64 root).wf = true
/-- What the page of a free one begins with. -/
theorem own_front (S : Stt) (k : Nat) : ∃ t, ownOf S k = le (S.next.getD k 0 - k - 1) 8 ++ t ∧ (k = 0 → ∃ t', t = le S.root 8 ++ t') := by
 unfold ownOf
 rw [pageOf_short (by rw [List.length_append, le_length]; split <;> simp [le_length])]
 unfold page
 by_cases h : k = 0
 ·rw [if_pos h, List.append_assoc]
  exact ⟨_, rfl, fun _ => ⟨_, rfl⟩⟩
 ·rw [if_neg h, List.append_assoc]
  exact ⟨_, rfl, fun e => absurd e h⟩
/-- What load holds while it reads. -/
structure LdS (b : Nat) (w wr : World) (N : Nat) (R : List Int) (root : Int) : Prop where
 res : Blk wr b #[.int .i64 0, .slice none 0 0] 78
 pgv : ∃ l : List UInt8, l.length = 504 ∧ Blk wr (b + 1) (vbs l).toArray 126
 row : Blk wr (b + 2) (ints R).toArray 3
 len : R.length = N
 s : Blk wr (b + 3) #[.int .i64 root, .slice (some ⟨b + 2, 0, none⟩) N N] 78
 bel : Below b w wr
theorem LdS.below {b : Nat} {w wr w' : World} {N : Nat} {R : List Int} {root : Int} (h : LdS b w wr N R root) (hb : Below wr.heap.size wr w') : LdS b w w' N R root := by
 have hm : Moved (fun _ => False) wr w' := Moved.of_below hb _
 obtain ⟨l, h1, h2⟩ := h.pgv
 have := h.s.lt
 exact ⟨h.res.moved hm (fun h => h), ⟨l, h1, h2.moved hm (fun h => h)⟩, h.row.moved hm (fun h => h), h.len, h.s.moved hm (fun h => h), h.bel.trans (hb.mono (by omega))⟩
theorem LdS.cell {b : Nat} {w wr : World} {N : Nat} {R : List Int} {root : Int} (h : LdS b w wr N R root) (j : Nat) (hj : j < R.length) : wr.cell? ⟨b + 2, j, none⟩ = some (.int .i64 R[j]) := by
 rw [h.row.cell]
 simp [ints, hj]
theorem LdS.paged {b : Nat} {w wr w' : World} {N : Nat} {R : List Int} {root : Int} (h : LdS b w wr N R root) {l : List UInt8} (hl : l.length = 504) (hb : Blk w' (b + 1) (vbs l).toArray 126) (hg : wr.grownBy w' (some (b + 1))) : LdS b w w' N R root := by
 have := h.s.lt
 refine ⟨grown_keep hg h.res (fun e => by have := Option.some.inj e; omega), ⟨l, hl, hb⟩, grown_keep hg h.row (fun e => by have := Option.some.inj e; omega), h.len, grown_keep hg h.s (fun e => by have := Option.some.inj e; omega), h.bel.grown hg (by omega) (fun q hq => by have := Option.some.inj hq; omega)⟩
theorem LdS.read {b r : Nat} {w wr w' : World} {N : Nat} {R : List Int} {root : Int} (h : LdS b w wr N R root) (hr : b + 3 < r) (hg : wr.grownBy w' (some r)) : LdS b w w' N R root := by
 have := h.s.lt
 obtain ⟨l, h1, h2⟩ := h.pgv
 refine ⟨grown_keep hg h.res (fun e => by have := Option.some.inj e; omega), ⟨l, h1, grown_keep hg h2 (fun e => by have := Option.some.inj e; omega)⟩, grown_keep hg h.row (fun e => by have := Option.some.inj e; omega), h.len, grown_keep hg h.s (fun e => by have := Option.some.inj e; omega), h.bel.grown hg (by omega) (fun q hq => by have := Option.some.inj hq; omega)⟩
theorem ints_set (R : List Int) (j : Nat) (v : Int) : (ints R).toArray.setIfInBounds j (.int .i64 v) = (ints (R.set j v)).toArray := by
 apply Array.ext'
 simp [ints, List.map_set]
theorem LdS.put {b : Nat} {w wr : World} {N : Nat} {R : List Int} {root : Int} (h : LdS b w wr N R root) (j : Nat) (v : Int) : LdS b w (wr.setCell ⟨b + 2, j, none⟩ (.int .i64 v)) N (R.set j v) root := by
 have := h.s.lt
 obtain ⟨l, h1, h2⟩ := h.pgv
 refine ⟨h.res.other _ _ (by simp), ⟨l, h1, h2.other _ _ (by simp)⟩, ?_, by simpa using h.len, h.s.other _ _ (by simp), ?_⟩
 ·rw [← ints_set]; exact h.row.set j _
 ·exact h.bel.setCell (by show b ≤ b + 2; omega) _
theorem LdS.rooted {b : Nat} {w wr : World} {N : Nat} {R : List Int} {root : Int} (h : LdS b w wr N R root) (x : Int) : LdS b w (wr.setCell ⟨b + 3, 0, none⟩ (.int .i64 x)) N R x := by
 have := h.s.lt
 obtain ⟨l, h1, h2⟩ := h.pgv
 refine ⟨h.res.other _ _ (by simp), ⟨l, h1, h2.other _ _ (by simp)⟩, h.row.other _ _ (by simp), h.len, h.s.set 0 _, ?_⟩
 exact h.bel.setCell (by show b ≤ b + 3; omega) _
theorem LdS.drew {b : Nat} {w wr : World} {N : Nat} {R : List Int} {root : Int} (h : LdS b w wr N R root) : LdS b w wr.drew N R root := h.below (Below.refl _ _).drew
theorem state_results2 {fn : Func} {p u : Tmp} (h : fn.results = #[.cell p 78, .tmp u]) (tmps : Array Value) (w : World) (g : Nat) (t : TypeId) (a b : Value)
 (hp : tmps.getD p undef = .pointer (some ⟨g, 0, none⟩)) (hg : Blk w g #[a, b] t) : (results fn tmps).run Tryz.prog w = .ok (.tuple #[.agg #[a, b], tmps.getD u undef]) w := by
 rw [results_cell_tmp h, hp]
 have := run_loadVar_row (P := Tryz.prog) w g t 78 #[a, b] (0, 0) _ hg Tryz.underlying78 rfl (by kernel_rfl)
 simp only [asAddr, Sem.run_pure, Result.andThen_ok, this]
theorem run_make_ints (n : Nat) (m : Int) (hm : m = n) (hn : n ≤ 1000000) (w : World) :
 (Instr.makeSlice 47 (.int .i64 m) (.int .i64 m)).run Tryz.prog w = .ok (.slice (some ⟨w.heap.size, 0, none⟩) n n) (w.alloc (.cells (ints (List.replicate n 0)).toArray 3)) := by
 subst hm
 obtain ⟨i0, hi, hz0, hz1, hz2⟩ := info_parts Tryz.infoI
 have h := run_make (P := Tryz.prog) w 47 3 i0 (.int .i64 0) Tryz.underlying47 hi hz0 .i64 .i64 n n (by omega) (Int.le_refl _) (by rw [hz2]; omega) (by omega)
 simp only [Int.toNat_natCast, hz1] at h
 have e : madeCells #[.int .i64 0] (n * 1) = (ints (List.replicate n 0)).toArray := by
  apply Array.ext'
  rw [Nat.mul_one, toList_madeCells_one]
  simp [ints]
 rw [h, ← e]
 rfl
/-- What the first number of a free page says. -/
theorem own_num (S : Stt) (k : Nat) (h : (Lit.int .i64 (S.next.getD k 0 - k - 1)).wf = true) : wrap64 (num (tookOf (ownOf S k) 0 8)) = S.next.getD k 0 - k - 1 := by
 obtain ⟨t, h1, -⟩ := own_front S k
 rw [h1, (took_front _ t 8 (le_length _ _)).1, num_back _ h]
theorem own_root (S : Stt) (h : (Lit.int .i64 S.root).wf = true) : wrap64 (num (tookOf (leftOf (ownOf S 0) 0 8) (errOf (ownOf S 0) 0 8) 8)) = S.root := by
 obtain ⟨t, h1, h2⟩ := own_front S 0
 obtain ⟨t', rfl⟩ := h2 rfl
 have q := took_front (le (S.next.getD 0 0 - (0 : Nat) - 1) 8) (le S.root 8 ++ t') 8 (le_length _ _)
 rw [h1, q.2.1, q.2.2, (took_front _ t' 8 (le_length _ _)).1, num_back _ h]
set_option maxHeartbeats 2000000 in
theorem load_any {w : World} {P : Nat → Prop} {r : Nat} {A : Ab} {N : Nat} {L : List Nat} {root : Int} (hd : DkA w P r A) (he : Enc A N L root) :
 Calls Tryz.prog 35 #[.pointer (some ⟨r, 0, none⟩)] w fun e w' => ∃ g, e = .returned (.tuple #[.agg #[.int .i64 root, .slice (some ⟨g, 0, none⟩) N N], .int .i64 0]) ∧ Blk w' g (ints (nextOf N L)).toArray 3 ∧ w.heap.size ≤ g ∧ Below w.heap.size w w' := by
 have hz := pg_zero
 obtain ⟨Z, hZ⟩ : ∃ Z, Z = (vbs (zeros 504)).toArray := ⟨_, rfl⟩
 rw [← hZ] at hz
 have hmost := he.most
 have hpos := he.chn.pos
 have hlen := he.len
 have HE := Lib.hid he
 have HD := Lib.hid hd
 obtain ⟨o1, ho1⟩ : ∃ o : Obj, o = .cells #[.int .i64 0, .slice none 0 0] 78 := ⟨_, rfl⟩
 obtain ⟨o2, ho2⟩ : ∃ o : Obj, o = .cells Z 126 := ⟨_, rfl⟩
 have hal1 : Below w.heap.size w (w.alloc o1) := (Below.refl _ w).alloc (Nat.le_refl _) _
 have hal2 : Below w.heap.size w ((w.alloc o1).alloc o2) := hal1.alloc hal1.size _
 have hsz : Calls Tryz.prog 33 #[.pointer (some ⟨r, 0, none⟩)] ((w.alloc o1).alloc o2) fun e w' => e = .returned (.int .i64 (A.now.length : Int)) ∧ w' = ((w.alloc o1).alloc o2) := to_size (DkTo.refl (hd.below hal2))
 rw [hlen] at hsz
 have hmk := run_make_ints N (401 + (N : Int) - 401) (by omega) (by omega)
 have hst0 : LdS w.heap.size w ((((w.alloc o1).alloc o2).alloc (.cells (ints (List.replicate N 0)).toArray 3)).alloc (.cells #[.int .i64 0, .slice (some ⟨w.heap.size + 2, 0, none⟩) N N] 78)) N (rowTo N L 0) 0 := by
  have s1 : (w.alloc o1).heap.size = w.heap.size + 1 := by simp
  have s2 : ((w.alloc o1).alloc o2).heap.size = w.heap.size + 2 := by simp
  have s3 : (((w.alloc o1).alloc o2).alloc (.cells (ints (List.replicate N 0)).toArray 3)).heap.size = w.heap.size + 3 := by simp
  have b1 := Blk.new w #[.int .i64 0, .slice none 0 0] 78
  rw [← ho1] at b1
  have b2 := Blk.new (w.alloc o1) Z 126
  rw [← ho2, s1] at b2
  have b3 := Blk.new ((w.alloc o1).alloc o2) (ints (List.replicate N 0)).toArray 3
  rw [s2] at b3
  have b4 := Blk.new (((w.alloc o1).alloc o2).alloc (.cells (ints (List.replicate N 0)).toArray 3)) #[.int .i64 0, .slice (some ⟨w.heap.size + 2, 0, none⟩) N N] 78
  rw [s3] at b4
  have q3 := hal2.alloc hal2.size (.cells (ints (List.replicate N 0)).toArray 3)
  refine ⟨((b1.alloc _).alloc _).alloc _, ⟨zeros 504, zeros_length _, by rw [← hZ]; exact (b2.alloc _).alloc _⟩, by rw [rowTo_zero]; exact b3.alloc _, rowTo_length _ _ _, b4, q3.alloc q3.size _⟩
 have HS0 := Lib.hid hst0
 have HSZ := Lib.hid hsz
 obtain ⟨m, hm⟩ : ∃ m, m = L.length := ⟨_, rfl⟩
 have HM := Lib.hid hm
 subst ho1 ho2
 clear hd he hal1 hal2 hst0 hsz hlen hm hZ
 go_enter Tryz.func35, Tryz.ntmps35
 go_wp2_with fail
 go_step3
 go_wp2_with (first | (refine HSZ.out.mono ?_; rintro e w' ⟨rfl, he⟩; subst he) | fail)
 go_loopw [5, 6, 8] (fun _ e i wr => ∃ j, j ≤ m + 1 ∧ i = .int .i64 (sq N L j) ∧ e = .int .i64 0 ∧ LdS w.heap.size w wr N (rowTo N L j) (if j = 0 then 0 else root)) (fun _ _ i _ => m + 2 - pos (0 :: L ++ [N]) (intOf i).toNat)
 case atStart => exact ⟨0, Nat.zero_le _, rfl, rfl, HS0.out⟩
 case round =>
  obtain ⟨j, hj, rfl, rfl, hL⟩ := hrel
  have HL := Lib.hid hL
  have cs1 : wr.cell? ⟨w.heap.size + 3, 1, none⟩ = some (.slice (some ⟨w.heap.size + 2, 0, none⟩) N N) := by rw [hL.s.cell]; rfl
  by_cases hlt : j < m + 1
  ·have hj0 : j < (0 :: L).length := by have := HM.out; simp; omega
   have hk := seq_lt HE.out.chn j hj0
   have hkk := sq_get (N := N) j hj0
   rw [← hkk] at hk
   have hlen : sq N L j < (rowTo N L j).length := by rw [rowTo_length]; exact hk
   have ck := hL.cell (sq N L j) hlen
   have hfr : (rowTo N L j)[sq N L j] = 0 := by
    have := rowTo_fresh HE.out.chn j hj0 (by rw [← hkk]; exact hlen)
    simpa only [hkk] using this
   rw [hfr] at ck
   obtain ⟨k, hkd⟩ : ∃ k, k = sq N L j := ⟨_, rfl⟩
   have HK := Lib.hid hkd
   rw [← hkd] at ck hk
   clear hL hlen hfr hkk
   rw [← hkd]
   have hkN : (k : Int) < N := by omega
   clear hkd
   have hst := stored_any (HD.out.below HL.out.bel) k (by omega)
   rw [HE.out.ok k hk, HE.out.own k (by rw [HK.out, sq_get j hj0]; exact List.getElem_mem _)] at hst
   obtain ⟨X, hX⟩ : ∃ X, X = sq N L (j + 1) := ⟨_, rfl⟩
   have hXr := sq_range HE.out.chn j hj0
   rw [← hX] at hXr
   have hnx : (nextOf N L).getD k 0 = X := by rw [nextOf_at L hk, HK.out, sq_link HE.out.chn j hj0, hX]
   obtain ⟨y, hy⟩ : ∃ y : Int, y = (X : Int) - k - 1 := ⟨_, rfl⟩
   have hy1 : -4000 ≤ y ∧ y ≤ 4000 := by clear hst hnx; omega
   have hw1 : IntKind.i64.wrap (y + k) = y + k := by clear hst hnx; rw [IntKind.wrap_i64]; omega
   have hw2 : IntKind.i64.wrap (y + k + 1) = y + k + 1 := by clear hst hnx; rw [IntKind.wrap_i64]; omega
   have hv1 : 1 ≤ y + k + 1 ∧ y + k + 1 ≤ N := by clear hst hnx; omega
   have hnum := own_num ⟨root, nextOf N L⟩ k (by show (Lit.int .i64 ((nextOf N L).getD k 0 - k - 1)).wf = true; rw [hnx]; exact WalkArith.wf_i64 (by omega))
   have hroot := own_root ⟨root, nextOf N L⟩ HE.out.wf
   have hll := ownOf_length ⟨root, nextOf N L⟩ k
   have HRO : Hid (k = 0 → wrap64 (num (tookOf (leftOf (ownOf ⟨root, nextOf N L⟩ k) 0 8) (errOf (ownOf ⟨root, nextOf N L⟩ k) 0 8) 8)) = root) := Lib.hid (fun e => by subst e; exact hroot)
   replace hnum : wrap64 (num (tookOf (ownOf ⟨root, nextOf N L⟩ k) 0 8)) = y := by rw [hnum, hy]; show (nextOf N L).getD k 0 - k - 1 = _; rw [hnx]
   obtain ⟨l, hl⟩ : ∃ l, l = ownOf ⟨root, nextOf N L⟩ k := ⟨_, rfl⟩
   rw [← hl] at hst hnum hll HRO
   have HST := Lib.hid hst
   have HNUM := Lib.hid hnum
   have HX := Lib.hid hX
   have HY := Lib.hid hy
   clear hst hnum hX hy hnx hl hroot
   go_wp2_with fail
   refine HST.out.mono ?_
   rintro e w1 ⟨rfl, hb1⟩
   have HL1 := Lib.hid (HL.out.below hb1)
   obtain ⟨pl, hpl, hpb⟩ := HL1.out.pgv
   clear hb1 HST
   go_wp2_with (first | (with_reducible refine wpList_pstore rfl _ _ rfl (w.heap.size + 1) l pl rfl rfl 126 hpb hpl hll ?_; intro w2 hb2 hg2) | fail)
   have HL2 := Lib.hid (HL1.out.paged hll hb2 hg2)
   have hbs := hb2.bs (by rw [hll]; simp [maxLen])
   rw [hll] at hbs
   have hnw := newN_any _ l (by rw [hll]; omega) w2 hbs
   clear hbs hpb hb2 hg2 hpl
   refine hnw.mono ?_
   rintro e w3 ⟨rr, rfl, hr3, hrr, hb3⟩
   have HL3 := Lib.hid (HL2.out.below hb3)
   have HR3 := Lib.hid hr3
   have HRR : Hid (w.heap.size + 3 < rr) := Lib.hid (by have := HL2.out.s.lt; omega)
   have hint := rintN_any w2.heap.size rr l 0 w3.drew hr3.drew
   rw [HNUM.out] at hint
   have HINT := Lib.hid hint
   have HSZ2 : Hid (w.heap.size + 3 < w2.heap.size) := Lib.hid HL2.out.s.lt
   clear hb3 hr3 hnw hrr hint cs1 ck
   have cs3 : w3.cell? ⟨w.heap.size + 3, 1, none⟩ = some (.slice (some ⟨w.heap.size + 2, 0, none⟩) N N) := by rw [HL3.out.s.cell]; rfl
   go_wp2_with fail
   refine wp_region_any (by kernel_rfl) ?_
   change wpAny _ _ _ _ _ _ _ (World.drew _)
   refine wpAny_of_held (S := fun (w' : World) => w'.cell? ⟨w.heap.size + 3, 1, none⟩ = some (.slice (some ⟨w.heap.size + 2, 0, none⟩) N N)) _ _ _ _ ?_
   have hS : (fun (w' : World) => w'.cell? ⟨w.heap.size + 3, 1, none⟩ = some (.slice (some ⟨w.heap.size + 2, 0, none⟩) N N)) _ := cs3
   try simp only [Act.put, List.setIfInBounds_toArray, List.set_cons_zero, List.set_cons_succ]
   refine wpAnyH_take (i := 0) (oi := ⟨some 40, _, _, _, _, _⟩) (v := ?_) rfl (by kernel_rfl) (by kernel_rfl) (by kernel_rfl) (fun _ _ _ h => h) (Or.inl ⟨by simp only [Region.wanted], ?_⟩) hS ?_
   rotate_left
   ·intro wz hSw
    clear hSw
    go_simp
    first | done | with_reducible rfl
   try simp only [Act.put, List.setIfInBounds_toArray, List.set_cons_zero, List.set_cons_succ]
   refine wpAnyH_take (i := 1) (oi := ⟨some 41, _, _, _, _, _⟩) (v := ?_) rfl (by kernel_rfl) (by kernel_rfl) (by kernel_rfl) (fun _ _ _ h => h) (Or.inl ⟨by simp only [Region.wanted], ?_⟩) hS ?_
   rotate_left
   ·intro wz hSw
    (try dsimp only at hSw)
    (try go_split_ands)
    go_simp
    first | done | with_reducible rfl
   try simp only [Act.put, List.setIfInBounds_toArray, List.set_cons_zero, List.set_cons_succ]
   refine wpAnyH_take (i := 2) (oi := ⟨some 42, _, _, _, _, _⟩) (v := ?_) rfl (by kernel_rfl) (by kernel_rfl) (by kernel_rfl) (fun _ _ _ h => h) (Or.inl ⟨by simp only [Region.wanted], ?_⟩) hS ?_
   rotate_left
   ·intro wz hSw
    clear hSw
    go_simp
    first | done | with_reducible rfl
   try simp only [Act.put, List.setIfInBounds_toArray, List.set_cons_zero, List.set_cons_succ]
   refine wpAnyH_take (i := 3) (oi := ⟨some 43, _, _, _, _, _⟩) (v := ?_) rfl (by kernel_rfl) (by kernel_rfl) (by kernel_rfl) (fun _ _ _ h => h) (Or.inl ⟨by simp only [Region.wanted], ?_⟩) hS ?_
   rotate_left
   ·intro wz hSw
    clear hSw
    go_simp
    first | done | with_reducible rfl
   try simp only [Act.put, List.setIfInBounds_toArray, List.set_cons_zero, List.set_cons_succ]
   refine wpAnyH_take (i := 5) (oi := ⟨some 45, _, _, _, _, _⟩) (v := ?_) rfl (by kernel_rfl) (by kernel_rfl) (by kernel_rfl) (fun _ _ _ h => h) (Or.inl ⟨by simp only [Region.wanted], ?_⟩) hS ?_
   rotate_left
   ·intro wz hSw
    clear hSw
    go_simp
    first | done | with_reducible rfl
   try simp only [Act.put, List.setIfInBounds_toArray, List.set_cons_zero, List.set_cons_succ]
   refine wpAnyH_ready (rs := [4]) (by kernel_rfl) (by simp) ?_
   refine AllReadyH.cons (o := ⟨some 44, _, _, _, _, _⟩) rfl (fun K hK => ?_) AllReadyH.nil
   go_simp
   refine HINT.out.mono ?_
   rintro e w4 ⟨rfl, hr4, hg4⟩
   have HR4 := Lib.hid hr4
   have HL4 := Lib.hid (HL3.out.drew.read HRR.out hg4)
   clear hr4 hg4
   go_simp
   refine hK.out _ _ (by rw [HL4.out.s.cell]; rfl) (fun hS => ?_)
   clear hK K
   try simp only [Act.put, List.setIfInBounds_toArray, List.set_cons_zero, List.set_cons_succ]
   refine wpAnyH_take (i := 6) (oi := ⟨some 46, _, _, _, _, _⟩) (v := ?_) rfl (by kernel_rfl) (by kernel_rfl) (by kernel_rfl) (fun _ _ _ h => h) (Or.inl ⟨by simp only [Region.wanted], ?_⟩) hS ?_
   rotate_left
   ·intro wz hSw
    clear hSw
    go_simp
    first | done | with_reducible rfl
   try simp only [Act.put, List.setIfInBounds_toArray, List.set_cons_zero, List.set_cons_succ]
   refine wpAnyH_take (i := 7) (oi := ⟨some 47, _, _, _, _, _⟩) (v := ?_) rfl (by kernel_rfl) (by kernel_rfl) (by kernel_rfl) (fun _ _ _ h => h) (Or.inl ⟨by simp only [Region.wanted], ?_⟩) hS ?_
   rotate_left
   ·intro wz hSw
    clear hSw
    go_simp
    first | done | with_reducible rfl
   try simp only [Act.put, List.setIfInBounds_toArray, List.set_cons_zero, List.set_cons_succ]
   refine wpAnyH_take (i := 8) (oi := ⟨some 48, _, _, _, _, _⟩) (v := ?_) rfl (by kernel_rfl) (by kernel_rfl) (by kernel_rfl) (fun _ _ _ h => h) (Or.inl ⟨by simp only [Region.wanted], ?_⟩) hS ?_
   rotate_left
   ·intro wz hSw
    clear hSw
    go_simp
    first | done | with_reducible rfl
   try simp only [Act.put, List.setIfInBounds_toArray, List.set_cons_zero, List.set_cons_succ]
   have ck4 := HL4.out.cell k (by rw [rowTo_length]; exact hk)
   have fk4 := HL4.out.row.frozen k
   refine wpAnyH_ready (rs := [9]) (by kernel_rfl) (by simp) ?_
   refine AllReadyH.cons (o := ⟨none, _, _, _, _, _⟩) rfl (fun K hK => ?_) AllReadyH.nil
   go_simp
   refine hK.out _ _ (by rw [(HL4.out.put k (y + k + 1)).s.cell]; rfl) (fun hS => ?_)
   clear hK K
   try simp only [Act.put, List.setIfInBounds_toArray, List.set_cons_zero, List.set_cons_succ]
   refine wpAnyH_done (by kernel_rfl) ?_ _
   have HL5 := Lib.hid (HL4.out.put k (y + k + 1))
   have HG5 : Hid (w4.grownBy (w4.setCell ⟨w.heap.size + 2, k, none⟩ (.int .i64 (y + k + 1))) (some (w.heap.size + 2))) := Lib.hid ⟨rfl, rfl, rfl, by simp [World.setCell], fun q _ hq => Below.heap_setCell _ _ _ _ (by simpa using hq)⟩
   have HR5 := Lib.hid (HR4.out.grown HG5.out (by have := HRR.out; simp; omega) (fun q hq => by have := Option.some.inj hq; have := HSZ2.out; omega))
   generalize w4.setCell ⟨w.heap.size + 2, k, none⟩ (.int .i64 (y + k + 1)) = w5 at HL5 HG5 HR5 ⊢
   have hlr : k < ((rowTo N L j).set k (y + k + 1)).length := by rw [List.length_set, rowTo_length]; exact hk
   have c51 : w5.cell? ⟨w.heap.size + 3, 1, none⟩ = some (.slice (some ⟨w.heap.size + 2, 0, none⟩) N N) := by rw [HL5.out.s.cell]; rfl
   have c52 : w5.cell? ⟨w.heap.size + 2, k, none⟩ = some (.int .i64 (y + k + 1)) := by
    rw [HL5.out.cell k hlr, List.getElem_set_self]
   have hv2 : ¬ y + k + 1 < 1 := by omega
   have hv3 : ¬ (N : Int) < y + k + 1 := by omega
   clear hS ck4 fk4 cs3 hlr
   go_wp2
   go_quiet (fail)
   have hb6 : Below w5.heap.size w5 (w5.drewN nq) := grownBy_below (grownBy_drewN _ _ _)
   have HL6 := Lib.hid (HL5.out.below hb6)
   have HR6 := Lib.hid (HR5.out.below hb6)
   have c61 : (w5.drewN nq).cell? ⟨w.heap.size + 3, 1, none⟩ = some (.slice (some ⟨w.heap.size + 2, 0, none⟩) N N) := c51
   have c62 : (w5.drewN nq).cell? ⟨w.heap.size + 2, k, none⟩ = some (.int .i64 (y + k + 1)) := c52
   generalize w5.drewN nq = w6 at HL6 HR6 c61 c62 ⊢
   clear hb6 c51 c52 hS
   by_cases hk0 : k = 0
   ·have hkb : ((k : Int) == 0) = true := by simp [hk0]
    have hint := rintN_any w2.heap.size rr _ _ w6 HR6.out
    rw [HRO.out hk0] at hint
    have HK0 := Lib.hid hk0
    clear hk0
    go_wp2_with fail
    refine hint.mono ?_
    rintro e w7 ⟨rfl, -, hg7⟩
    have HL7 := Lib.hid (HL6.out.read HRR.out hg7)
    have cs7 : w7.cell? ⟨w.heap.size + 3, 0, none⟩ = some (.int .i64 (if j = 0 then 0 else root)) := by rw [HL7.out.s.cell]; rfl
    have fs7 := HL7.out.s.frozen 0
    have HL8 := Lib.hid (HL7.out.rooted root)
    have hlr : k < ((rowTo N L j).set k (y + k + 1)).length := by rw [List.length_set, rowTo_length]; exact hk
    have c81 : (w7.setCell ⟨w.heap.size + 3, 0, none⟩ (.int .i64 root)).cell? ⟨w.heap.size + 3, 1, none⟩ = some (.slice (some ⟨w.heap.size + 2, 0, none⟩) N N) := by rw [HL8.out.s.cell]; rfl
    have c82 : (w7.setCell ⟨w.heap.size + 3, 0, none⟩ (.int .i64 root)).cell? ⟨w.heap.size + 2, k, none⟩ = some (.int .i64 (y + k + 1)) := by
     rw [HL8.out.cell k hlr, List.getElem_set_self]
    clear hg7 hint c61 c62 hlr
    go_wp2_with fail
    go_roundw
    case rel =>
     refine ⟨j + 1, by omega, ?_, rfl, ?_⟩
     ·rw [← HX.out]; congr 1; have := HY.out; omega
     ·rw [if_neg (by omega), rowTo_succ j hj0]
      have e1 : (0 :: L)[j] = k := by rw [HK.out, sq_get j hj0]
      have e2 : link N (0 :: L) k = y + k + 1 := by rw [HK.out, sq_link HE.out.chn j hj0, ← HK.out, ← HX.out]; have := HY.out; omega
      rw [e1, e2]
      exact HL8.out
    case measure =>
     have p1 := sq_pos HE.out.chn j (by have := HM.out; omega)
     have p2 := sq_pos HE.out.chn (j + 1) (by have := HM.out; omega)
     have e3 : (intOf (.int .i64 (y + k + 1))).toNat = sq N L (j + 1) := by
      show (y + k + 1).toNat = _
      rw [← HX.out]; have := HY.out; omega
     have e4 : (intOf (.int .i64 (k : Int))).toNat = sq N L j := by
      show ((k : Int)).toNat = _
      rw [← HK.out]; rfl
     rw [e3, e4, p1, p2]
     omega
   ·have hkb : ((k : Int) == 0) = false := by simp; omega
    have hj1 : j ≠ 0 := fun e => hk0 (by rw [HK.out, e]; rfl)
    rw [if_neg hj1] at HL6
    go_wp2_with fail
    go_roundw
    case rel =>
     refine ⟨j + 1, by omega, ?_, rfl, ?_⟩
     ·rw [← HX.out]; congr 1; have := HY.out; omega
     ·rw [if_neg (by omega), rowTo_succ j hj0]
      have e1 : (0 :: L)[j] = k := by rw [HK.out, sq_get j hj0]
      have e2 : link N (0 :: L) k = y + k + 1 := by rw [HK.out, sq_link HE.out.chn j hj0, ← HK.out, ← HX.out]; have := HY.out; omega
      rw [e1, e2]
      exact HL6.out
    case measure =>
     have p1 := sq_pos HE.out.chn j (by have := HM.out; omega)
     have p2 := sq_pos HE.out.chn (j + 1) (by have := HM.out; omega)
     have e3 : (intOf (.int .i64 (y + k + 1))).toNat = sq N L (j + 1) := by
      show (y + k + 1).toNat = _
      rw [← HX.out]; have := HY.out; omega
     have e4 : (intOf (.int .i64 (k : Int))).toNat = sq N L j := by
      show ((k : Int)).toNat = _
      rw [← HK.out]; rfl
     rw [e3, e4, p1, p2]
     omega
  ·obtain rfl : j = m + 1 := by omega
   have hsl : sq N L (m + 1) = N := by rw [HM.out]; exact sq_last N L
   rw [hsl]
   rw [if_neg (by omega)] at HL
   have hrow := HL.out.row
   rw [HM.out, rowTo_all] at hrow
   have cs0 : wr.cell? ⟨w.heap.size + 3, 0, none⟩ = some (.int .i64 root) := by rw [HL.out.s.cell]; rfl
   have cr0 : wr.cell? ⟨w.heap.size, 0, none⟩ = some (.int .i64 0) := by rw [HL.out.res.cell]; rfl
   have cr1 : wr.cell? ⟨w.heap.size, 1, none⟩ = some (.slice none 0 0) := by rw [HL.out.res.cell]; rfl
   have fr0 := HL.out.res.frozen 0
   have fr1 := HL.out.res.frozen 1
   have hres := (HL.out.res.set 0 (.int .i64 root)).set 1 (.slice (some ⟨w.heap.size + 2, 0, none⟩) N N)
   have hrow2 := (hrow.other ⟨w.heap.size, 0, none⟩ (.int .i64 root) (by simp)).other ⟨w.heap.size, 1, none⟩ (.slice (some ⟨w.heap.size + 2, 0, none⟩) N N) (by simp)
   have hbel := (HL.out.bel.setCell (p := ⟨w.heap.size, 0, none⟩) (Nat.le_refl _) (.int .i64 root)).setCell (p := ⟨w.heap.size, 1, none⟩) (Nat.le_refl _) (.slice (some ⟨w.heap.size + 2, 0, none⟩) N N)
   have HRES := Lib.hid hres
   have HROW := Lib.hid hrow2
   have HBEL := Lib.hid hbel
   clear hrow hres hrow2 hbel hL
   go_wp2_with fail
   rw [Exit.noGoto_ret]
   refine bodyPost_ret (state_results2 rfl _ _ w.heap.size 78 _ _ rfl HRES.out) rfl ?_
   exact ⟨_, rfl, HROW.out, by omega, HBEL.out⟩
end Go.Proofs.YtbpdapcmaioeiaaGreat
namespace Go.Proofs.YtbpdapcmaioeiaaGreat
open Go.RowKit Go.Maps
set_option maxRecDepth 100000
theorem open_good {w : World} {P : Nat → Prop} {r : Nat} {A : Ab} {N : Nat} {L : List Nat} {root : Int} (hd : DkA w P r A) (hsm : Small A 100000) (hs : 403 ≤ A.now.length) (h0 : A.recover.2.1 = 0) (he : Enc A.recover.2.2 N L root) :
 Calls Tryz.prog 10 #[.pointer (some ⟨r, 0, none⟩)] w fun e w' => ∃ p Q P', e = .returned (.tuple #[.pointer (some ⟨p, 0, none⟩), .int .i64 0]) ∧ Pg w' Q r p ⟨root, nextOf N L⟩ none ∧ DkA w' P' r A.recover.2.2 ∧
  Moved P w w' ∧ (∀ k, P' k → (P k ∨ w.heap.size ≤ k) ∧ k < w'.heap.size) ∧ ∀ k, Q k → w.heap.size ≤ k ∧ k < w'.heap.size ∧ ¬ P' k := by
 have hal : Below w.heap.size w (w.alloc (.cells #[.int .i64 0, .slice none 0 0] 78)) := (Below.refl _ w).alloc (Nat.le_refl _) _
 have hnb := Blk.new w #[.int .i64 0, .slice none 0 0] 78
 have hd0 := hd.shrink.below hal
 have hsz : Calls Tryz.prog 33 #[.pointer (some ⟨r, 0, none⟩)] (w.alloc (.cells #[.int .i64 0, .slice none 0 0] 78)) fun e w' => e = .returned (.int .i64 (A.now.length : Int)) ∧ w' = (w.alloc (.cells #[.int .i64 0, .slice none 0 0] 78)) := to_size (DkTo.refl hd0)
 have hrec := drecover_any _ _ r A hd0 hsm
 rw [h0] at hrec
 obtain ⟨n, hn⟩ : ∃ n, n = A.now.length := ⟨_, rfl⟩
 rw [← hn] at hsz hs
 have hs' : ¬ (n : Int) < 403 := by omega
 obtain ⟨x, hx⟩ : ∃ x, x = A.recover.1 := ⟨_, rfl⟩
 obtain ⟨B, hB⟩ : ∃ B, B = A.recover.2.2 := ⟨_, rfl⟩
 rw [← hx, ← hB] at hrec
 rw [← hB] at he ⊢
 have HA := Lib.hid hal
 have HS := Lib.hid hsz
 have HR := Lib.hid hrec
 have HE := Lib.hid he
 have HNB := Lib.hid hnb
 have hlen := nextOf_length N L
 have hmost := he.most
 clear hd hd0 hal hn hs hsz hrec he hnb hx hB h0 hsm
 go_enter Tryz.func10, Tryz.ntmps10
 go_wp2_with fail
 go_step3
 go_wp2_with (first | (refine HS.out.mono ?_; rintro e w' ⟨rfl, he⟩; subst he) | fail)
 refine HR.out.mono ?_
 rintro e w1 ⟨rfl, P1, hd1, hm1, hp1⟩
 have hb1 := HNB.out.moved hm1 (fun h => by omega)
 have c0 : w1.cell? ⟨w.heap.size, 0, none⟩ = some (.int .i64 0) := by rw [hb1.cell]; rfl
 have hl := load_any hd1.shrink HE.out
 have HD1 := Lib.hid hd1.shrink
 have HM1 := Lib.hid hm1
 have HP1 := Lib.hid hp1
 have HB1 := Lib.hid hb1
 clear hd1 hm1 hp1 hb1 HR c0
 go_wp2_with fail
 refine hl.mono ?_
 rintro e w2 ⟨g, rfl, hg, hgg, hb2⟩
 have hb12 := HB1.out.moved (Moved.of_below hb2 (fun _ => False)) (fun h => h)
 have c0 : w2.cell? ⟨w.heap.size, 0, none⟩ = some (.int .i64 0) := by rw [hb12.cell]; rfl
 have c1 : w2.cell? ⟨w.heap.size, 1, none⟩ = some (.slice none 0 0) := by rw [hb12.cell]; rfl
 have f0 := hb12.frozen 0
 have f1 := hb12.frozen 1
 have HG := Lib.hid hg
 have HB2 := Lib.hid hb2
 clear hl hg hb2 hb12
 go_wp2_with fail
 go_step3
 go_wp2
 rw [Exit.noGoto_ret]
 go_ret2
 have hsz1 : w.heap.size + 1 ≤ w1.heap.size := by have := HM1.out.size; simpa using this
 have hq1 : ∀ k, P1 k → (P k ∧ k < w.heap.size) ∨ w.heap.size + 1 ≤ k := fun k hk => (HP1.out k hk).imp_right (fun h => by simpa using h)
 have hm2 : Moved (· = w.heap.size) w2 (((w2.setCell ⟨w.heap.size, 0, none⟩ (.int .i64 root)).setCell ⟨w.heap.size, 1, none⟩ (.slice (some ⟨g, 0, none⟩) N N)).alloc (.cells #[.pointer (some ⟨r, 0, none⟩), .int .i64 root, .slice (some ⟨g, 0, none⟩) N N, .int .i64 0, .slice none 0 0, .map none] 84)) :=
  (((Moved.refl (· = w.heap.size) w2).setCell ⟨w.heap.size, 0, none⟩ _ (.inl rfl)).setCell ⟨w.heap.size, 1, none⟩ _ (.inl rfl)).alloc _
 have hm12 : Moved (· = w.heap.size) w1 (((w2.setCell ⟨w.heap.size, 0, none⟩ (.int .i64 root)).setCell ⟨w.heap.size, 1, none⟩ (.slice (some ⟨g, 0, none⟩) N N)).alloc (.cells #[.pointer (some ⟨r, 0, none⟩), .int .i64 root, .slice (some ⟨g, 0, none⟩) N N, .int .i64 0, .slice none 0 0, .map none] 84)) :=
  (Moved.of_below HB2.out _).trans hm2 (fun _ h => .inl h)
 have hnew := Blk.new ((w2.setCell ⟨w.heap.size, 0, none⟩ (.int .i64 root)).setCell ⟨w.heap.size, 1, none⟩ (.slice (some ⟨g, 0, none⟩) N N)) #[.pointer (some ⟨r, 0, none⟩), .int .i64 root, .slice (some ⟨g, 0, none⟩) N N, .int .i64 0, .slice none 0 0, .map none] 84
 have hsz2 : ((w2.setCell ⟨w.heap.size, 0, none⟩ (.int .i64 root)).setCell ⟨w.heap.size, 1, none⟩ (.slice (some ⟨g, 0, none⟩) N N)).heap.size = w2.heap.size := by simp
 rw [hsz2] at hnew
 have hgl := HG.out.lt
 have h12 := HB2.out.size
 have hwl := hm2.size
 generalize (((w2.setCell ⟨w.heap.size, 0, none⟩ (.int .i64 root)).setCell ⟨w.heap.size, 1, none⟩ (.slice (some ⟨g, 0, none⟩) N N)).alloc (.cells #[.pointer (some ⟨r, 0, none⟩), .int .i64 root, .slice (some ⟨g, 0, none⟩) N N, .int .i64 0, .slice none 0 0, .map none] 84)) = wf at hm2 hm12 hnew hwl ⊢
 have hpl := hnew.lt
 refine ⟨w2.heap.size, fun k => w1.heap.size ≤ k ∧ k < wf.heap.size, fun k => P1 k ∧ k < w1.heap.size, rfl, ?_, ?_, ?_, ?_, ?_⟩
 ·refine ⟨g, N, ⟨by rw [hlen]; exact hnew, ?_, by rw [hlen]; exact Nat.le_refl _, by simp [maxLen]; omega, ⟨by omega, hpl⟩, ⟨hgg, by omega⟩, by omega⟩⟩
  refine ⟨_, HG.out.moved hm2 (by omega), ?_⟩
  rw [List.toList_toArray, List.take_of_length_le (by rw [ints_length]; exact Nat.le_refl _)]
 ·exact HD1.out.moved hm12 (fun k hk e => by rcases hq1 k hk.1 with h | h; omega; omega)
 ·have h1 : Moved P w w1 := ((Moved.refl P w).alloc _).trans HM1.out (fun k hk => .inl hk.1)
  exact h1.trans hm12 (fun k hk => .inr (by omega))
 ·intro k hk
  refine ⟨(hq1 k hk.1).elim (fun h => .inl h.1) (fun h => .inr (by omega)), by omega⟩
 ·intro k hk
  exact ⟨by omega, hk.2, fun h => by omega⟩
end Go.Proofs.YtbpdapcmaioeiaaGreat
