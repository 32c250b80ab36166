/- The pager: stored, bytes, Get. -/
import Derived.Test.YtcnfnpccbnnplaaPgBegin
import Derived.Laws.ResultCell
namespace Go.Proofs.Ytcnfnpccbnnplaa
open Go.RowKit Go.Maps
set_option maxRecDepth 100000

theorem pg_results2 {fn : Func} {p u : Tmp} (h : fn.results = #[.cell p 103, .tmp u]) (tmps : Array Value) (w : World) (g : Nat) (t : TypeId) (l : List UInt8)
    (hp : tmps.getD p undef = .pointer (some ⟨g, 0, none⟩)) (hg : Blk w g (vbs l).toArray t) (hl : l.length = 504) : (results fn tmps).run Try.prog w = .ok (.tuple #[pg l, tmps.getD u undef]) w := by
  rw [results_cell_tmp h, hp]
  have := run_loadVar_row (P := Try.prog) w g t 103 (vbs l).toArray (0, 0) _ hg Try.underlying103 rfl (pg_size hl)
  simp only [asAddr, Sem.run_pure, Result.andThen_ok, this]
  rfl

theorem dread_any {w : World} {P : Nat → Prop} {r : Nat} {A : Ab} (h : DkA w P r A) (i : Int) :
    Calls Try.prog 107 #[.pointer (some ⟨r, 0, none⟩), .int .i64 i] w fun e w' => ∃ v, e = .returned (.tuple #[v, .int .i64 (A.fault i)]) ∧ Bs w' v (A.read i) ∧ Below w.heap.size w w' := by
  refine (to_read i (DkTo.refl h)).mono ?_
  rintro e w' ⟨v, rfl, hv, hb, -⟩
  exact ⟨v, rfl, hv.bs, hb⟩

/-- What 'stored' answers. -/
def storedOf (A : Ab) (k : Nat) : List UInt8 := pageOf (A.read (401 + k))
theorem storedOf_length (A : Ab) (k : Nat) : (storedOf A k).length = 504 := pageOf_length _

theorem stored_any {w : World} {P : Nat → Prop} {r : Nat} {A : Ab} (h : DkA w P r A) (k : Nat) (hk : k ≤ 1000000) :
    Calls Try.prog 76 #[.pointer (some ⟨r, 0, none⟩), .int .i64 k] w fun e w' => e = .returned (.tuple #[pg (storedOf A k), .int .i64 (A.fault (401 + k))]) ∧ Below w.heap.size w w' := by
  have hz := pg_zero
  obtain ⟨Z, hZ⟩ : ∃ Z, Z = (vbs (zeros 504)).toArray := ⟨_, rfl⟩
  rw [← hZ] at hz
  have hal : Below w.heap.size w (w.alloc (.cells Z 103)) := (Below.refl _ w).alloc (Nat.le_refl _) _
  have hb0 : Blk (w.alloc (.cells Z 103)) w.heap.size (vbs (zeros 504)).toArray 103 := by
    rw [hZ]; exact Blk.new w _ _
  have hr := dread_any (h.below hal) (401 + k)
  obtain ⟨F, hF⟩ : ∃ F, F = A.fault (401 + k) := ⟨_, rfl⟩
  obtain ⟨L, hL⟩ : ∃ L, L = A.read (401 + k) := ⟨_, rfl⟩
  have hs : storedOf A k = pageOf L := by rw [hL]; rfl
  rw [hs, ← hF]
  rw [← hF, ← hL] at hr
  have HR := Lib.hid hr
  have HA := Lib.hid hal
  have HB := Lib.hid hb0
  have hpl := pageOf_length L
  clear hs hF hL h hr hal hb0 hZ
  go_enter Try.func76, Try.ntmps76
  go_wp2_with fail
  refine HR.out.mono ?_
  rintro e w1 ⟨v, rfl, hv, hb⟩
  have hp := paged_any v L w1 hv
  have HB1 := Lib.hid hb
  clear hb hv HR
  go_wp2_with fail
  refine hp.mono ?_
  rintro e w2 ⟨rfl, hb⟩
  have HB2 := Lib.hid hb
  have hb2 := (HB.out.moved (Moved.of_below HB1.out (fun _ => False)) (fun h => h)).moved (Moved.of_below HB2.out (fun _ => False)) (fun h => h)
  clear hb hp
  go_wp2_with (first | (with_reducible refine wpList_pstore rfl _ _ rfl w.heap.size (pageOf L) (zeros 504) rfl rfl 103 hb2 (zeros_length _) hpl ?_; intro w3 hb3 hg3) | fail)
  refine bodyPost_ret (pg_results2 rfl _ _ w.heap.size 103 (pageOf L) rfl hb3 hpl) rfl ?_
  have h1 := HA.out.trans (HB1.out.mono HA.out.size)
  have h2 := h1.trans (HB2.out.mono h1.size)
  exact ⟨rfl, h2.grown hg3 h2.size (fun q hq => by have := Option.some.inj hq; omega)⟩

def putAt (T : Option Tx) (i : Int) : Option (List UInt8) := match T with
  | some t => t.f i
  | none => none
/-- The bytes of a page, and the error. -/
def bytesOf (A : Ab) (T : Option Tx) (k : Nat) : List UInt8 × Int := match putAt T k with
  | some l => (l, 0)
  | none => (storedOf A k, A.fault (401 + k))
def AllLong (T : Option Tx) : Prop := ∀ i l, putAt T i = some l → l.length = 504
theorem bytesOf_length {A : Ab} {T : Option Tx} (k : Nat) (h : AllLong T) : (bytesOf A T k).1.length = 504 := by
  unfold bytesOf
  cases hp : putAt T k with
  | none => exact storedOf_length A k
  | some l => exact h _ _ hp

/-- 'b, ok := p.put[at]', whether a transaction is open or not. -/
theorem put_look {w : World} {Q : Nat → Prop} {r p : Nat} {S : Stt} {T : Option Tx} (h : Pg w Q r p S T) (i : Int) (hi : (Lit.int .i64 i).wf = true) :
    ∃ mv, w.cell? ⟨p, 5, none⟩ = some mv ∧ (∃ b, mv = .map b) ∧ ∀ w', Moved (fun _ => False) w w' → (Instr.lookup 84 mv (.int .i64 i) true).run Try.prog w' = .ok (.tuple #[pg ((putAt T i).getD (zeros 504)), .bool (putAt T i).isSome]) w' := by
  obtain ⟨gn, cn, wr, vw, mv, h, hT⟩ := h.cells
  obtain ⟨-, -, -, -, -, c5⟩ := h.cells
  refine ⟨mv, c5, ?_, ?_⟩
  · rcases hT with ⟨rfl, rfl⟩ | ⟨t, b, rfl, rfl, hm⟩
    · exact ⟨_, rfl⟩
    · exact ⟨_, rfl⟩
  · intro w' hm'
    rcases hT with ⟨rfl, rfl⟩ | ⟨t, b, rfl, rfl, hm⟩
    · exact Maps.look_nil true (int_keyed und_pk) und_pm (pg_zero w') (keyOf_int_mk und_pk hi)
    · exact (hm.moved hm' (fun h => h)).look hi

theorem bytes_any {w : World} {P Q : Nat → Prop} {r p : Nat} {A : Ab} {S : Stt} {T : Option Tx} (h : Pg w Q r p S T) (hd : DkA w P r A) (k : Nat) (hk : k ≤ 1000000) (hl : AllLong T) :
    Calls Try.prog 91 #[.pointer (some ⟨p, 0, none⟩), .int .i64 k] w fun e w' => e = .returned (.tuple #[pg (bytesOf A T k).1, .int .i64 (bytesOf A T k).2]) ∧ Below w.heap.size w w' := by
  have hz := pg_zero
  obtain ⟨Z, hZ⟩ : ∃ Z, Z = (vbs (zeros 504)).toArray := ⟨_, rfl⟩
  rw [← hZ] at hz
  have hal : Below w.heap.size w (w.alloc (.cells Z 103)) := (Below.refl _ w).alloc (Nat.le_refl _) _
  have hal2 : Below w.heap.size w ((w.alloc (.cells Z 103)).alloc (.cells Z 103)) := hal.alloc hal.size _
  have hb0 : Blk ((w.alloc (.cells Z 103)).alloc (.cells Z 103)) w.heap.size (vbs (zeros 504)).toArray 103 := by
    rw [hZ]; exact (Blk.new w _ _).alloc _
  have hb1 : Blk ((w.alloc (.cells Z 103)).alloc (.cells Z 103)) (w.heap.size + 1) (vbs (zeros 504)).toArray 103 := by
    rw [hZ]; exact heap_alloc2_new w _ _
  obtain ⟨mv, c5, ⟨mb, rfl⟩, hlook⟩ := put_look h k (WalkArith.wf_i64 (by omega))
  have hlk := hlook _ (Moved.of_below hal _)
  have hbl : ((putAt T k).getD (zeros 504)).length = 504 := by
    cases hp : putAt T k with
    | none => exact zeros_length _
    | some l => exact hl _ _ hp
  have H0 := Lib.hid hb0
  have H1 := Lib.hid hb1
  have HA := Lib.hid hal
  have HA2 := Lib.hid hal2
  have hpl := h.cells
  obtain ⟨gn, cn, wr, vw, mv', hh, -⟩ := hpl
  have HPL := Lib.hid hh.top.lt
  have HD := Lib.hid hd
  obtain ⟨-, -, -, -, -, -⟩ := hh.cells
  have c0 := hh.cells.1
  have c5' : (w.alloc (.cells Z 103)).cell? ⟨p, 5, none⟩ = some (.map mb) := (World.cell?_of_block (a := ⟨p, 5, none⟩) (hal.block p hh.top.lt)).trans c5
  have C0 := Lib.hid c0
  cases hp : putAt T k with
  | some l =>
    have e : bytesOf A T k = (l, 0) := by unfold bytesOf; rw [hp]
    rw [e]
    rw [hp] at hlk hbl
    simp only [Option.getD_some, Option.isSome_some] at hlk hbl
    clear h hd hb0 hb1 hal hal2 hlook hh c5 c0 hp e hZ hl
    go_enter Try.func91, Try.ntmps91
    go_wp2_with (first | (with_reducible refine wpList_pstore rfl _ _ rfl (w.heap.size + 1) l (zeros 504) rfl rfl 103 H1.out (zeros_length _) hbl ?_; intro w3 hb3 hg3; have H03 := Lib.hid (grown_keep hg3 H0.out (fun e => by have := Option.some.inj e; omega))) | (with_reducible refine wpList_pload rfl _ rfl _ rfl 103 l hb3 hbl ?_) | (with_reducible refine wpList_pstore rfl _ _ rfl w.heap.size l (zeros 504) rfl rfl 103 H03.out (zeros_length _) hbl ?_; intro w4 hb4 hg4) | fail)
    refine bodyPost_ret (pg_results2 rfl _ _ w.heap.size 103 l rfl hb4 hbl) rfl ?_
    have h3 := HA2.out.grown hg3 HA2.out.size (fun q hq => by have := Option.some.inj hq; omega)
    exact ⟨rfl, h3.grown hg4 h3.size (fun q hq => by have := Option.some.inj hq; omega)⟩
  | none =>
    have e : bytesOf A T k = (storedOf A k, A.fault (401 + k)) := by unfold bytesOf; rw [hp]
    rw [e]
    obtain ⟨F, hF⟩ : ∃ F, F = A.fault (401 + k) := ⟨_, rfl⟩
    obtain ⟨l, hL⟩ : ∃ l, l = storedOf A k := ⟨_, rfl⟩
    have hll : l.length = 504 := by rw [hL]; exact storedOf_length A k
    rw [← hF, ← hL]
    have HF := Lib.hid hF
    have HL := Lib.hid hL
    clear hF hL
    rw [hp] at hlk hbl
    simp only [Option.getD_none, Option.isSome_none] at hlk hbl
    clear h hd hb0 hb1 hal hal2 hlook hh c5 c0 hp e hZ hl
    go_enter Try.func91, Try.ntmps91
    go_wp2_with (first | (with_reducible refine wpList_pstore rfl _ _ rfl (w.heap.size + 1) (zeros 504) (zeros 504) rfl rfl 103 H1.out (zeros_length _) hbl ?_; intro w3 hb3 hg3; have H03 := Lib.hid (grown_keep hg3 H0.out (fun e => by have := Option.some.inj e; omega)); have c03 := (World.cell?_of_block (a := ⟨p, 0, none⟩) ((HA2.out.grown hg3 HA2.out.size (fun q hq => by have := Option.some.inj hq; omega)).block p HPL.out)).trans C0.out) | fail)
    have h3 := Lib.hid (HA2.out.grown hg3 HA2.out.size (fun q hq => by have := Option.some.inj hq; omega))
    have hst := stored_any (HD.out.below h3.out) k hk
    rw [← HF.out, ← HL.out] at hst
    have H03' := Lib.hid H03.out
    clear hb3
    refine hst.mono ?_
    rintro e w4 ⟨rfl, hb⟩
    have HB4 := Lib.hid hb
    have hb4 := H03'.out.moved (Moved.of_below HB4.out (fun _ => False)) (fun h => h)
    clear hb hst
    go_wp2_with (first | (with_reducible refine wpList_pstore rfl _ _ rfl w.heap.size l (zeros 504) rfl rfl 103 hb4 (zeros_length _) hll ?_; intro w5 hb5 hg5) | fail)
    refine bodyPost_ret (pg_results2 rfl _ _ w.heap.size 103 l rfl hb5 hll) rfl ?_
    have h4 := h3.out.trans (HB4.out.mono h3.out.size)
    exact ⟨rfl, h4.grown hg5 h4.size (fun q hq => by have := Option.some.inj hq; omega)⟩

theorem get_absent {w : World} {Q : Nat → Prop} {r p : Nat} {S : Stt} {T : Option Tx} (h : Pg w Q r p S T) (i : Int) (hb : absentOf S i ≠ 0) :
    Calls Try.prog 60 #[.pointer (some ⟨p, 0, none⟩), .int .i64 i] w fun e w' => e = .returned (.tuple #[.slice none 0 0, .int .i64 1]) ∧ Below w.heap.size w w' := by
  have hz := pg_zero
  obtain ⟨Z, hZ⟩ : ∃ Z, Z = (vbs (zeros 504)).toArray := ⟨_, rfl⟩
  rw [← hZ] at hz
  have hal : Below w.heap.size w (w.alloc (.cells Z 103)) := (Below.refl _ w).alloc (Nat.le_refl _) _
  have ha := absent_any (h.below hal) i
  have e1 : absentOf S i = 1 := by
    unfold absentOf at hb ⊢
    split
    · rename_i h1; exact absurd (if_pos h1) hb
    · rfl
  rw [e1] at ha
  have HA := Lib.hid hal
  have HB := Lib.hid ha
  clear h hb hal e1 hZ ha
  go_enter Try.func60, Try.ntmps60
  go_wp2_with fail
  refine wp_scope_jumps 0 (fun a' w' => ∃ u0 u1 u2 u3 u4 u5 u6 u8 u9 u10 u11 u12 u13 u14 u15 u16 u17 u18 u19 u20 u21 u22 : Value, a' = { tmps := #[u0, u1, u2, u3, u4, u5, u6, .int .i64 1, u8, u9, u10, u11, u12, u13, u14, u15, u16, u17, u18, u19, u20, u21, u22], defers := [] } ∧ w' = w.alloc (.cells Z 103)) (fun _ _ => 0) rfl ?_ ?_
  · go_wp2_with fail
    refine HB.out.mono ?_
    rintro e w' ⟨rfl, he⟩
    subst he
    go_wp2_with fail
    go_step3
    exact ⟨rfl, ⟨_, _, _, _, _, _, _, _, _, _, _, _, _, _, _, _, _, _, _, _, _, _, rfl, rfl⟩⟩
  · rintro a' w' ⟨u0, u1, u2, u3, u4, u5, u6, u8, u9, u10, u11, u12, u13, u14, u15, u16, u17, u18, u19, u20, u21, u22, rfl, rfl⟩
    go_wp2
    simp only [Exit.jump]
    go_ret2
    exact ⟨rfl, HA.out⟩

theorem Blk.bs {w : World} {g : Nat} {l : List UInt8} {t : TypeId} (h : Blk w g (vbs l).toArray t) (hl : l.length ≤ maxLen) : Bs w (.slice (some ⟨g, 0, none⟩) l.length l.length) l := by
  refine ⟨_, l.length, rfl, Nat.le_refl _, hl, (fun e => by cases e), fun ad had j u hu => ?_⟩
  cases had
  rw [Addr.add_lit, Nat.zero_add, h.cell]
  simpa using hu

theorem get_ok {w : World} {P Q : Nat → Prop} {r p : Nat} {A : Ab} {S : Stt} {T : Option Tx} (h : Pg w Q r p S T) (hd : DkA w P r A) (k : Nat) (hk : k ≤ 1000000) (hl : AllLong T) (h0 : absentOf S k = 0) (he : (bytesOf A T k).2 = 0) :
    Calls Try.prog 60 #[.pointer (some ⟨p, 0, none⟩), .int .i64 k] w fun e w' => ∃ v, e = .returned (.tuple #[v, .int .i64 0]) ∧ Bs w' v (bytesOf A T k).1 ∧ (∃ g, v.ownBlock = some g ∧ w.heap.size ≤ g) ∧ Below w.heap.size w w' := by
  have hz := pg_zero
  obtain ⟨Z, hZ⟩ : ∃ Z, Z = (vbs (zeros 504)).toArray := ⟨_, rfl⟩
  rw [← hZ] at hz
  have hal : Below w.heap.size w (w.alloc (.cells Z 103)) := (Below.refl _ w).alloc (Nat.le_refl _) _
  have hb0 : Blk (w.alloc (.cells Z 103)) w.heap.size (vbs (zeros 504)).toArray 103 := by
    rw [hZ]; exact Blk.new w _ _
  have ha := absent_any (h.below hal) k
  rw [h0] at ha
  have hb := bytes_any (h.below hal) (hd.below hal) k hk hl
  rw [he] at hb
  have hll := bytesOf_length (A := A) k hl
  obtain ⟨l, hL⟩ : ∃ l, l = (bytesOf A T k).1 := ⟨_, rfl⟩
  rw [← hL] at hb hll ⊢
  have HA := Lib.hid hal
  have HB := Lib.hid hb
  have HC := Lib.hid ha
  have H0 := Lib.hid hb0
  clear h hd hal hZ ha hb hb0 hl h0 he hL
  go_enter Try.func60, Try.ntmps60
  go_wp2_with fail
  go_step3
  go_wp2_with fail
  refine HC.out.mono ?_
  rintro e w' ⟨rfl, he⟩
  subst he
  go_wp2_with fail
  refine HB.out.mono ?_
  rintro e w2 ⟨rfl, hb⟩
  have HB2 := Lib.hid hb
  have hb2 := H0.out.moved (Moved.of_below HB2.out (fun _ => False)) (fun h => h)
  clear hb HB HC
  go_wp2_with (first | (with_reducible refine wpList_pstore rfl _ _ rfl w.heap.size l (zeros 504) rfl rfl 103 hb2 (zeros_length _) hll ?_; intro w3 hb3 hg3) | fail)
  rw [Exit.noGoto_ret]
  go_ret2
  have h2 := HA.out.trans (HB2.out.mono HA.out.size)
  have hbs := hb3.bs (by rw [hll]; simp [maxLen])
  rw [hll] at hbs
  exact ⟨_, rfl, hbs, ⟨_, rfl, Nat.le_refl _⟩, h2.grown hg3 h2.size (fun q hq => by have := Option.some.inj hq; omega)⟩
end Go.Proofs.Ytcnfnpccbnnplaa
