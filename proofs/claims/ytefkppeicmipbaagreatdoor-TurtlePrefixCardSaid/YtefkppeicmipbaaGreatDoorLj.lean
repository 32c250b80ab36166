/- Signs: tokens, one. -/
import Derived.Test.YtefkppeicmipbaaGreatDoorLi
import Derived.Deep.DeepCutAuto
import Derived.Deep.CutBlock
import Derived.Deep.MidRow
namespace Go.Proofs.YtefkppeicmipbaaGreatDoor
open Go.RowKit Go.Shelf
set_option maxRecDepth 100000
set_option linter.unusedVariables false
set_option linter.unusedSimpArgs false
/-- The signs as they lie in memory. -/
def sigVals : List Value := signs11.map fun y => .string ⟨y.toArray⟩
def SigAt (w : World) : Prop := 0 < w.heap.size ∧ w.rangeAt 0 0 sigVals
theorem SigAt.below {w w' : World} (h : SigAt w) (hb : Below w.heap.size w w') : SigAt w' :=
  ⟨Nat.lt_of_lt_of_le h.1 hb.size, fun j v hj => (hb.cell (p := ⟨0, 0 + j, none⟩) h.1).trans (h.2 j v hj)⟩
theorem sig_load {w : World} (h : SigAt w) : (Instr.loadAt 69 (.pointer (some ⟨0, 0, none⟩))).run Tryz.prog w = .ok (.agg sigVals.toArray) w :=
  run_loadAt_mid w 0 0 69 sigVals _ h.2 Tryz.underlying69 rfl (by kernel_rfl)
theorem head_row (p : UInt8 → Bool) (l : List UInt8) : headIs p l = true ↔ l.takeWhile p ≠ [] := by
  cases l with
  | nil => simp [headIs]
  | cons c r => cases h : p c <;> simp [headIs, h]
theorem pre_two (c d e : UInt8) (r : List UInt8) : Lib.hasPrefix (c :: r) [d, e] = (decide (d = c) && headIs (fun x => x == e) r) := by
  unfold Lib.hasPrefix
  cases r with
  | nil => simp [List.isPrefixOf, headIs]
  | cons x y =>
    simp [List.isPrefixOf, headIs]
    rw [Bool.eq_iff_iff]
    simp
    intro _
    exact eq_comm
theorem pre_head (d : UInt8) (r : List UInt8) : Lib.hasPrefix r [d] = headIs (fun x => x == d) r := by
  cases r with
  | nil => rw [pre_nil]; rfl
  | cons c y =>
    rw [pre_one]
    show (d == c) = (c == d)
    rw [Bool.eq_iff_iff]; simp; exact eq_comm
theorem tok_lt {r : List UInt8} (h : headIs (· == 62) (r.dropWhile refC) = true) : tokenL 60 r = some ((1, r.takeWhile refC), (r.dropWhile refC).drop 1) := by
  unfold tokenL; rw [if_pos ⟨rfl, h⟩]
theorem tok_lt_sign {r : List UInt8} (h : headIs (· == 62) (r.dropWhile refC) = false) : tokenL 60 r = signL (60 :: r) := by
  unfold tokenL; rw [if_neg (fun e => by rw [h] at e; exact absurd e.2 (by decide)), if_neg (by decide), if_neg (fun e => absurd e.1 (by decide)), if_neg (fun e => absurd e.1 (by decide)), if_neg (fun e => absurd e.1 (by decide)), if_neg (by decide), if_neg (by decide)]
theorem tok_text {c : UInt8} {r : List UInt8} (h : c = 34 ∨ c = 39) : tokenL c r = textV c r := by
  unfold tokenL textV; rw [if_neg (fun e => by rcases h with rfl | rfl <;> exact absurd e.1 (by decide)), if_pos h]
theorem tok_blank {r : List UInt8} (h : headIs (· == 58) r = true) (h2 : headIs nameC (r.drop 1) = true) : tokenL 95 r = some ((3, (r.drop 1).takeWhile nameC), (r.drop 1).dropWhile nameC) := by
  unfold tokenL; rw [if_neg (fun e => absurd e.1 (by decide)), if_neg (by decide), if_pos ⟨rfl, h, h2⟩]
theorem tok_blank_sign {r : List UInt8} (h2 : headIs nameC (r.drop 1) = false) : tokenL 95 r = signL (95 :: r) := by
  unfold tokenL; rw [if_neg (fun e => absurd e.1 (by decide)), if_neg (by decide), if_neg (fun e => by rw [h2] at e; exact absurd e.2.2 (by decide)), if_neg (fun e => absurd e.1 (by decide)), if_neg (fun e => absurd e.1 (by decide)), if_neg (by decide), if_neg (by decide)]
theorem tok_var {c : UInt8} {r : List UInt8} (hc : c = 63 ∨ c = 36) (h : headIs letterC r = true) : tokenL c r = some ((4, r.takeWhile nameC), r.dropWhile nameC) := by
  rcases hc with rfl | rfl <;> (unfold tokenL; rw [if_neg (fun e => absurd e.1 (by decide)), if_neg (by decide), if_neg (fun e => absurd e.1 (by decide)), if_pos ⟨by decide, h⟩])
theorem tok_var_sign {c : UInt8} {r : List UInt8} (hc : c = 63 ∨ c = 36) (h : headIs letterC r = false) : tokenL c r = signL (c :: r) := by
  rcases hc with rfl | rfl <;> (unfold tokenL; rw [if_neg (fun e => absurd e.1 (by decide)), if_neg (by decide), if_neg (fun e => absurd e.1 (by decide)), if_neg (fun e => by rw [h] at e; exact absurd e.2 (by decide)), if_neg (fun e => absurd e.1 (by decide)), if_neg (by decide), if_neg (by decide)])
theorem tok_lang {r : List UInt8} (h : headIs smallC r = true) : tokenL 64 r = some ((6, r.takeWhile spokC), r.dropWhile spokC) := by
  unfold tokenL; rw [if_neg (fun e => absurd e.1 (by decide)), if_neg (by decide), if_neg (fun e => absurd e.1 (by decide)), if_neg (fun e => absurd e.1 (by decide)), if_pos ⟨rfl, h⟩]
theorem tok_lang_sign {r : List UInt8} (h : headIs smallC r = false) : tokenL 64 r = signL (64 :: r) := by
  unfold tokenL; rw [if_neg (fun e => absurd e.1 (by decide)), if_neg (by decide), if_neg (fun e => absurd e.1 (by decide)), if_neg (fun e => absurd e.1 (by decide)), if_neg (fun e => by rw [h] at e; exact absurd e.2 (by decide)), if_neg (by decide), if_neg (by decide)]
theorem class_ne : ∀ n, n < 256 → (digitN n = true ∨ letterN n = true) → n ≠ 60 ∧ n ≠ 34 ∧ n ≠ 39 ∧ n ≠ 95 ∧ n ≠ 63 ∧ n ≠ 36 ∧ n ≠ 64 ∧ (letterN n = true → digitN n = false) := by decide
theorem cls {c : UInt8} (h : digitC c = true ∨ letterC c = true) : c ≠ 60 ∧ c ≠ 34 ∧ c ≠ 39 ∧ c ≠ 95 ∧ c ≠ 63 ∧ c ≠ 36 ∧ c ≠ 64 ∧ (letterC c = true → digitC c = false) := by
  obtain ⟨h1, h2, h3, h4, h5, h6, h7, h8⟩ := class_ne c.toNat c.toNat_lt h
  exact ⟨fun e => h1 (by rw [e]; rfl), fun e => h2 (by rw [e]; rfl), fun e => h3 (by rw [e]; rfl), fun e => h4 (by rw [e]; rfl), fun e => h5 (by rw [e]; rfl), fun e => h6 (by rw [e]; rfl), fun e => h7 (by rw [e]; rfl), h8⟩
theorem tok_num {c : UInt8} {r : List UInt8} (h : digitC c = true) : tokenL c r = some ((7, (c :: r).take (numN (c :: r))), (c :: r).drop (numN (c :: r))) := by
  obtain ⟨h1, h2, h3, h4, h5, h6, h7, -⟩ := cls (.inl h)
  unfold tokenL; rw [if_neg (fun e => h1 e.1), if_neg (fun e => e.elim h2 h3), if_neg (fun e => h4 e.1), if_neg (fun e => e.1.elim h5 h6), if_neg (fun e => h7 e.1), if_pos h]
theorem tok_word {c : UInt8} {r : List UInt8} (h : letterC c = true ∨ c = 58) : tokenL c r = some (wordV (c :: r)) := by
  have hh : c ≠ 60 ∧ c ≠ 34 ∧ c ≠ 39 ∧ c ≠ 95 ∧ c ≠ 63 ∧ c ≠ 36 ∧ c ≠ 64 ∧ digitC c = false := by
    rcases h with h | rfl
    · obtain ⟨h1, h2, h3, h4, h5, h6, h7, h8⟩ := cls (.inr h)
      exact ⟨h1, h2, h3, h4, h5, h6, h7, h8 h⟩
    · decide
  obtain ⟨h1, h2, h3, h4, h5, h6, h7, h8⟩ := hh
  unfold tokenL; rw [if_neg (fun e => h1 e.1), if_neg (fun e => e.elim h2 h3), if_neg (fun e => h4 e.1), if_neg (fun e => e.1.elim h5 h6), if_neg (fun e => h7 e.1), if_neg (by rw [h8]; decide), if_pos h]
  unfold wordV
  cases hn : nameN11 (c :: r) with
  | some n => rfl
  | none =>
    rcases h with h | rfl
    · rw [if_pos h]
    · exfalso
      have : (58 :: r : List UInt8).dropWhile dashC = 58 :: r := by rw [List.dropWhile_cons, if_neg (by decide)]
      rw [name_dot this] at hn
      cases hn
theorem tok_sign {c : UInt8} {r : List UInt8} (h1 : c ≠ 60) (h2 : c ≠ 34) (h3 : c ≠ 39) (h4 : ¬ (c = 95 ∧ headIs (· == 58) r = true)) (h5 : c ≠ 63) (h6 : c ≠ 36) (h7 : c ≠ 64) (h8 : digitC c = false) (h9 : letterC c = false) (h10 : c ≠ 58) : tokenL c r = signL (c :: r) := by
  unfold tokenL; rw [if_neg (fun e => h1 e.1), if_neg (fun e => e.elim h2 h3), if_neg (fun e => h4 ⟨e.1, e.2.1⟩), if_neg (fun e => e.1.elim h5 h6), if_neg (fun e => h7 e.1), if_neg (by rw [h8]; decide), if_neg (by rw [h9]; exact fun e => e.elim (by decide) h10)]
theorem sig_get (k : Nat) (hk : k < 26) : ∃ y ∈ signs11, signs11[k]? = some y ∧ sigVals.toArray[k]? = some (.string ⟨y.toArray⟩) := by
  have hl : k < signs11.length := hk
  refine ⟨signs11[k], List.getElem_mem hl, List.getElem?_eq_getElem hl, ?_⟩
  unfold sigVals
  rw [List.getElem?_toArray, List.getElem?_map, List.getElem?_eq_getElem hl]
  rfl
/-- None of the first k signs is at its front. -/
def NoSig (l : List UInt8) (k : Nat) : Prop := signL l = ((signs11.drop k).find? (fun y => Lib.hasPrefix l y)).map fun y => ((9, y), l.drop y.length)
theorem NoSig.none {l : List UInt8} (h : NoSig l 26) : signL l = none := h
theorem NoSig.hit {l : List UInt8} {k : Nat} (h : NoSig l k) {y : List UInt8} (hy : signs11[k]? = some y) (hp : Lib.hasPrefix l y = true) : signL l = some ((9, y), l.drop y.length) := by
  obtain ⟨hk, rfl⟩ := List.getElem?_eq_some_iff.1 hy
  rw [h, List.drop_eq_getElem_cons hk, List.find?_cons, hp]
  rfl
theorem NoSig.next {l : List UInt8} {k : Nat} (h : NoSig l k) {y : List UInt8} (hy : signs11[k]? = some y) (hp : Lib.hasPrefix l y = false) : NoSig l (k + 1) := by
  obtain ⟨hk, rfl⟩ := List.getElem?_eq_some_iff.1 hy
  unfold NoSig at h ⊢
  rw [h, List.drop_eq_getElem_cons hk, List.find?_cons, hp]
theorem pre_take {l y : List UInt8} (h : Lib.hasPrefix l y = true) : l.take y.length = y ∧ y.length ≤ l.length := by
  unfold Lib.hasPrefix at h
  obtain ⟨t, rfl⟩ := List.isPrefixOf_iff_prefix.1 h
  exact ⟨List.take_left, by rw [List.length_append]; omega⟩
theorem sig_index (arr : Array Value) (n : Nat) (hn : n < 26) (v : Value) (h : arr[n]? = some v) (w : World) : (Instr.index 69 (.agg arr) (.int .i64 (n : Int))).run Tryz.prog w = .ok v w := by
  simp [Instr.index, run_underlying Tryz.underlying69, asIntOf, go_sem]
  rw [if_pos hn, h]
  rfl
theorem high_letter : ∀ n, 128 ≤ n → letterN n = false := fun n h => by
  simp [letterN, smallN]
  omega
theorem high_small : ∀ n, 128 ≤ n → smallN n = false := fun n h => by
  simp [smallN]
  omega
theorem tabs_below {w w' : World} (h : Tabs w) (hb : Below w.heap.size w w') : Tabs w' :=
  ⟨fun c hc => (hb.cell (World.block_lt_of_cell? _ _ (h.1 c hc))).trans (h.1 c hc), fun i hi => ⟨(hb.cell (World.block_lt_of_cell? _ _ (h.2 i hi).1)).trans (h.2 i hi).1, (hb.cell (World.block_lt_of_cell? _ _ (h.2 i hi).2)).trans (h.2 i hi).2⟩⟩
theorem row_empty {p : UInt8 → Bool} {l : List UInt8} {f : ByteArray} (h : f = ⟨(l.takeWhile p).toArray⟩) : f.toList.isEmpty = !(headIs p l) := by
  rw [h, Lib.toList_data]
  cases l with
  | nil => rfl
  | cons c r => cases hc : p c <;> simp [headIs, hc]
theorem head_imp {p q : UInt8 → Bool} (hpq : ∀ x, p x = true → q x = true) {l : List UInt8} (h : headIs p l = true) : headIs q l = true := by
  cases l with
  | nil => cases h
  | cons c r => exact hpq c h
theorem ba_eta (a : ByteArray) : a = ⟨a.data.toList.toArray⟩ := ba_extL (by simp)
set_option maxHeartbeats 16000000 in
theorem token11 (s : ByteArray) (c : UInt8) (r : List UInt8) (hl : s.data.toList = c :: r) (hs : s.size ≤ 1000000) (w : World) (hT : Tabs w) (hG : SigAt w) :
    Calls Tryz.prog 14 #[.string s] w (TokTo (tokenL c r) w) := by
  have h0 := size_pos hl
  have hg := get_zero hl h0
  have h0i : (0 : Int) < s.size := by omega
  have h1i : (1 : Int) ≤ s.size := by omega
  obtain ⟨s1, hs1⟩ : ∃ z, s.extract 1 s.size = z := ⟨_, rfl⟩
  have hs1l : s1.data.toList = r := by rw [← hs1, ext_from, hl]; rfl
  have hs1z : s1.size ≤ 1000000 := by rw [← hs1, ByteArray.size_extract]; omega
  have HL := Lib.hid hl
  have HS1 := Lib.hid hs1l
  have hal : Below w.heap.size w (w.alloc (.cells #[.int .i64 0, .string ⟨#[]⟩] 47)) := (Below.refl _ _).alloc (Nat.le_refl _) _
  have hb0 := Blk.new w #[.int .i64 0, .string ⟨#[]⟩] 47
  have HSG := Lib.hid (fun w' (hb : Below w.heap.size w w') => (hG.below hb).2)
  have HTB := Lib.hid hT
  have HPS := Lib.hid (fun y w => spre_any s y w)
  rw [hl] at HPS
  have HZ := Lib.hid (And.intro hs hs1z)
  have HX := Lib.hid (fun k => show (s.extract 0 k).data.toList = (c :: r).take k from by rw [ext_to, hl, List.drop_zero, Nat.sub_zero])
  have HXF := Lib.hid (fun k => show s.extract k s.size = ⟨((c :: r).drop k).toArray⟩ from ba_extL (by rw [ext_from, hl]))
  have HLEN := Lib.hid (show s.size = (c :: r).length from by rw [Lib.size_eq, hl])
  have hc256 := c.toNat_lt
  have hwc : wrap32 ((c.toNat : Nat) : Int) = ((c.toNat : Nat) : Int) := by unfold wrap32; omega
  clear hl hs hs1l hs1z hT hG hc256
  go_enter Tryz.func14, Tryz.ntmps14
  go_wp2_with fail
  generalize World.alloc w _ = w0 at hal hb0 ⊢
  refine wp_scope_jumps 0 (fun a' w' => ∃ (k : Int) (a : ByteArray), ∃ u : Nat → Value, a' = { tmps := #[.string s, u 1, .pointer (some ⟨w.heap.size, 0, none⟩), u 3, u 4, u 5, u 6, u 7, u 8, u 9, u 10, u 11, u 12, u 13, u 14, u 15, u 16, u 17, u 18, u 19, u 20, u 21, u 22, u 23, u 24, u 25, u 26, u 27, u 28, u 29, u 30, u 31, u 32, u 33, u 34, u 35, u 36, u 37, u 38, u 39, u 40, u 41, u 42, u 43, u 44, u 45, u 46, u 47, u 48, u 49, u 50, u 51, u 52, u 53, u 54, u 55, u 56, u 57, u 58, u 59, u 60, u 61, u 62, u 63, u 64, u 65, u 66, u 67, u 68, u 69, u 70, u 71, u 72, u 73, u 74, u 75, u 76, u 77, u 78, u 79, u 80, u 81, u 82, u 83, u 84, u 85, u 86, u 87, u 88, u 89, u 90, u 91, u 92, u 93, u 94, u 95, u 96, u 97, u 98, u 99, u 100, u 101, u 102, u 103, u 104, u 105, u 106, u 107, u 108, u 109, u 110, u 111, u 112, u 113], defers := [] } ∧ Blk w' w.heap.size #[.int .i64 k, .string a] 47 ∧ Below w.heap.size w w' ∧ tokenL c r = signL (c :: r)) (fun _ _ => 0) rfl ?_ ?_
  · skip
    go_upto_block 0 with fail
    simp only [hwc]
    go_cut [3] from 10 to 90 (fun s3 wx => ∃ (k : Int) (a b : ByteArray), s3 = .string b ∧ Blk wx w.heap.size #[.int .i64 k, .string a] 47 ∧ Below w.heap.size w wx ∧ ((a.toList.isEmpty = false ∧ tokenL c r = some ((k, a.data.toList), b.data.toList)) ∨ (a.toList.isEmpty = true ∧ tokenL c r = signL (c :: r))))
    case first =>
      by_cases h60 : c = 60
      · skip
        have hB1 := hb0
        have hbe1 := hal
        clear hb0 hal
        have hb60 : (((c.toNat : Nat) : Int) == 60) = true := by rw [h60]; decide
        have H60 := Lib.hid h60
        clear h60
        have HRW := Lib.hid (fun w => row_ref s1 (Nat.le_trans HZ.out.2 (by decide)) w)
        rw [HS1.out] at HRW
        obtain ⟨f, hf⟩ : ∃ z : ByteArray, z = ⟨(r.takeWhile refC).toArray⟩ := ⟨_, rfl⟩
        obtain ⟨g, hgg⟩ : ∃ z : ByteArray, z = ⟨(r.dropWhile refC).toArray⟩ := ⟨_, rfl⟩
        rw [← hf, ← hgg] at HRW
        have hgl : g.data.toList = r.dropWhile refC := by rw [hgg]
        have HPG := Lib.hid (fun w => spre_any g ⟨#[62]⟩ w)
        rw [hgl] at HPG
        dsimp only at HPG
        rw [pre_head] at HPG
        have HF := Lib.hid (And.intro hf hgl)
        clear hf hgg hgl
        have z0 := hB1.cell 0
        have z1 := hB1.cell 1
        have y0 := hB1.frozen 0
        have y1 := hB1.frozen 1
        simp only [List.getElem?_toArray, List.getElem?_cons_zero, List.getElem?_cons_succ] at z0 z1
        go_wp2_with fail
        replace hB1 := hB1.set 0 (.int .i64 1)
        replace hbe1 := hbe1.setCell (p := ⟨w.heap.size, 0, none⟩) (Nat.le_refl _) (.int .i64 1)
        simp only [List.setIfInBounds_toArray, List.set_cons_zero, List.set_cons_succ] at hB1
        clear z0 z1 y0 y1
        generalize World.setCell w0 _ _ = w9 at hB1 hbe1 ⊢
        refine (HRW.out _).mono ?_
        rintro e w1 ⟨rfl, hbx⟩
        replace hbe1 := hbe1.trans (hbx.mono hbe1.size)
        replace hB1 : Blk w1 w.heap.size _ _ := (hbx.block _ hB1.lt).trans hB1
        clear hbx
        have z0 := hB1.cell 0
        have z1 := hB1.cell 1
        have y0 := hB1.frozen 0
        have y1 := hB1.frozen 1
        simp only [List.getElem?_toArray, List.getElem?_cons_zero, List.getElem?_cons_succ] at z0 z1
        go_wp2_with fail
        replace hB1 := hB1.set 1 (.string f)
        replace hbe1 := hbe1.setCell (p := ⟨w.heap.size, 1, none⟩) (Nat.le_refl _) (.string f)
        simp only [List.setIfInBounds_toArray, List.set_cons_zero, List.set_cons_succ] at hB1
        clear z0 z1 y0 y1
        generalize World.setCell w1 _ _ = w8 at hB1 hbe1 ⊢
        refine (HPG.out _).mono ?_
        rintro e wq ⟨rfl, hw⟩
        obtain rfl := hw.symm
        clear hw
        cases hh : headIs (fun x => x == 62) (r.dropWhile refC) with
        | true =>
          have HOUT := Lib.hid (show tokenL c r = some ((1, r.takeWhile refC), (r.dropWhile refC).drop 1) from by rw [H60.out]; exact tok_lt hh)
          have hg1 : (1 : Int) ≤ g.size := by
            have := HF.out.2
            rw [Lib.size_eq, this]
            cases hd : r.dropWhile refC with
            | nil => rw [hd] at hh; cases hh
            | cons x y => simp; omega
          have hg1n : 1 ≤ g.size := by omega
          obtain ⟨v, hv⟩ : ∃ q, g.extract 1 g.size = q := ⟨_, rfl⟩
          have HV := Lib.hid (show v = ⟨((r.dropWhile refC).drop 1).toArray⟩ from ba_extL (by rw [← hv, ext_from, HF.out.2]))
          clear hh
          have z0 := hB1.cell 0
          have z1 := hB1.cell 1
          have y0 := hB1.frozen 0
          have y1 := hB1.frozen 1
          simp only [List.getElem?_toArray, List.getElem?_cons_zero, List.getElem?_cons_succ] at z0 z1
          go_wp2_with fail
          go_region
          go_wp2_with fail
          have hz := ((hB1).set 0 (.int .i64 1)).set 1 (.string f)
          simp only [List.setIfInBounds_toArray, List.set_cons_zero, List.set_cons_succ] at hz
          have hbz := ((hbe1).setCell (p := ⟨w.heap.size, 0, none⟩) (Nat.le_refl _) (.int .i64 1)).setCell (p := ⟨w.heap.size, 1, none⟩) (Nat.le_refl _) (.string f)
          try simp only [Exit.inBlock, Exit.then, Exit.jump]
          refine bodyPost_ret (results_cell_tmp_row (p := 2) (u := 3) (ty := 47) (by kernel_rfl) _ _ w.heap.size _ _ _ _ rfl hz Tryz.underlying47 rfl (by kernel_rfl)) rfl ?_
          unfold TokTo
          rw [HOUT.out]
          exact ⟨_, _, _, rfl, below_drew hbz, rfl, HF.out.1, HV.out⟩
        | false =>
          have HOUT := Lib.hid (show tokenL c r = signL (c :: r) from by rw [H60.out]; exact tok_lt_sign hh)
          clear hh
          go_wp2_with fail
          refine wp_goto ?_
          exact ⟨rfl, 1, f, ex_u11 _ _ (by kernel_rfl) _ ⟨hB1, hbe1, HOUT.out⟩⟩
      by_cases htx : c = 34 ∨ c = 39
      · skip
        have hB1 := hb0
        have hbe1 := hal
        clear hb0 hal
        have hb60 : (((c.toNat : Nat) : Int) == 60) = false := u8_ne 60 rfl h60
        have HTX := Lib.hid (fun w => text11 s1 c htx HZ.out.2 w)
        rw [HS1.out] at HTX
        have HOUT := Lib.hid (tok_text (r := r) htx)
        have HTQ := Lib.hid htx
        clear htx
        rcases HTQ.out with hx | hx
        · have hb34 : (((c.toNat : Nat) : Int) == 34) = true := by rw [hx]; decide
          clear hx
          go_wp2_with fail
          refine (HTX.out _).mono ?_
          intro e w2 hh
          unfold TokTo at hh
          obtain ⟨k2, a2, b2, rfl, hbx, hq⟩ := hh
          replace hbe1 := hbe1.trans (hbx.mono hbe1.size)
          replace hB1 : Blk w2 w.heap.size _ _ := (hbx.block _ hB1.lt).trans hB1
          clear hbx
          have HQQ := Lib.hid hq
          clear hq
          have z0 := hB1.cell 0
          have z1 := hB1.cell 1
          have y0 := hB1.frozen 0
          have y1 := hB1.frozen 1
          simp only [List.getElem?_toArray, List.getElem?_cons_zero, List.getElem?_cons_succ] at z0 z1
          go_wp2_with fail
          have hz := ((hB1).set 0 (.int .i64 k2)).set 1 (.string a2)
          simp only [List.setIfInBounds_toArray, List.set_cons_zero, List.set_cons_succ] at hz
          have hbz := ((hbe1).setCell (p := ⟨w.heap.size, 0, none⟩) (Nat.le_refl _) (.int .i64 k2)).setCell (p := ⟨w.heap.size, 1, none⟩) (Nat.le_refl _) (.string a2)
          try simp only [Exit.inBlock, Exit.then, Exit.jump]
          refine bodyPost_ret (results_cell_tmp_row (p := 2) (u := 3) (ty := 47) (by kernel_rfl) _ _ w.heap.size _ _ _ _ rfl hz Tryz.underlying47 rfl (by kernel_rfl)) rfl ?_
          unfold TokTo
          rw [HOUT.out]
          exact ⟨_, _, _, rfl, hbz, HQQ.out⟩
        · have hb34 : (((c.toNat : Nat) : Int) == 34) = false := by rw [hx]; decide
          have hb39 : (((c.toNat : Nat) : Int) == 39) = true := by rw [hx]; decide
          clear hx
          go_wp2_with fail
          refine (HTX.out _).mono ?_
          intro e w2 hh
          unfold TokTo at hh
          obtain ⟨k2, a2, b2, rfl, hbx, hq⟩ := hh
          replace hbe1 := hbe1.trans (hbx.mono hbe1.size)
          replace hB1 : Blk w2 w.heap.size _ _ := (hbx.block _ hB1.lt).trans hB1
          clear hbx
          have HQQ := Lib.hid hq
          clear hq
          have z0 := hB1.cell 0
          have z1 := hB1.cell 1
          have y0 := hB1.frozen 0
          have y1 := hB1.frozen 1
          simp only [List.getElem?_toArray, List.getElem?_cons_zero, List.getElem?_cons_succ] at z0 z1
          go_wp2_with fail
          have hz := ((hB1).set 0 (.int .i64 k2)).set 1 (.string a2)
          simp only [List.setIfInBounds_toArray, List.set_cons_zero, List.set_cons_succ] at hz
          have hbz := ((hbe1).setCell (p := ⟨w.heap.size, 0, none⟩) (Nat.le_refl _) (.int .i64 k2)).setCell (p := ⟨w.heap.size, 1, none⟩) (Nat.le_refl _) (.string a2)
          try simp only [Exit.inBlock, Exit.then, Exit.jump]
          refine bodyPost_ret (results_cell_tmp_row (p := 2) (u := 3) (ty := 47) (by kernel_rfl) _ _ w.heap.size _ _ _ _ rfl hz Tryz.underlying47 rfl (by kernel_rfl)) rfl ?_
          unfold TokTo
          rw [HOUT.out]
          exact ⟨_, _, _, rfl, hbz, HQQ.out⟩
      by_cases h95 : c = 95 ∧ headIs (fun x => x == 58) r = true
      · skip
        have hB1 := hb0
        have hbe1 := hal
        clear hb0 hal
        have hb60 : (((c.toNat : Nat) : Int) == 60) = false := u8_ne 60 rfl h60
        have h34 : c ≠ 34 := fun e => htx (.inl e)
        have h39 : c ≠ 39 := fun e => htx (.inr e)
        have hb34 : (((c.toNat : Nat) : Int) == 34) = false := u8_ne 34 rfl h34
        have hb39 : (((c.toNat : Nat) : Int) == 39) = false := u8_ne 39 rfl h39
        have HP2 := Lib.hid (fun w => HPS.out ⟨#[95, 58]⟩ w)
        dsimp only at HP2
        rw [pre_two] at HP2
        have hq2 : (decide ((95 : UInt8) = c) && headIs (fun x => x == 58) r) = true := by rw [h95.1, h95.2]; rfl
        rw [hq2] at HP2
        have H95 := Lib.hid h95
        have hr2 : 2 ≤ s.size := by
          rw [HLEN.out, List.length_cons]
          have := h95.2
          cases r with
          | nil => cases this
          | cons x y => simp
        have hr2i : (2 : Int) ≤ s.size := Int.ofNat_le.2 hr2
        obtain ⟨s2, hs2⟩ : ∃ z, s.extract 2 s.size = z := ⟨_, rfl⟩
        have hs2l : s2.data.toList = r.drop 1 := by rw [← hs2, HXF.out]; rfl
        have hs2z : s2.size ≤ 1000000 := Nat.le_trans (by rw [← hs2, ByteArray.size_extract]; omega : s2.size ≤ s.size) HZ.out.1
        have HRW := Lib.hid (fun w => row_named s2 (Nat.le_trans hs2z (by decide)) w)
        rw [hs2l] at HRW
        obtain ⟨f, hf⟩ : ∃ z : ByteArray, z = ⟨((r.drop 1).takeWhile nameC).toArray⟩ := ⟨_, rfl⟩
        obtain ⟨g, hgg⟩ : ∃ z : ByteArray, z = ⟨((r.drop 1).dropWhile nameC).toArray⟩ := ⟨_, rfl⟩
        rw [← hf, ← hgg] at HRW
        have HF := Lib.hid (And.intro hf hgg)
        clear hf hgg hs2l hs2z h95 hq2 htx h34 h39 h60
        have z0 := hB1.cell 0
        have z1 := hB1.cell 1
        have y0 := hB1.frozen 0
        have y1 := hB1.frozen 1
        simp only [List.getElem?_toArray, List.getElem?_cons_zero, List.getElem?_cons_succ] at z0 z1
        go_wp2_with fail
        refine (HP2.out _).mono ?_
        rintro e wq ⟨rfl, hw⟩
        obtain rfl := hw.symm
        clear hw
        go_wp2_with fail
        replace hB1 := hB1.set 0 (.int .i64 3)
        replace hbe1 := hbe1.setCell (p := ⟨w.heap.size, 0, none⟩) (Nat.le_refl _) (.int .i64 3)
        simp only [List.setIfInBounds_toArray, List.set_cons_zero, List.set_cons_succ] at hB1
        clear z0 z1 y0 y1
        generalize World.setCell w0 _ _ = w9 at hB1 hbe1 ⊢
        refine (HRW.out _).mono ?_
        rintro e w1 ⟨rfl, hbx⟩
        replace hbe1 := hbe1.trans (hbx.mono hbe1.size)
        replace hB1 : Blk w1 w.heap.size _ _ := (hbx.block _ hB1.lt).trans hB1
        clear hbx
        have z0 := hB1.cell 0
        have z1 := hB1.cell 1
        have y0 := hB1.frozen 0
        have y1 := hB1.frozen 1
        simp only [List.getElem?_toArray, List.getElem?_cons_zero, List.getElem?_cons_succ] at z0 z1
        go_wp2_with fail
        replace hB1 := hB1.set 1 (.string f)
        replace hbe1 := hbe1.setCell (p := ⟨w.heap.size, 1, none⟩) (Nat.le_refl _) (.string f)
        simp only [List.setIfInBounds_toArray, List.set_cons_zero, List.set_cons_succ] at hB1
        clear z0 z1 y0 y1
        go_meet
        refine ⟨3, f, g, rfl, hB1, hbe1, ?_⟩
        have hfe : f.toList.isEmpty = !(headIs nameC (r.drop 1)) := row_empty HF.out.1
        cases hh : headIs nameC (r.drop 1) with
        | true => exact .inl ⟨by rw [hfe, hh]; rfl, by rw [H95.out.1, tok_blank H95.out.2 hh, HF.out.1, HF.out.2]⟩
        | false => exact .inr ⟨by rw [hfe, hh]; rfl, by rw [H95.out.1]; exact tok_blank_sign hh⟩
      by_cases h63 : c = 63 ∨ c = 36
      · skip
        have hB1 := hb0
        have hbe1 := hal
        clear hb0 hal
        have hb60 : (((c.toNat : Nat) : Int) == 60) = false := u8_ne 60 rfl h60
        have h34 : c ≠ 34 := fun e => htx (.inl e)
        have h39 : c ≠ 39 := fun e => htx (.inr e)
        have hb34 : (((c.toNat : Nat) : Int) == 34) = false := u8_ne 34 rfl h34
        have hb39 : (((c.toNat : Nat) : Int) == 39) = false := u8_ne 39 rfl h39
        have HP2 := Lib.hid (fun w => HPS.out ⟨#[95, 58]⟩ w)
        dsimp only at HP2
        rw [pre_two] at HP2
        have hq2 : (decide ((95 : UInt8) = c) && headIs (fun x => x == 58) r) = false := by
          rw [Bool.eq_false_iff]
          intro e
          rw [Bool.and_eq_true, decide_eq_true_eq] at e
          exact h95 ⟨e.1.symm, e.2⟩
        rw [hq2] at HP2
        have H95 := Lib.hid h95
        clear h95 hq2
        have HBG := Lib.hid (fun w hT => begun11 _ (enters_of Tryz.func37 (by kernel_rfl) rfl) letterN (fun x w => letter11 x w) high_letter 35 nameC s1 (Nat.le_trans HZ.out.2 (by decide)) (fun w => row_named s1 (Nat.le_trans HZ.out.2 (by decide)) w) w hT)
        rw [HS1.out] at HBG
        have H63 := Lib.hid h63
        clear htx h34 h39 h60 h63
        have z0 := hB1.cell 0
        have z1 := hB1.cell 1
        have y0 := hB1.frozen 0
        have y1 := hB1.frozen 1
        simp only [List.getElem?_toArray, List.getElem?_cons_zero, List.getElem?_cons_succ] at z0 z1
        go_wp2_with fail
        refine (HP2.out _).mono ?_
        rintro e wq ⟨rfl, hw⟩
        obtain rfl := hw.symm
        clear hw
        rcases H63.out with hx | hx
        · have hb63 : (((c.toNat : Nat) : Int) == 63) = true := by rw [hx]; decide
          clear hx
          go_wp2_with fail
          replace hB1 := hB1.set 0 (.int .i64 4)
          replace hbe1 := hbe1.setCell (p := ⟨w.heap.size, 0, none⟩) (Nat.le_refl _) (.int .i64 4)
          simp only [List.setIfInBounds_toArray, List.set_cons_zero, List.set_cons_succ] at hB1
          clear z0 z1 y0 y1
          generalize World.setCell w0 _ _ = w9 at hB1 hbe1 ⊢
          refine (HBG.out _ (tabs_below HTB.out hbe1)).mono ?_
          intro e w1 hh
          unfold BegTo at hh
          obtain ⟨f, g, rfl, hbx, hif⟩ := hh
          replace hbe1 := hbe1.trans (hbx.mono hbe1.size)
          replace hB1 : Blk w1 w.heap.size _ _ := (hbx.block _ hB1.lt).trans hB1
          clear hbx
          have HIF := Lib.hid hif
          clear hif
          have z0 := hB1.cell 0
          have z1 := hB1.cell 1
          have y0 := hB1.frozen 0
          have y1 := hB1.frozen 1
          simp only [List.getElem?_toArray, List.getElem?_cons_zero, List.getElem?_cons_succ] at z0 z1
          go_wp2_with fail
          replace hB1 := hB1.set 1 (.string f)
          replace hbe1 := hbe1.setCell (p := ⟨w.heap.size, 1, none⟩) (Nat.le_refl _) (.string f)
          simp only [List.setIfInBounds_toArray, List.set_cons_zero, List.set_cons_succ] at hB1
          clear z0 z1 y0 y1
          go_meet
          refine ⟨4, f, g, rfl, hB1, hbe1, ?_⟩
          have hif : (if headIs letterC r = true then f = ⟨(r.takeWhile nameC).toArray⟩ ∧ g = ⟨(r.dropWhile nameC).toArray⟩ else f = ⟨#[]⟩) := HIF.out
          cases hh : headIs letterC r with
          | true =>
            rw [if_pos hh] at hif
            have hne : headIs nameC r = true := head_imp (fun x h => by unfold nameC nameN; unfold letterC at h; rw [h]; rfl) hh
            exact .inl ⟨by rw [row_empty hif.1, hne]; rfl, by rw [tok_var H63.out hh, hif.1, hif.2]⟩
          | false =>
            rw [if_neg (by rw [hh]; decide)] at hif
            exact .inr ⟨by rw [hif, Lib.toList_data]; rfl, tok_var_sign H63.out hh⟩
        · have hb63 : (((c.toNat : Nat) : Int) == 63) = false := by rw [hx]; decide
          have hb36 : (((c.toNat : Nat) : Int) == 36) = true := by rw [hx]; decide
          clear hx
          go_wp2_with fail
          replace hB1 := hB1.set 0 (.int .i64 4)
          replace hbe1 := hbe1.setCell (p := ⟨w.heap.size, 0, none⟩) (Nat.le_refl _) (.int .i64 4)
          simp only [List.setIfInBounds_toArray, List.set_cons_zero, List.set_cons_succ] at hB1
          clear z0 z1 y0 y1
          generalize World.setCell w0 _ _ = w9 at hB1 hbe1 ⊢
          refine (HBG.out _ (tabs_below HTB.out hbe1)).mono ?_
          intro e w1 hh
          unfold BegTo at hh
          obtain ⟨f, g, rfl, hbx, hif⟩ := hh
          replace hbe1 := hbe1.trans (hbx.mono hbe1.size)
          replace hB1 : Blk w1 w.heap.size _ _ := (hbx.block _ hB1.lt).trans hB1
          clear hbx
          have HIF := Lib.hid hif
          clear hif
          have z0 := hB1.cell 0
          have z1 := hB1.cell 1
          have y0 := hB1.frozen 0
          have y1 := hB1.frozen 1
          simp only [List.getElem?_toArray, List.getElem?_cons_zero, List.getElem?_cons_succ] at z0 z1
          go_wp2_with fail
          replace hB1 := hB1.set 1 (.string f)
          replace hbe1 := hbe1.setCell (p := ⟨w.heap.size, 1, none⟩) (Nat.le_refl _) (.string f)
          simp only [List.setIfInBounds_toArray, List.set_cons_zero, List.set_cons_succ] at hB1
          clear z0 z1 y0 y1
          go_meet
          refine ⟨4, f, g, rfl, hB1, hbe1, ?_⟩
          have hif : (if headIs letterC r = true then f = ⟨(r.takeWhile nameC).toArray⟩ ∧ g = ⟨(r.dropWhile nameC).toArray⟩ else f = ⟨#[]⟩) := HIF.out
          cases hh : headIs letterC r with
          | true =>
            rw [if_pos hh] at hif
            have hne : headIs nameC r = true := head_imp (fun x h => by unfold nameC nameN; unfold letterC at h; rw [h]; rfl) hh
            exact .inl ⟨by rw [row_empty hif.1, hne]; rfl, by rw [tok_var H63.out hh, hif.1, hif.2]⟩
          | false =>
            rw [if_neg (by rw [hh]; decide)] at hif
            exact .inr ⟨by rw [hif, Lib.toList_data]; rfl, tok_var_sign H63.out hh⟩
      by_cases h64 : c = 64
      · skip
        have hB1 := hb0
        have hbe1 := hal
        clear hb0 hal
        have hb60 : (((c.toNat : Nat) : Int) == 60) = false := u8_ne 60 rfl h60
        have h34 : c ≠ 34 := fun e => htx (.inl e)
        have h39 : c ≠ 39 := fun e => htx (.inr e)
        have hb34 : (((c.toNat : Nat) : Int) == 34) = false := u8_ne 34 rfl h34
        have hb39 : (((c.toNat : Nat) : Int) == 39) = false := u8_ne 39 rfl h39
        have HP2 := Lib.hid (fun w => HPS.out ⟨#[95, 58]⟩ w)
        dsimp only at HP2
        rw [pre_two] at HP2
        have hq2 : (decide ((95 : UInt8) = c) && headIs (fun x => x == 58) r) = false := by
          rw [Bool.eq_false_iff]
          intro e
          rw [Bool.and_eq_true, decide_eq_true_eq] at e
          exact h95 ⟨e.1.symm, e.2⟩
        rw [hq2] at HP2
        have H95 := Lib.hid h95
        clear h95 hq2
        have h63' : c ≠ 63 := fun e => h63 (.inl e)
        have h36 : c ≠ 36 := fun e => h63 (.inr e)
        have hb63 : (((c.toNat : Nat) : Int) == 63) = false := u8_ne 63 rfl h63'
        have hb36 : (((c.toNat : Nat) : Int) == 36) = false := u8_ne 36 rfl h36
        have HBG := Lib.hid (fun w hT => begun11 _ (enters_of Tryz.func38 (by kernel_rfl) rfl) smallN (fun x w => small11 x w) high_small 39 spokC s1 (Nat.le_trans HZ.out.2 (by decide)) (fun w => row_spoken s1 (Nat.le_trans HZ.out.2 (by decide)) w) w hT)
        rw [HS1.out] at HBG
        have H64 := Lib.hid h64
        have hb64 : (((c.toNat : Nat) : Int) == 64) = true := by rw [h64]; decide
        clear htx h34 h39 h60 h63 h63' h36 h64
        have z0 := hB1.cell 0
        have z1 := hB1.cell 1
        have y0 := hB1.frozen 0
        have y1 := hB1.frozen 1
        simp only [List.getElem?_toArray, List.getElem?_cons_zero, List.getElem?_cons_succ] at z0 z1
        go_wp2_with fail
        refine (HP2.out _).mono ?_
        rintro e wq ⟨rfl, hw⟩
        obtain rfl := hw.symm
        clear hw
        go_wp2_with fail
        replace hB1 := hB1.set 0 (.int .i64 6)
        replace hbe1 := hbe1.setCell (p := ⟨w.heap.size, 0, none⟩) (Nat.le_refl _) (.int .i64 6)
        simp only [List.setIfInBounds_toArray, List.set_cons_zero, List.set_cons_succ] at hB1
        clear z0 z1 y0 y1
        generalize World.setCell w0 _ _ = w9 at hB1 hbe1 ⊢
        refine (HBG.out _ (tabs_below HTB.out hbe1)).mono ?_
        intro e w1 hh
        unfold BegTo at hh
        obtain ⟨f, g, rfl, hbx, hif⟩ := hh
        replace hbe1 := hbe1.trans (hbx.mono hbe1.size)
        replace hB1 : Blk w1 w.heap.size _ _ := (hbx.block _ hB1.lt).trans hB1
        clear hbx
        have HIF := Lib.hid hif
        clear hif
        have z0 := hB1.cell 0
        have z1 := hB1.cell 1
        have y0 := hB1.frozen 0
        have y1 := hB1.frozen 1
        simp only [List.getElem?_toArray, List.getElem?_cons_zero, List.getElem?_cons_succ] at z0 z1
        go_wp2_with fail
        replace hB1 := hB1.set 1 (.string f)
        replace hbe1 := hbe1.setCell (p := ⟨w.heap.size, 1, none⟩) (Nat.le_refl _) (.string f)
        simp only [List.setIfInBounds_toArray, List.set_cons_zero, List.set_cons_succ] at hB1
        clear z0 z1 y0 y1
        go_meet
        refine ⟨6, f, g, rfl, hB1, hbe1, ?_⟩
        have hif : (if headIs smallC r = true then f = ⟨(r.takeWhile spokC).toArray⟩ ∧ g = ⟨(r.dropWhile spokC).toArray⟩ else f = ⟨#[]⟩) := HIF.out
        cases hh : headIs smallC r with
        | true =>
          rw [if_pos hh] at hif
          have hne : headIs spokC r = true := head_imp (fun x h => by unfold spokC spokN; unfold smallC at h; rw [h]; rfl) hh
          exact .inl ⟨by rw [row_empty hif.1, hne]; rfl, by rw [H64.out, tok_lang hh, hif.1, hif.2]⟩
        | false =>
          rw [if_neg (by rw [hh]; decide)] at hif
          exact .inr ⟨by rw [hif, Lib.toList_data]; rfl, by rw [H64.out]; exact tok_lang_sign hh⟩
      by_cases hdg : digitC c = true
      · skip
        have hB1 := hb0
        have hbe1 := hal
        clear hb0 hal
        have hb60 : (((c.toNat : Nat) : Int) == 60) = false := u8_ne 60 rfl h60
        have h34 : c ≠ 34 := fun e => htx (.inl e)
        have h39 : c ≠ 39 := fun e => htx (.inr e)
        have hb34 : (((c.toNat : Nat) : Int) == 34) = false := u8_ne 34 rfl h34
        have hb39 : (((c.toNat : Nat) : Int) == 39) = false := u8_ne 39 rfl h39
        have HP2 := Lib.hid (fun w => HPS.out ⟨#[95, 58]⟩ w)
        dsimp only at HP2
        rw [pre_two] at HP2
        have hq2 : (decide ((95 : UInt8) = c) && headIs (fun x => x == 58) r) = false := by
          rw [Bool.eq_false_iff]
          intro e
          rw [Bool.and_eq_true, decide_eq_true_eq] at e
          exact h95 ⟨e.1.symm, e.2⟩
        rw [hq2] at HP2
        have H95 := Lib.hid h95
        clear h95 hq2
        have h63' : c ≠ 63 := fun e => h63 (.inl e)
        have h36 : c ≠ 36 := fun e => h63 (.inr e)
        have hb63 : (((c.toNat : Nat) : Int) == 63) = false := u8_ne 63 rfl h63'
        have hb36 : (((c.toNat : Nat) : Int) == 36) = false := u8_ne 36 rfl h36
        have hb64 : (((c.toNat : Nat) : Int) == 64) = false := u8_ne 64 rfl h64
        have HDG := Lib.hid (fun w => digit11 c.toNat w)
        have HLT := Lib.hid (fun w => letter11 c.toNat w)
        have HD := Lib.hid hdg
        rw [show digitN c.toNat = true from hdg] at HDG
        have HNU := Lib.hid (fun w => number11 s HZ.out.1 w)
        rw [HL.out] at HNU
        obtain ⟨f, hf⟩ : ∃ z : ByteArray, z = ⟨((c :: r).take (numN (c :: r))).toArray⟩ := ⟨_, rfl⟩
        obtain ⟨g, hgg⟩ : ∃ z : ByteArray, z = ⟨((c :: r).drop (numN (c :: r))).toArray⟩ := ⟨_, rfl⟩
        rw [← hf, ← hgg] at HNU
        have HF := Lib.hid (And.intro hf hgg)
        clear hf hgg htx h34 h39 h60 h63 h63' h36 h64 hdg
        have z0 := hB1.cell 0
        have z1 := hB1.cell 1
        have y0 := hB1.frozen 0
        have y1 := hB1.frozen 1
        simp only [List.getElem?_toArray, List.getElem?_cons_zero, List.getElem?_cons_succ] at z0 z1
        go_wp2_with fail
        refine (HP2.out _).mono ?_
        rintro e wq ⟨rfl, hw⟩
        obtain rfl := hw.symm
        clear hw
        go_wp2_with fail
        refine (HDG.out _).mono ?_
        rintro e wq ⟨rfl, hw⟩
        obtain rfl := hw.symm
        clear hw
        go_wp2_with fail
        replace hB1 := hB1.set 0 (.int .i64 7)
        replace hbe1 := hbe1.setCell (p := ⟨w.heap.size, 0, none⟩) (Nat.le_refl _) (.int .i64 7)
        simp only [List.setIfInBounds_toArray, List.set_cons_zero, List.set_cons_succ] at hB1
        clear z0 z1 y0 y1
        generalize World.setCell w0 _ _ = w9 at hB1 hbe1 ⊢
        refine (HNU.out _).mono ?_
        rintro e w1 ⟨rfl, hbx⟩
        replace hbe1 := hbe1.trans (hbx.mono hbe1.size)
        replace hB1 : Blk w1 w.heap.size _ _ := (hbx.block _ hB1.lt).trans hB1
        clear hbx
        have z0 := hB1.cell 0
        have z1 := hB1.cell 1
        have y0 := hB1.frozen 0
        have y1 := hB1.frozen 1
        simp only [List.getElem?_toArray, List.getElem?_cons_zero, List.getElem?_cons_succ] at z0 z1
        go_wp2_with fail
        replace hB1 := hB1.set 1 (.string f)
        replace hbe1 := hbe1.setCell (p := ⟨w.heap.size, 1, none⟩) (Nat.le_refl _) (.string f)
        simp only [List.setIfInBounds_toArray, List.set_cons_zero, List.set_cons_succ] at hB1
        clear z0 z1 y0 y1
        go_meet
        refine ⟨7, f, g, rfl, hB1, hbe1, .inl ⟨?_, by rw [tok_num HD.out, HF.out.1, HF.out.2]⟩⟩
        rw [HF.out.1, Lib.toList_data]
        obtain ⟨n, hn⟩ : ∃ n, numN (c :: r) = n + 1 := ⟨numN (c :: r) - 1, by have := num_pos (r := r) HD.out; omega⟩
        rw [hn]
        rfl
      by_cases hwd : letterC c = true ∨ c = 58
      · skip
        have hB1 := hb0
        have hbe1 := hal
        clear hb0 hal
        have hb60 : (((c.toNat : Nat) : Int) == 60) = false := u8_ne 60 rfl h60
        have h34 : c ≠ 34 := fun e => htx (.inl e)
        have h39 : c ≠ 39 := fun e => htx (.inr e)
        have hb34 : (((c.toNat : Nat) : Int) == 34) = false := u8_ne 34 rfl h34
        have hb39 : (((c.toNat : Nat) : Int) == 39) = false := u8_ne 39 rfl h39
        have HP2 := Lib.hid (fun w => HPS.out ⟨#[95, 58]⟩ w)
        dsimp only at HP2
        rw [pre_two] at HP2
        have hq2 : (decide ((95 : UInt8) = c) && headIs (fun x => x == 58) r) = false := by
          rw [Bool.eq_false_iff]
          intro e
          rw [Bool.and_eq_true, decide_eq_true_eq] at e
          exact h95 ⟨e.1.symm, e.2⟩
        rw [hq2] at HP2
        have H95 := Lib.hid h95
        clear h95 hq2
        have h63' : c ≠ 63 := fun e => h63 (.inl e)
        have h36 : c ≠ 36 := fun e => h63 (.inr e)
        have hb63 : (((c.toNat : Nat) : Int) == 63) = false := u8_ne 63 rfl h63'
        have hb36 : (((c.toNat : Nat) : Int) == 36) = false := u8_ne 36 rfl h36
        have hb64 : (((c.toNat : Nat) : Int) == 64) = false := u8_ne 64 rfl h64
        have HDG := Lib.hid (fun w => digit11 c.toNat w)
        have HLT := Lib.hid (fun w => letter11 c.toNat w)
        have hdg' : digitN c.toNat = false := by
          cases h : digitN c.toNat with
          | false => rfl
          | true => exact absurd h hdg
        rw [hdg'] at HDG
        have HWD := Lib.hid (fun w => word11 s HZ.out.1 w)
        rw [HL.out] at HWD
        have HOUT := Lib.hid (tok_word (r := r) hwd)
        have HW := Lib.hid hwd
        clear htx h34 h39 h60 h63 h63' h36 h64 hdg hdg' hwd
        have z0 := hB1.cell 0
        have z1 := hB1.cell 1
        have y0 := hB1.frozen 0
        have y1 := hB1.frozen 1
        simp only [List.getElem?_toArray, List.getElem?_cons_zero, List.getElem?_cons_succ] at z0 z1
        go_wp2_with fail
        refine (HP2.out _).mono ?_
        rintro e wq ⟨rfl, hw⟩
        obtain rfl := hw.symm
        clear hw
        go_wp2_with fail
        refine (HDG.out _).mono ?_
        rintro e wq ⟨rfl, hw⟩
        obtain rfl := hw.symm
        clear hw
        obtain ⟨lb, hlb⟩ : ∃ x, x = letterN c.toNat := ⟨_, rfl⟩
        rw [← hlb] at HLT
        have HLB := Lib.hid hlb
        clear hlb
        go_wp2_with fail
        refine (HLT.out _).mono ?_
        rintro e wq ⟨rfl, hw⟩
        obtain rfl := hw.symm
        clear hw
        cases lb with
        | true =>
          go_wp2_with fail
          refine (HWD.out _).mono ?_
          intro e w2 hh
          unfold TokTo at hh
          obtain ⟨k2, a2, b2, rfl, hbx, hq⟩ := hh
          replace hbe1 := hbe1.trans (hbx.mono hbe1.size)
          replace hB1 : Blk w2 w.heap.size _ _ := (hbx.block _ hB1.lt).trans hB1
          clear hbx
          have HQQ := Lib.hid hq
          clear hq
          clear z0 z1 y0 y1
          have z0 := hB1.cell 0
          have z1 := hB1.cell 1
          have y0 := hB1.frozen 0
          have y1 := hB1.frozen 1
          simp only [List.getElem?_toArray, List.getElem?_cons_zero, List.getElem?_cons_succ] at z0 z1
          go_wp2_with fail
          have hz := ((hB1).set 0 (.int .i64 k2)).set 1 (.string a2)
          simp only [List.setIfInBounds_toArray, List.set_cons_zero, List.set_cons_succ] at hz
          have hbz := ((hbe1).setCell (p := ⟨w.heap.size, 0, none⟩) (Nat.le_refl _) (.int .i64 k2)).setCell (p := ⟨w.heap.size, 1, none⟩) (Nat.le_refl _) (.string a2)
          try simp only [Exit.inBlock, Exit.then, Exit.jump]
          refine bodyPost_ret (results_cell_tmp_row (p := 2) (u := 3) (ty := 47) (by kernel_rfl) _ _ w.heap.size _ _ _ _ rfl hz Tryz.underlying47 rfl (by kernel_rfl)) rfl ?_
          unfold TokTo
          rw [HOUT.out]
          exact ⟨_, _, _, rfl, hbz, HQQ.out⟩
        | false =>
          have hx : c = 58 := HW.out.resolve_left (fun e => by have := HLB.out; rw [show letterN c.toNat = true from e] at this; cases this)
          have hb58 : (((c.toNat : Nat) : Int) == 58) = true := by rw [hx]; decide
          clear hx
          go_wp2_with fail
          refine (HWD.out _).mono ?_
          intro e w2 hh
          unfold TokTo at hh
          obtain ⟨k2, a2, b2, rfl, hbx, hq⟩ := hh
          replace hbe1 := hbe1.trans (hbx.mono hbe1.size)
          replace hB1 : Blk w2 w.heap.size _ _ := (hbx.block _ hB1.lt).trans hB1
          clear hbx
          have HQQ := Lib.hid hq
          clear hq
          clear z0 z1 y0 y1
          have z0 := hB1.cell 0
          have z1 := hB1.cell 1
          have y0 := hB1.frozen 0
          have y1 := hB1.frozen 1
          simp only [List.getElem?_toArray, List.getElem?_cons_zero, List.getElem?_cons_succ] at z0 z1
          go_wp2_with fail
          have hz := ((hB1).set 0 (.int .i64 k2)).set 1 (.string a2)
          simp only [List.setIfInBounds_toArray, List.set_cons_zero, List.set_cons_succ] at hz
          have hbz := ((hbe1).setCell (p := ⟨w.heap.size, 0, none⟩) (Nat.le_refl _) (.int .i64 k2)).setCell (p := ⟨w.heap.size, 1, none⟩) (Nat.le_refl _) (.string a2)
          try simp only [Exit.inBlock, Exit.then, Exit.jump]
          refine bodyPost_ret (results_cell_tmp_row (p := 2) (u := 3) (ty := 47) (by kernel_rfl) _ _ w.heap.size _ _ _ _ rfl hz Tryz.underlying47 rfl (by kernel_rfl)) rfl ?_
          unfold TokTo
          rw [HOUT.out]
          exact ⟨_, _, _, rfl, hbz, HQQ.out⟩
      · skip
        have hB1 := hb0
        have hbe1 := hal
        clear hb0 hal
        have hb60 : (((c.toNat : Nat) : Int) == 60) = false := u8_ne 60 rfl h60
        have h34 : c ≠ 34 := fun e => htx (.inl e)
        have h39 : c ≠ 39 := fun e => htx (.inr e)
        have hb34 : (((c.toNat : Nat) : Int) == 34) = false := u8_ne 34 rfl h34
        have hb39 : (((c.toNat : Nat) : Int) == 39) = false := u8_ne 39 rfl h39
        have HP2 := Lib.hid (fun w => HPS.out ⟨#[95, 58]⟩ w)
        dsimp only at HP2
        rw [pre_two] at HP2
        have hq2 : (decide ((95 : UInt8) = c) && headIs (fun x => x == 58) r) = false := by
          rw [Bool.eq_false_iff]
          intro e
          rw [Bool.and_eq_true, decide_eq_true_eq] at e
          exact h95 ⟨e.1.symm, e.2⟩
        rw [hq2] at HP2
        have H95 := Lib.hid h95
        clear h95 hq2
        have h63' : c ≠ 63 := fun e => h63 (.inl e)
        have h36 : c ≠ 36 := fun e => h63 (.inr e)
        have hb63 : (((c.toNat : Nat) : Int) == 63) = false := u8_ne 63 rfl h63'
        have hb36 : (((c.toNat : Nat) : Int) == 36) = false := u8_ne 36 rfl h36
        have hb64 : (((c.toNat : Nat) : Int) == 64) = false := u8_ne 64 rfl h64
        have HDG := Lib.hid (fun w => digit11 c.toNat w)
        have HLT := Lib.hid (fun w => letter11 c.toNat w)
        have hdg' : digitN c.toNat = false := by
          cases h : digitN c.toNat with
          | false => rfl
          | true => exact absurd h hdg
        rw [hdg'] at HDG
        have hlt : letterN c.toNat = false := by
          cases h : letterN c.toNat with
          | false => rfl
          | true => exact absurd (.inl h) hwd
        have h58 : c ≠ 58 := fun e => hwd (.inr e)
        rw [hlt] at HLT
        have hb58 : (((c.toNat : Nat) : Int) == 58) = false := u8_ne 58 rfl h58
        have HOUT := Lib.hid (tok_sign h60 h34 h39 H95.out h63' h36 h64 hdg' hlt h58)
        clear htx h34 h39 h60 h63 h63' h36 h64 hdg hdg' hwd hlt h58
        have z0 := hB1.cell 0
        have z1 := hB1.cell 1
        have y0 := hB1.frozen 0
        have y1 := hB1.frozen 1
        simp only [List.getElem?_toArray, List.getElem?_cons_zero, List.getElem?_cons_succ] at z0 z1
        go_wp2_with fail
        refine (HP2.out _).mono ?_
        rintro e wq ⟨rfl, hw⟩
        obtain rfl := hw.symm
        clear hw
        go_wp2_with fail
        refine (HDG.out _).mono ?_
        rintro e wq ⟨rfl, hw⟩
        obtain rfl := hw.symm
        clear hw
        go_wp2_with fail
        refine (HLT.out _).mono ?_
        rintro e wq ⟨rfl, hw⟩
        obtain rfl := hw.symm
        clear hw
        go_wp2_with fail
        go_meet
        exact ⟨0, ⟨#[]⟩, ⟨#[]⟩, rfl, hB1, hbe1, .inr ⟨by rw [Lib.toList_data]; rfl, HOUT.out⟩⟩
    case rest =>
      obtain ⟨k, a, b, rfl, hB, hb, hor⟩ := hcut
      rcases hor with ⟨he, ht⟩ | ⟨he, hsg⟩
      · have HOUT := Lib.hid ht
        clear ht
        have z0 := hB.cell 0
        have z1 := hB.cell 1
        have y0 := hB.frozen 0
        have y1 := hB.frozen 1
        simp only [List.getElem?_toArray, List.getElem?_cons_zero, List.getElem?_cons_succ] at z0 z1
        go_wp2_with fail
        have hz := ((hB).set 0 (.int .i64 k)).set 1 (.string a)
        simp only [List.setIfInBounds_toArray, List.set_cons_zero, List.set_cons_succ] at hz
        have hbz := ((hb).setCell (p := ⟨w.heap.size, 0, none⟩) (Nat.le_refl _) (.int .i64 k)).setCell (p := ⟨w.heap.size, 1, none⟩) (Nat.le_refl _) (.string a)
        try simp only [Exit.inBlock, Exit.then, Exit.jump]
        refine bodyPost_ret (results_cell_tmp_row (p := 2) (u := 3) (ty := 47) (by kernel_rfl) _ _ w.heap.size _ _ _ _ rfl hz Tryz.underlying47 rfl (by kernel_rfl)) rfl ?_
        unfold TokTo
        rw [HOUT.out]
        exact ⟨_, _, _, rfl, hbz, rfl, ba_eta a, ba_eta b⟩
      · skip
        have z0 := hB.cell 0
        have z1 := hB.cell 1
        have y0 := hB.frozen 0
        have y1 := hB.frozen 1
        simp only [List.getElem?_toArray, List.getElem?_cons_zero, List.getElem?_cons_succ] at z0 z1
        go_wp2_with fail
        clear z0 z1 y0 y1
        refine wp_label ?_
        have HSGN := Lib.hid hsg
        have HLD := Lib.hid (HSG.out _ hb)
        have z0 := hB.cell 0
        have z1 := hB.cell 1
        have y0 := hB.frozen 0
        have y1 := hB.frozen 1
        simp only [List.getElem?_toArray, List.getElem?_cons_zero, List.getElem?_cons_succ] at z0 z1
        clear hsg
        go_wp2_with (refine wpList_load_mid rfl 69 (.global 0) rfl 0 0 rfl sigVals _ HLD.out Tryz.underlying69 rfl (by kernel_rfl) ?_)
        go_loopw [6, 97] (fun _ i wy => ∃ n : Nat, n ≤ 26 ∧ i = .int .i64 n ∧ NoSig (c :: r) n ∧ wy = wc) (fun _ i _ => 26 - (intOf i).toNat)
        case atStart => exact ⟨0, by omega, rfl, rfl, rfl⟩
        case round =>
          obtain ⟨n, hn, rfl, hno, rfl⟩ := hrel
          have HNO := Lib.hid hno
          clear hno
          by_cases hlt : (n : Int) < 26
          · obtain ⟨y, hm, hy1, hy2⟩ := sig_get n (by omega)
            have HY1 := Lib.hid hy1
            have HM := Lib.hid hm
            obtain ⟨yb, hyb⟩ : ∃ q : ByteArray, q = ⟨y.toArray⟩ := ⟨_, rfl⟩
            rw [← hyb] at hy2
            have hix := fun w => sig_index sigVals.toArray n (by omega) _ hy2 w
            have hybl : yb.data.toList = y := by rw [hyb]
            have hybz : yb.size = y.length := by rw [Lib.size_eq, hybl]
            have HP := Lib.hid (fun w => HPS.out yb w)
            rw [hybl] at HP
            have hn0 : (0 : Int) ≤ n := by omega
            clear hyb hm hy1 hy2
            cases hp : Lib.hasPrefix (c :: r) y with
            | true =>
              rw [hp] at HP
              have HPT := Lib.hid (pre_take hp)
              have HOUT := Lib.hid (HSGN.out.trans (HNO.out.hit HY1.out hp))
              have hyz : yb.size ≤ s.size := by rw [hybz, HLEN.out]; exact HPT.out.2
              have hyi : (yb.size : Int) ≤ s.size := Int.ofNat_le.2 hyz
              obtain ⟨u, hu⟩ : ∃ q, s.extract 0 yb.size = q := ⟨_, rfl⟩
              obtain ⟨v, hv⟩ : ∃ q, s.extract yb.size s.size = q := ⟨_, rfl⟩
              have HUV := Lib.hid (show u = ⟨y.toArray⟩ ∧ v = ⟨((c :: r).drop y.length).toArray⟩ from ⟨ba_extL (by rw [← hu, HX.out, hybz, HPT.out.1]), by rw [← hv, HXF.out, hybz]⟩)
              clear hp hybl hybz hyz
              go_wp2_with fail
              refine (HP.out _).mono ?_
              rintro e w2 ⟨rfl, hw⟩
              obtain rfl := hw.symm
              clear hw
              go_wp2_with fail
              refine wp_region_any (by kernel_rfl) ?_
              change wpAny _ _ _ _ _ _ _ (World.drew _)
              refine wpAny_of_held (S := fun (_ : World) => True) _ _ _ _ ?_
              have hS : (fun (_ : World) => True) (World.drew wr) := trivial
              refine wpAnyH_take (i := 0) (oi := ⟨some 103, _, _, _, _, _⟩) (v := ?_) rfl (by kernel_rfl) (by kernel_rfl) (by kernel_rfl) (fun _ _ _ h => h) (Or.inl ⟨by simp only [Region.wanted], ?_⟩) hS ?_
              rotate_left
              · intro wz hSw
                clear hSw
                go_simp
                first | done | with_reducible rfl
              try simp only [Act.put, List.setIfInBounds_toArray, List.set_cons_zero, List.set_cons_succ]
              refine wpAnyH_take (i := 1) (oi := ⟨some 104, _, _, _, _, _⟩) (v := ?_) rfl (by kernel_rfl) (by kernel_rfl) (by kernel_rfl) (fun _ _ _ h => h) (Or.inl ⟨by simp only [Region.wanted], ?_⟩) hS ?_
              rotate_left
              · intro wz hSw
                clear hSw
                go_simp
                first | done | with_reducible rfl
              try simp only [Act.put, List.setIfInBounds_toArray, List.set_cons_zero, List.set_cons_succ]
              refine wpAnyH_take (i := 2) (oi := ⟨some 105, _, _, _, _, _⟩) (v := ?_) rfl (by kernel_rfl) (by kernel_rfl) (by kernel_rfl) (fun _ _ _ h => h) (Or.inl ⟨by simp only [Region.wanted], ?_⟩) hS ?_
              rotate_left
              · intro wz hSw
                clear hSw
                go_simp
                first | done | with_reducible rfl
              try simp only [Act.put, List.setIfInBounds_toArray, List.set_cons_zero, List.set_cons_succ]
              refine wpAnyH_take (i := 3) (oi := ⟨some 106, _, _, _, _, _⟩) (v := ?_) rfl (by kernel_rfl) (by kernel_rfl) (by kernel_rfl) (fun _ _ _ h => h) (Or.inl ⟨by simp only [Region.wanted], ?_⟩) hS ?_
              rotate_left
              · intro wz hSw
                clear hSw
                go_simp
                first | done | with_reducible rfl
              try simp only [Act.put, List.setIfInBounds_toArray, List.set_cons_zero, List.set_cons_succ]
              refine wpAnyH_take (i := 4) (oi := ⟨some 107, _, _, _, _, _⟩) (v := ?_) rfl (by kernel_rfl) (by kernel_rfl) (by kernel_rfl) (fun _ _ _ h => h) (Or.inl ⟨by simp only [Region.wanted], ?_⟩) hS ?_
              rotate_left
              · intro wz hSw
                clear hSw
                go_simp
                first | done | with_reducible rfl
              try simp only [Act.put, List.setIfInBounds_toArray, List.set_cons_zero, List.set_cons_succ]
              refine wpAnyH_take (i := 5) (oi := ⟨some 108, _, _, _, _, _⟩) (v := ?_) rfl (by kernel_rfl) (by kernel_rfl) (by kernel_rfl) (fun _ _ _ h => h) (Or.inl ⟨by simp only [Region.wanted], ?_⟩) hS ?_
              rotate_left
              · intro wz hSw
                clear hSw
                go_simp
                first | done | with_reducible rfl
              try simp only [Act.put, List.setIfInBounds_toArray, List.set_cons_zero, List.set_cons_succ]
              refine wpAnyH_take (i := 6) (oi := ⟨some 109, _, _, _, _, _⟩) (v := ?_) rfl (by kernel_rfl) (by kernel_rfl) (by kernel_rfl) (fun _ _ _ h => h) (Or.inl ⟨by simp only [Region.wanted], ?_⟩) hS ?_
              rotate_left
              · intro wz hSw
                clear hSw
                go_simp
                first | done | with_reducible rfl
              try simp only [Act.put, List.setIfInBounds_toArray, List.set_cons_zero, List.set_cons_succ]
              refine wpAnyH_take (i := 7) (oi := ⟨some 110, _, _, _, _, _⟩) (v := ?_) rfl (by kernel_rfl) (by kernel_rfl) (by kernel_rfl) (fun _ _ _ h => h) (Or.inl ⟨by simp only [Region.wanted], ?_⟩) hS ?_
              rotate_left
              · intro wz hSw
                clear hSw
                go_simp
                first | done | with_reducible rfl
              try simp only [Act.put, List.setIfInBounds_toArray, List.set_cons_zero, List.set_cons_succ]
              refine wpAnyH_take (i := 8) (oi := ⟨some 111, _, _, _, _, _⟩) (v := ?_) rfl (by kernel_rfl) (by kernel_rfl) (by kernel_rfl) (fun _ _ _ h => h) (Or.inl ⟨by simp only [Region.wanted], ?_⟩) hS ?_
              rotate_left
              · intro wz hSw
                clear hSw
                go_simp
                first | done | with_reducible rfl
              try simp only [Act.put, List.setIfInBounds_toArray, List.set_cons_zero, List.set_cons_succ]
              refine wpAnyH_ready (rs := [9]) (by kernel_rfl) (by simp) ?_
              refine AllReadyH.cons (o := ⟨none, _, _, _, _, _⟩) rfl (fun K hK => ?_) AllReadyH.nil
              go_simp
              refine hK.out _ _ (trivial) (fun hS => ?_)
              clear hK K
              try simp only [Act.put, List.setIfInBounds_toArray, List.set_cons_zero, List.set_cons_succ]
              refine wpAnyH_take (i := 10) (oi := ⟨some 3, _, _, _, _, _⟩) (v := ?_) rfl (by kernel_rfl) (by kernel_rfl) (by kernel_rfl) (fun _ _ _ h => h) (Or.inl ⟨by simp only [Region.wanted], ?_⟩) hS ?_
              rotate_left
              · intro wz hSw
                clear hSw
                go_simp
                first | done | with_reducible rfl
              try simp only [Act.put, List.setIfInBounds_toArray, List.set_cons_zero, List.set_cons_succ]
              refine wpAnyH_done (by kernel_rfl) ?_ _
              go_wp2_with fail
              have hz := ((hB).set 0 (.int .i64 9)).set 1 (.string u)
              simp only [List.setIfInBounds_toArray, List.set_cons_zero, List.set_cons_succ] at hz
              have hbz := ((hb).setCell (p := ⟨w.heap.size, 0, none⟩) (Nat.le_refl _) (.int .i64 9)).setCell (p := ⟨w.heap.size, 1, none⟩) (Nat.le_refl _) (.string u)
              try simp only [Exit.inBlock, Exit.then, Exit.jump]
              refine bodyPost_ret (results_cell_tmp_row (p := 2) (u := 3) (ty := 47) (by kernel_rfl) _ _ w.heap.size _ _ _ _ rfl hz Tryz.underlying47 rfl (by kernel_rfl)) rfl ?_
              unfold TokTo
              rw [HOUT.out]
              exact ⟨_, _, _, rfl, below_drew hbz, rfl, HUV.out.1, HUV.out.2⟩
            | false =>
              rw [hp] at HP
              have HNX := Lib.hid (HNO.out.next HY1.out hp)
              clear hp hybl hybz
              go_wp2_with fail
              refine (HP.out _).mono ?_
              rintro e w2 ⟨rfl, hw⟩
              obtain rfl := hw.symm
              clear hw
              go_wp2_with fail
              go_roundw
              case rel => exact ⟨n + 1, by omega, by go_num, HNX.out, by first | rfl | trivial⟩
              case measure => simp [intOf]; omega
          · have hn26 : n = 26 := by omega
            have HOUT := Lib.hid (HSGN.out.trans (NoSig.none (by have := HNO.out; rw [hn26] at this; exact this)))
            clear hn26
            go_wp2_with fail
            have hz := ((hB).set 0 (.int .i64 0)).set 1 (.string ⟨#[]⟩)
            simp only [List.setIfInBounds_toArray, List.set_cons_zero, List.set_cons_succ] at hz
            have hbz := ((hb).setCell (p := ⟨w.heap.size, 0, none⟩) (Nat.le_refl _) (.int .i64 0)).setCell (p := ⟨w.heap.size, 1, none⟩) (Nat.le_refl _) (.string ⟨#[]⟩)
            try simp only [Exit.inBlock, Exit.then, Exit.jump]
            refine bodyPost_ret (results_cell_tmp_row (p := 2) (u := 3) (ty := 47) (by kernel_rfl) _ _ w.heap.size _ _ _ _ rfl hz Tryz.underlying47 rfl (by kernel_rfl)) rfl ?_
            unfold TokTo
            rw [HOUT.out]
            exact ⟨_, _, _, rfl, hbz, rfl⟩
  · rintro a' wr ⟨k, a, u0, rfl, hB, hb, hsg⟩
    have HSGN := Lib.hid hsg
    have HLD := Lib.hid (HSG.out _ hb)
    have z0 := hB.cell 0
    have z1 := hB.cell 1
    have y0 := hB.frozen 0
    have y1 := hB.frozen 1
    simp only [List.getElem?_toArray, List.getElem?_cons_zero, List.getElem?_cons_succ] at z0 z1
    clear hsg
    go_wp2_with (refine wpList_load_mid rfl 69 (.global 0) rfl 0 0 rfl sigVals _ HLD.out Tryz.underlying69 rfl (by kernel_rfl) ?_)
    go_loopw [6, 97] (fun _ i wy => ∃ n : Nat, n ≤ 26 ∧ i = .int .i64 n ∧ NoSig (c :: r) n ∧ wy = wr) (fun _ i _ => 26 - (intOf i).toNat)
    case atStart => exact ⟨0, by omega, rfl, rfl, rfl⟩
    case round =>
      obtain ⟨n, hn, rfl, hno, rfl⟩ := hrel
      have HNO := Lib.hid hno
      clear hno
      by_cases hlt : (n : Int) < 26
      · obtain ⟨y, hm, hy1, hy2⟩ := sig_get n (by omega)
        have HY1 := Lib.hid hy1
        have HM := Lib.hid hm
        obtain ⟨yb, hyb⟩ : ∃ q : ByteArray, q = ⟨y.toArray⟩ := ⟨_, rfl⟩
        rw [← hyb] at hy2
        have hix := fun w => sig_index sigVals.toArray n (by omega) _ hy2 w
        have hybl : yb.data.toList = y := by rw [hyb]
        have hybz : yb.size = y.length := by rw [Lib.size_eq, hybl]
        have HP := Lib.hid (fun w => HPS.out yb w)
        rw [hybl] at HP
        have hn0 : (0 : Int) ≤ n := by omega
        clear hyb hm hy1 hy2
        cases hp : Lib.hasPrefix (c :: r) y with
        | true =>
          rw [hp] at HP
          have HPT := Lib.hid (pre_take hp)
          have HOUT := Lib.hid (HSGN.out.trans (HNO.out.hit HY1.out hp))
          have hyz : yb.size ≤ s.size := by rw [hybz, HLEN.out]; exact HPT.out.2
          have hyi : (yb.size : Int) ≤ s.size := Int.ofNat_le.2 hyz
          obtain ⟨u, hu⟩ : ∃ q, s.extract 0 yb.size = q := ⟨_, rfl⟩
          obtain ⟨v, hv⟩ : ∃ q, s.extract yb.size s.size = q := ⟨_, rfl⟩
          have HUV := Lib.hid (show u = ⟨y.toArray⟩ ∧ v = ⟨((c :: r).drop y.length).toArray⟩ from ⟨ba_extL (by rw [← hu, HX.out, hybz, HPT.out.1]), by rw [← hv, HXF.out, hybz]⟩)
          clear hp hybl hybz hyz
          go_wp2_with fail
          refine (HP.out _).mono ?_
          rintro e w2 ⟨rfl, hw⟩
          obtain rfl := hw.symm
          clear hw
          go_wp2_with fail
          refine wp_region_any (by kernel_rfl) ?_
          change wpAny _ _ _ _ _ _ _ (World.drew _)
          refine wpAny_of_held (S := fun (_ : World) => True) _ _ _ _ ?_
          have hS : (fun (_ : World) => True) (World.drew wr) := trivial
          refine wpAnyH_take (i := 0) (oi := ⟨some 103, _, _, _, _, _⟩) (v := ?_) rfl (by kernel_rfl) (by kernel_rfl) (by kernel_rfl) (fun _ _ _ h => h) (Or.inl ⟨by simp only [Region.wanted], ?_⟩) hS ?_
          rotate_left
          · intro wz hSw
            clear hSw
            go_simp
            first | done | with_reducible rfl
          try simp only [Act.put, List.setIfInBounds_toArray, List.set_cons_zero, List.set_cons_succ]
          refine wpAnyH_take (i := 1) (oi := ⟨some 104, _, _, _, _, _⟩) (v := ?_) rfl (by kernel_rfl) (by kernel_rfl) (by kernel_rfl) (fun _ _ _ h => h) (Or.inl ⟨by simp only [Region.wanted], ?_⟩) hS ?_
          rotate_left
          · intro wz hSw
            clear hSw
            go_simp
            first | done | with_reducible rfl
          try simp only [Act.put, List.setIfInBounds_toArray, List.set_cons_zero, List.set_cons_succ]
          refine wpAnyH_take (i := 2) (oi := ⟨some 105, _, _, _, _, _⟩) (v := ?_) rfl (by kernel_rfl) (by kernel_rfl) (by kernel_rfl) (fun _ _ _ h => h) (Or.inl ⟨by simp only [Region.wanted], ?_⟩) hS ?_
          rotate_left
          · intro wz hSw
            clear hSw
            go_simp
            first | done | with_reducible rfl
          try simp only [Act.put, List.setIfInBounds_toArray, List.set_cons_zero, List.set_cons_succ]
          refine wpAnyH_take (i := 3) (oi := ⟨some 106, _, _, _, _, _⟩) (v := ?_) rfl (by kernel_rfl) (by kernel_rfl) (by kernel_rfl) (fun _ _ _ h => h) (Or.inl ⟨by simp only [Region.wanted], ?_⟩) hS ?_
          rotate_left
          · intro wz hSw
            clear hSw
            go_simp
            first | done | with_reducible rfl
          try simp only [Act.put, List.setIfInBounds_toArray, List.set_cons_zero, List.set_cons_succ]
          refine wpAnyH_take (i := 4) (oi := ⟨some 107, _, _, _, _, _⟩) (v := ?_) rfl (by kernel_rfl) (by kernel_rfl) (by kernel_rfl) (fun _ _ _ h => h) (Or.inl ⟨by simp only [Region.wanted], ?_⟩) hS ?_
          rotate_left
          · intro wz hSw
            clear hSw
            go_simp
            first | done | with_reducible rfl
          try simp only [Act.put, List.setIfInBounds_toArray, List.set_cons_zero, List.set_cons_succ]
          refine wpAnyH_take (i := 5) (oi := ⟨some 108, _, _, _, _, _⟩) (v := ?_) rfl (by kernel_rfl) (by kernel_rfl) (by kernel_rfl) (fun _ _ _ h => h) (Or.inl ⟨by simp only [Region.wanted], ?_⟩) hS ?_
          rotate_left
          · intro wz hSw
            clear hSw
            go_simp
            first | done | with_reducible rfl
          try simp only [Act.put, List.setIfInBounds_toArray, List.set_cons_zero, List.set_cons_succ]
          refine wpAnyH_take (i := 6) (oi := ⟨some 109, _, _, _, _, _⟩) (v := ?_) rfl (by kernel_rfl) (by kernel_rfl) (by kernel_rfl) (fun _ _ _ h => h) (Or.inl ⟨by simp only [Region.wanted], ?_⟩) hS ?_
          rotate_left
          · intro wz hSw
            clear hSw
            go_simp
            first | done | with_reducible rfl
          try simp only [Act.put, List.setIfInBounds_toArray, List.set_cons_zero, List.set_cons_succ]
          refine wpAnyH_take (i := 7) (oi := ⟨some 110, _, _, _, _, _⟩) (v := ?_) rfl (by kernel_rfl) (by kernel_rfl) (by kernel_rfl) (fun _ _ _ h => h) (Or.inl ⟨by simp only [Region.wanted], ?_⟩) hS ?_
          rotate_left
          · intro wz hSw
            clear hSw
            go_simp
            first | done | with_reducible rfl
          try simp only [Act.put, List.setIfInBounds_toArray, List.set_cons_zero, List.set_cons_succ]
          refine wpAnyH_take (i := 8) (oi := ⟨some 111, _, _, _, _, _⟩) (v := ?_) rfl (by kernel_rfl) (by kernel_rfl) (by kernel_rfl) (fun _ _ _ h => h) (Or.inl ⟨by simp only [Region.wanted], ?_⟩) hS ?_
          rotate_left
          · intro wz hSw
            clear hSw
            go_simp
            first | done | with_reducible rfl
          try simp only [Act.put, List.setIfInBounds_toArray, List.set_cons_zero, List.set_cons_succ]
          refine wpAnyH_ready (rs := [9]) (by kernel_rfl) (by simp) ?_
          refine AllReadyH.cons (o := ⟨none, _, _, _, _, _⟩) rfl (fun K hK => ?_) AllReadyH.nil
          go_simp
          refine hK.out _ _ (trivial) (fun hS => ?_)
          clear hK K
          try simp only [Act.put, List.setIfInBounds_toArray, List.set_cons_zero, List.set_cons_succ]
          refine wpAnyH_take (i := 10) (oi := ⟨some 3, _, _, _, _, _⟩) (v := ?_) rfl (by kernel_rfl) (by kernel_rfl) (by kernel_rfl) (fun _ _ _ h => h) (Or.inl ⟨by simp only [Region.wanted], ?_⟩) hS ?_
          rotate_left
          · intro wz hSw
            clear hSw
            go_simp
            first | done | with_reducible rfl
          try simp only [Act.put, List.setIfInBounds_toArray, List.set_cons_zero, List.set_cons_succ]
          refine wpAnyH_done (by kernel_rfl) ?_ _
          go_wp2_with fail
          have hz := ((hB).set 0 (.int .i64 9)).set 1 (.string u)
          simp only [List.setIfInBounds_toArray, List.set_cons_zero, List.set_cons_succ] at hz
          have hbz := ((hb).setCell (p := ⟨w.heap.size, 0, none⟩) (Nat.le_refl _) (.int .i64 9)).setCell (p := ⟨w.heap.size, 1, none⟩) (Nat.le_refl _) (.string u)
          try simp only [Exit.inBlock, Exit.then, Exit.jump]
          refine bodyPost_ret (results_cell_tmp_row (p := 2) (u := 3) (ty := 47) (by kernel_rfl) _ _ w.heap.size _ _ _ _ rfl hz Tryz.underlying47 rfl (by kernel_rfl)) rfl ?_
          unfold TokTo
          rw [HOUT.out]
          exact ⟨_, _, _, rfl, below_drew hbz, rfl, HUV.out.1, HUV.out.2⟩
        | false =>
          rw [hp] at HP
          have HNX := Lib.hid (HNO.out.next HY1.out hp)
          clear hp hybl hybz
          go_wp2_with fail
          refine (HP.out _).mono ?_
          rintro e w2 ⟨rfl, hw⟩
          obtain rfl := hw.symm
          clear hw
          go_wp2_with fail
          go_roundw
          case rel => exact ⟨n + 1, by omega, by go_num, HNX.out, by first | rfl | trivial⟩
          case measure => simp [intOf]; omega
      · have hn26 : n = 26 := by omega
        have HOUT := Lib.hid (HSGN.out.trans (NoSig.none (by have := HNO.out; rw [hn26] at this; exact this)))
        clear hn26
        go_wp2_with fail
        have hz := ((hB).set 0 (.int .i64 0)).set 1 (.string ⟨#[]⟩)
        simp only [List.setIfInBounds_toArray, List.set_cons_zero, List.set_cons_succ] at hz
        have hbz := ((hb).setCell (p := ⟨w.heap.size, 0, none⟩) (Nat.le_refl _) (.int .i64 0)).setCell (p := ⟨w.heap.size, 1, none⟩) (Nat.le_refl _) (.string ⟨#[]⟩)
        try simp only [Exit.inBlock, Exit.then, Exit.jump]
        refine bodyPost_ret (results_cell_tmp_row (p := 2) (u := 3) (ty := 47) (by kernel_rfl) _ _ w.heap.size _ _ _ _ rfl hz Tryz.underlying47 rfl (by kernel_rfl)) rfl ?_
        unfold TokTo
        rw [HOUT.out]
        exact ⟨_, _, _, rfl, hbz, rfl⟩
end Go.Proofs.YtefkppeicmipbaaGreatDoor
