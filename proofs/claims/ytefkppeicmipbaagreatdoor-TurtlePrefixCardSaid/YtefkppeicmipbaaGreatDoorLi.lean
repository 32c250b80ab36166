/- Signs: texts. -/
import Derived.Test.YtefkppeicmipbaaGreatDoorLh
import Derived.Deep.RegionLaw
import Derived.Deep.AppendLies
namespace Go.Proofs.YtefkppeicmipbaaGreatDoor
open Go.RowKit Go.Shelf
set_option maxRecDepth 100000
set_option linter.unusedVariables false
set_option linter.unusedSimpArgs false
/-- append(x, s...) onto bytes of the call's own, s a text. -/
theorem wpList_append_str {w : World} {ops : Array Oper} {rest : List Oper} {o : Oper} {a : Act} {Q : Exit → Act → World → Prop} (hgd : o.guard = none) (s x : Operand)
    (ho : o.op = .call { callee := .builtin .append, args := #[s, x], argTypes := #[84, 9] })
    (base : Nat) (v : Value) (l : List UInt8) (hs : a.eval s = v) (hown : Own w base v l) (y : ByteArray) (hx : a.eval x = .string y)
    (hl : l.length + y.size ≤ 140737488355328) (hbase : base ≤ w.heap.size)
    (h : ∀ v' w', Own w' base v' (l ++ y.data.toList) → w.grownBy w' v.ownBlock → wpList Tryz.prog ops Q rest (a.put o.dst v') w') : wpList Tryz.prog ops Q (o :: rest) a w := by
  obtain ⟨i0, hi, hz0, hz1, hz2⟩ := info_parts Tryz.infoU8
  refine Lib.wpList_append_own_string w hgd s x _ _ ho base 5 i0 Tryz.underlying84 Tryz.underlying9 hi hz0 hz1 hz2 v _ _ hs hown y hx (by simp [maxLen]; omega) hl hbase ?_
  intro v' w' ho' hg _
  exact h v' w' (Own.of ho' (by rw [List.length_append, Lib.size_eq]) (by rw [vbs_append, strCells_vbs])) hg
theorem step_append_str {w : World} {ops : Array Oper} {o : Oper} {a : Act} {K : Act → World → Prop} {Q : Exit → Act → World → Prop} {E : Prop} (hgd : o.guard = none) (s x : Operand)
    (ho : o.op = .call { callee := .builtin .append, args := #[s, x], argTypes := #[84, 9] })
    (base : Nat) (v : Value) (l : List UInt8) (hs : a.eval s = v) (hown : Own w base v l) (y : ByteArray) (hx : a.eval x = .string y)
    (hl : l.length + y.size ≤ 140737488355328) (hbase : base ≤ w.heap.size)
    (h : ∀ v' w', Own w' base v' (l ++ y.data.toList) → w.grownBy w' v.ownBlock → K (a.put o.dst v') w') : if Region.wanted o (yielded ops a.tmps) = true then Oper.wp Tryz.prog o a w K Q else E := by
  have hw : Region.wanted o (yielded ops a.tmps) = true := by simp [Region.wanted, hgd]
  rw [if_pos hw]
  obtain ⟨i0, hi, hz0, hz1, hz2⟩ := info_parts Tryz.infoU8
  obtain ⟨v', w', hr, h2, h3, -⟩ := Lib.run_append_own_string (P := Tryz.prog) w base _ _ o.type 5 i0 Tryz.underlying84 Tryz.underlying9 hi hz0 hz1 hz2 v _ _ hown y (by simp [maxLen]; omega) hl hbase
  unfold Oper.wp execOp
  simp only [ho, resolve, invoke, builtin, Sem.run_bind, Sem.run_pure, Result.andThen_ok, List.map_toArray, List.map_cons, List.map_nil, hs, hx, hr]
  exact h v' w' (Own.of h2 (by rw [List.length_append, Lib.size_eq]) (by rw [vbs_append, strCells_vbs])) h3
def textV (q : UInt8) (l : List UInt8) : Option (Tok × List UInt8) := (textL11 q l).map fun p => ((5, p.1), p.2)
theorem textV_none {q : UInt8} {l : List UInt8} (h : textL11 q l = none) : textV q l = none := by unfold textV; rw [h]; rfl
def lettersB : ByteArray := ⟨#[116, 110, 114, 34, 39, 92]⟩
def meantB : ByteArray := ⟨#[9, 10, 13, 34, 39, 92]⟩
theorem meant_get (j : Nat) (hj : j < 6) : ∃ h : j < (⟨#[9, 10, 13, 34, 39, 92]⟩ : ByteArray).size, ([9, 10, 13, 34, 39, 92] : List UInt8)[j]? = some ((⟨#[9, 10, 13, 34, 39, 92]⟩ : ByteArray)[j]'h) := ⟨hj, by
  rcases j with _ | _ | _ | _ | _ | _ | j <;> first | rfl | omega⟩
theorem blk_iterAt {w : World} {b p : Nat} {cs : Array Value} {t : TypeId} (h : Blk w b cs t) (hne : b ≠ p) (s : ByteArray) (k : Nat) : Blk (w.iterAt p s k) b cs t := (Lib.iterAt_other w p b s k hne).trans h
/-- A region that is walked under a stronger condition. -/
theorem wpAnyH_mono {P : Program} {ops : Array Oper} {Q : Exit → Act → World → Prop} {md : Region.Mode} {S S' : World → Prop} (hS : ∀ w, S' w → S w) :
    ∀ (fuel : Nat) (listed : Array Bool) (a : Act) (w : World), wpAnyH P md ops Q S' fuel listed a w → wpAnyH P md ops Q S fuel listed a w
  | 0, _, _, _, h => h
  | fuel + 1, _, _, _, h => ⟨h.1, fun i hi => wpOp_mono (fun a' w' h' => ⟨hS _ h'.1, wpAnyH_mono hS fuel _ a' w' h'.2⟩) (h.2 i hi)⟩

theorem own_set2 {w : World} {base p : Nat} {v : Value} {l : List UInt8} (h : Own w base v l) (hlt : p < base) (x y : Value) : Own ((w.setCell ⟨p, 0, none⟩ x).setCell ⟨p, 1, none⟩ y) base v l :=
  owns_moved (P := (· = p)) h (((Moved.refl (· = p) w).setCell _ _ (.inl rfl)).setCell _ _ (.inl rfl)) (fun q hq e => by have := (h.lt q hq).1; omega)
theorem own_iterAt {w : World} {base p : Nat} {v : Value} {l : List UInt8} (h : Own w base v l) (hlt : p < base) (s : ByteArray) (k : Nat) : Own (w.iterAt p s k) base v l :=
  owns_moved (P := (· = p)) h ⟨rfl, rfl, rfl, by rw [Lib.iterAt_size]; exact Nat.le_refl _, fun j _ hj => Lib.iterAt_other w p j s k hj⟩ (fun q hq e => by have := (h.lt q hq).1; omega)
set_option maxHeartbeats 16000000 in
theorem text11 (s : ByteArray) (q : UInt8) (hq : q = 34 ∨ q = 39) (hs : s.size ≤ 1000000) (w : World) :
    Calls Tryz.prog 34 #[.string s, .int .i32 ((q.toNat : Nat) : Int)] w (TokTo (textV q s.data.toList) w) := by
  obtain ⟨l, hl⟩ : ∃ l, l = s.data.toList := ⟨_, rfl⟩
  have hsz : s.size = l.length := by rw [hl, Lib.size_eq]
  have hget : ∀ (i : Nat) (h : i < s.size) (h' : i < l.length), s[i]'h = l[i] := fun i h h' => by subst hl; rfl
  have HEX := Lib.hid (fun i k => show (s.extract i k).data.toList = (l.drop i).take (k - i) from by rw [ext_to, hl])
  have HEF := Lib.hid (fun k => show s.extract k s.size = ⟨(l.drop k).toArray⟩ from ba_extL (by rw [ext_from, hl]))
  rw [← hl]
  have HSZ := Lib.hid hsz
  have HGET := Lib.hid hget
  have hsi : (s.size : Int) ≤ 1000000 := by omega
  have hq128 : q.toNat < 128 := by rcases hq with rfl | rfl <;> decide
  have hq10 : q ≠ 10 := by rcases hq with rfl | rfl <;> decide
  have hq92 : q ≠ 92 := by rcases hq with rfl | rfl <;> decide
  have HQ := Lib.hid (And.intro hq128 (And.intro hq10 hq92))
  have HIR := Lib.hid (fun r w (hr : r ≤ 1114111) => irune_any ⟨#[116, 110, 114, 34, 39, 92]⟩ (by decide) (by decide) r hr w)
  have hal : Below w.heap.size w (w.alloc (.cells #[.int .i64 0, .string ⟨#[]⟩] 47)) := (Below.refl _ _).alloc (Nat.le_refl _) _
  have hb0 := Blk.new w #[.int .i64 0, .string ⟨#[]⟩] 47
  have hal2 := hal.alloc (by simp) (.stringIter s 0)
  have hb02 := hb0.alloc (.stringIter s 0)
  have hit0 : ((w.alloc (.cells #[.int .i64 0, .string ⟨#[]⟩] 47)).alloc (.stringIter s 0)).heap[w.heap.size + 1]? = some (.stringIter s 0) := by
    have := World.iter_heap (w.alloc (.cells #[.int .i64 0, .string ⟨#[]⟩] 47)) s 0
    rw [show (w.alloc (.cells #[.int .i64 0, .string ⟨#[]⟩] 47)).heap.size = w.heap.size + 1 by simp] at this
    exact this
  have hsz0 : w.heap.size + 2 ≤ ((w.alloc (.cells #[.int .i64 0, .string ⟨#[]⟩] 47)).alloc (.stringIter s 0)).heap.size := by simp
  clear hl hsz hget hq hq128 hq10 hq92 hal hb0
  go_enter Tryz.func34, Tryz.ntmps34
  go_wp2_with fail
  apply wp_scope_straight
  go_wp2_with fail
  refine wp_label ?_
  go_wp2_with fail
  go_loopg [6, 7, 8, 9, 10, 11] s.size (fun g v6 v7 v8 _ _ _ wx => ∃ (i fr : Nat) (bh : Bool) (ab : List UInt8), i + g = s.size ∧ v7 = .int .i64 fr ∧ v8 = .bool bh ∧ fr ≤ i ∧ ab.length + (if bh = true then 0 else i - fr) ≤ i ∧ wx.heap[w.heap.size + 1]? = some (.stringIter s i) ∧ Blk wx w.heap.size #[.int .i64 0, .string ⟨#[]⟩] 47 ∧ Below w.heap.size w wx ∧ w.heap.size + 2 ≤ wx.heap.size ∧ Own wx (w.heap.size + 2) v6 ab ∧ TRel q l i bh (ab ++ if bh = true then [] else (l.drop fr).take (i - fr)))
  case atStart => exact ⟨0, 0, false, [], by omega, rfl, rfl, Nat.le_refl _, by simp, hit0, hb02, hal2, hsz0, World.ownsRow_nil _ _ _ _, by simpa using TRel.start q l⟩
  case round =>
    obtain ⟨i, fr, bh, ab, hig, rfl, rfl, hfr, hab, hit, hbk, hb, hh2, hown, ht⟩ := hrel
    have HB := Lib.hid hb
    have HBK := Lib.hid hbk
    have HO5 := Lib.hid hown
    have HT := Lib.hid ht
    obtain ⟨v6, hv6⟩ : ∃ v, v = u6 := ⟨_, rfl⟩
    subst hv6
    clear hb hbk hown ht
    by_cases hi : i < s.size
    · have hil : i < l.length := by have := HSZ.out; omega
      by_cases ha : (s[i]'hi).toNat < 128
      · obtain ⟨c, hc⟩ : ∃ c : UInt8, s[i]'hi = c := ⟨_, rfl⟩
        have HC := Lib.hid (show l[i]'hil = c by rw [← HGET.out i hi hil, hc])
        have hnx := fun ty => Lib.run_next_ascii_at (P := Tryz.prog) wr (w.heap.size + 1) s i ty hit hi ha
        rw [hc] at hnx ha
        obtain ⟨k, hk1⟩ : ∃ k : Nat, k = 1 := ⟨_, rfl⟩
        have HW5 := Lib.hid (show (wr.iterAt (w.heap.size + 1) s (i + 1)).heap[w.heap.size + 1]? = some (.stringIter s (i + k)) from by rw [hk1]; exact Lib.iterAt_heap wr (w.heap.size + 1) s i (i + 1) hit)
        have HB5 := Lib.hid (Lib.below_iterAt HB.out (Nat.le_succ _) s (i + 1))
        have HBK5 := Lib.hid (blk_iterAt HBK.out (show w.heap.size ≠ w.heap.size + 1 by omega) s (i + 1))
        have HO5 := Lib.hid (own_iterAt HO5.out (show w.heap.size + 1 < w.heap.size + 2 by omega) s (i + 1))
        have HRX := Lib.hid (fun w => HIR.out c.toNat w (by omega))
        have hjr := rune_lt c.toNat
        have hun := un_at c ha
        obtain ⟨J, hJ⟩ : ∃ J, J = runeAt [116, 110, 114, 34, 39, 92] c.toNat := ⟨_, rfl⟩
        rw [← hJ] at HRX hjr hun
        have HUN := Lib.hid ((congrArg unL HC.out).trans hun)
        clear hJ hun hc hit
        go_wp2_with fail
        refine (HRX.out _).mono ?_
        rintro e w2 ⟨rfl, hb2⟩
        have hb5 := HB5.out.trans (hb2.mono HB5.out.size)
        have hB5 : Blk w2 w.heap.size #[.int .i64 0, .string ⟨#[]⟩] 47 := (hb2.block _ HBK5.out.lt).trans HBK5.out
        have hI5 : w2.heap[w.heap.size + 1]? = some (.stringIter s (i + k)) := (hb2.block _ (Array.getElem?_eq_some_iff.1 HW5.out).1).trans HW5.out
        have hO5 : Own w2 (w.heap.size + 2) v6 ab := (HO5.out).below hb2
        clear hb2
        have z0 := hB5.cell 0
        have z1 := hB5.cell 1
        have y0 := hB5.frozen 0
        have y1 := hB5.frozen 1
        simp only [List.getElem?_toArray, List.getElem?_cons_zero, List.getElem?_cons_succ] at z0 z1
        cases bh with
        | true =>
          by_cases hj : J < 0
          · have hJN : unL (l[i]'hil) = none := by
              rw [HUN.out, if_neg (by omega)]
            have HN : textV q l = none := textV_none (HT.out.bad hil hJN)
            go_wp2_with fail
            have hz := (hB5.set 0 (.int .i64 0)).set 1 (.string ⟨#[]⟩)
            simp only [List.setIfInBounds_toArray, List.set_cons_zero, List.set_cons_succ] at hz
            have hbz := (hb5.setCell (p := ⟨w.heap.size, 0, none⟩) (Nat.le_refl _) (.int .i64 0)).setCell (p := ⟨w.heap.size, 1, none⟩) (Nat.le_refl _) (.string ⟨#[]⟩)
            try simp only [Exit.inBlock, Exit.then]
            refine bodyPost_ret (results_cell_tmp_row (p := 4) (u := 5) (ty := 47) (by kernel_rfl) _ _ w.heap.size _ _ _ _ rfl hz Tryz.underlying47 rfl (by kernel_rfl)) rfl ?_
            unfold TokTo
            rw [HN]
            exact ⟨_, _, _, rfl, hbz, rfl⟩
          · have hj0 : 0 ≤ J := by omega
            obtain ⟨jn, rfl⟩ : ∃ n : Nat, J = n := ⟨J.toNat, by omega⟩
            have hj6 : jn < 6 := by omega
            obtain ⟨hjs, hjg⟩ := meant_get jn hj6
            obtain ⟨x, hx0⟩ : ∃ x : UInt8, (⟨#[9, 10, 13, 34, 39, 92]⟩ : ByteArray)[jn]'hjs = x := ⟨_, rfl⟩
            rw [hx0] at hjg
            have hJS : unL (l[i]'hil) = some x := by
              rw [HUN.out, if_pos hj0, Int.toNat_natCast]
              exact hjg
            have h10 : c ≠ 10 := fun e => by
              rw [HC.out, e, show unL 10 = none from rfl] at hJS
              cases hJS
            have h10b : (((c.toNat : Nat) : Int) == 10) = false := u8_ne 10 rfl h10
            have hal6 : Below w2.heap.size w2 (w2.alloc (.cells #[.int .u8 ((x.toNat : Nat) : Int)] 5)) := (Below.refl _ _).alloc (Nat.le_refl _) _
            have HOA := Lib.hid (hO5.below hal6)
            have HBS := Lib.hid (Bs.one w2 x (.int .u8 ((x.toNat : Nat) : Int)) rfl)
            have HLN := Lib.hid (show ab.length + [x].length ≤ 140737488355328 by have := hab; simp at this ⊢; omega)
            have HBA := Lib.hid (show w.heap.size + 2 ≤ (w2.alloc (.cells #[.int .u8 ((x.toNat : Nat) : Int)] 5)).heap.size from Nat.le_trans (by have := (Array.getElem?_eq_some_iff.1 hI5).1; omega) hal6.size)
            have hb6 := hb5.trans (hal6.mono hb5.size)
            have HB6 := Lib.hid hb6
            have hB6 : Blk (w2.alloc (.cells #[.int .u8 ((x.toNat : Nat) : Int)] 5)) w.heap.size #[.int .i64 0, .string ⟨#[]⟩] 47 := (hal6.block _ hB5.lt).trans hB5
            have hI6 : (w2.alloc (.cells #[.int .u8 ((x.toNat : Nat) : Int)] 5)).heap[w.heap.size + 1]? = some (.stringIter s (i + k)) := (hal6.block _ (Array.getElem?_eq_some_iff.1 hI5).1).trans hI5
            have HBI := Lib.hid (And.intro hB6 hI6)
            have HTN := Lib.hid (HT.out.meant hil x hJS)
            clear hb6 hB6 hI6 hjg hJS h10
            go_wp2_with (at_builtin; refine wpList_append_bytes rfl _ _ rfl (w.heap.size + 2) v6 ab rfl HOA.out (.slice (some ⟨w2.heap.size, 0, none⟩) 1 1) [x] rfl HBS.out HLN.out HBA.out ?_; intro v7 w7 ho7 hg7)
            have hne : ∀ p, v6.ownBlock = some p → w.heap.size + 2 ≤ p := fun p hp => (HOA.out.lt p hp).1
            have hb7 := Below.grown HB6.out hg7 HB6.out.size (fun p hp => by have := hne p hp; omega)
            have hB7 : Blk w7 w.heap.size #[.int .i64 0, .string ⟨#[]⟩] 47 := (hg7.block _ HBI.out.1.lt (fun e => by have := hne _ e.symm; omega)).trans HBI.out.1
            have hI7 : w7.heap[w.heap.size + 1]? = some (.stringIter s (i + k)) := (hg7.block _ (Array.getElem?_eq_some_iff.1 HBI.out.2).1 (fun e => by have := hne _ e.symm; omega)).trans HBI.out.2
            have HX7 := Lib.hid (And.intro hb7 (And.intro hB7 (And.intro hI7 ho7)))
            clear hb7 hB7 hI7 ho7 hg7 hne
            go_roundg (s.size - (i + k))
            case measure => omega
            case rel => exact ⟨i + k, i + 1, false, ab ++ [x], by omega, by go_num, rfl, by omega, by rw [List.length_append, List.length_singleton]; simp at hab ⊢; omega, HX7.out.2.2.1, HX7.out.2.1, HX7.out.1, by have := HX7.out.1.size; have := (Array.getElem?_eq_some_iff.1 HX7.out.2.2.1).1; omega, HX7.out.2.2.2, by have := HTN.out; rw [hk1]; simpa using this⟩
        | false =>
          by_cases h10 : c = 10
          · have h10b : (((c.toNat : Nat) : Int) == 10) = true := by rw [h10]; rfl
            have HN : textV q l = none := textV_none (HT.out.feed hil (by rw [HC.out, h10]) HQ.out.2.1)
            go_wp2_with fail
            have hz := (hB5.set 0 (.int .i64 0)).set 1 (.string ⟨#[]⟩)
            simp only [List.setIfInBounds_toArray, List.set_cons_zero, List.set_cons_succ] at hz
            have hbz := (hb5.setCell (p := ⟨w.heap.size, 0, none⟩) (Nat.le_refl _) (.int .i64 0)).setCell (p := ⟨w.heap.size, 1, none⟩) (Nat.le_refl _) (.string ⟨#[]⟩)
            try simp only [Exit.inBlock, Exit.then]
            refine bodyPost_ret (results_cell_tmp_row (p := 4) (u := 5) (ty := 47) (by kernel_rfl) _ _ w.heap.size _ _ _ _ rfl hz Tryz.underlying47 rfl (by kernel_rfl)) rfl ?_
            unfold TokTo
            rw [HN]
            exact ⟨_, _, _, rfl, hbz, rfl⟩
          have h10b : (((c.toNat : Nat) : Int) == 10) = false := u8_ne 10 rfl h10
          by_cases h92 : c = 92
          · have h92b : (((c.toNat : Nat) : Int) == 92) = true := by rw [h92]; rfl
            have HTN := Lib.hid (HT.out.back hil (by rw [HC.out, h92]) HQ.out.2.2)
            have HLN := Lib.hid (show ab.length + (s.extract fr i).size ≤ 140737488355328 by have := hab; simp at this; rw [ByteArray.size_extract]; omega)
            have HBA := Lib.hid (show w.heap.size + 2 ≤ w2.heap.size by have := (Array.getElem?_eq_some_iff.1 hI5).1; omega)
            have HO6 := Lib.hid hO5
            have HB6 := Lib.hid hb5
            have HBI := Lib.hid (And.intro hB5 hI5)
            clear hb5 hB5 hI5 hO5 z0 z1 y0 y1
            go_wp2_with (at_builtin; refine wpList_append_str rfl _ _ rfl (w.heap.size + 2) v6 ab rfl HO6.out (s.extract fr i) rfl HLN.out HBA.out ?_; intro v7 w7 ho7 hg7)
            have hne : ∀ p, v6.ownBlock = some p → w.heap.size + 2 ≤ p := fun p hp => (HO6.out.lt p hp).1
            have hb7 := Below.grown HB6.out hg7 HB6.out.size (fun p hp => by have := hne p hp; omega)
            have hB7 : Blk w7 w.heap.size #[.int .i64 0, .string ⟨#[]⟩] 47 := (hg7.block _ HBI.out.1.lt (fun e => by have := hne _ e.symm; omega)).trans HBI.out.1
            have hI7 : w7.heap[w.heap.size + 1]? = some (.stringIter s (i + k)) := (hg7.block _ (Array.getElem?_eq_some_iff.1 HBI.out.2).1 (fun e => by have := hne _ e.symm; omega)).trans HBI.out.2
            have HX7 := Lib.hid (And.intro hb7 (And.intro hB7 (And.intro hI7 ho7)))
            clear hb7 hB7 hI7 ho7 hg7 hne
            go_roundg (s.size - (i + k))
            case measure => omega
            case rel => exact ⟨i + k, fr, true, ab ++ (s.extract fr i).data.toList, by omega, rfl, rfl, by omega, by rw [List.length_append, ← Lib.size_eq, ByteArray.size_extract]; simp at hab ⊢; omega, HX7.out.2.2.1, HX7.out.2.1, HX7.out.1, by have := HX7.out.1.size; have := (Array.getElem?_eq_some_iff.1 HX7.out.2.2.1).1; omega, HX7.out.2.2.2, by have := HTN.out; rw [hk1, HEX.out]; simpa using this⟩
          have h92b : (((c.toNat : Nat) : Int) == 92) = false := u8_ne 92 rfl h92
          by_cases hcq : c = q
          · have hcqb : (((c.toNat : Nat) : Int) == ((q.toNat : Nat) : Int)) = true := by rw [hcq]; exact beq_self_eq_true _
            have HTN := Lib.hid (HT.out.mark hil (by rw [HC.out, hcq]))
            obtain ⟨zx, hzx⟩ : ∃ z, s.extract fr i = z := ⟨_, rfl⟩
            have HZX := Lib.hid (show zx.data.toList = (l.drop fr).take (i - fr) from by rw [← hzx]; exact HEX.out fr i)
            have hzs : zx.size ≤ s.size := by rw [← hzx, ByteArray.size_extract]; omega
            obtain ⟨n1, hn1⟩ : ∃ n, n = i + 1 := ⟨_, rfl⟩
            have hli1 : (i : Int) + 1 ≤ s.size := by omega
            have hfi : (fr : Int) ≤ i := by omega
            have hli0 : (i : Int) ≤ s.size := by omega
            have hli1n : i + 1 ≤ s.size := by omega
            have HLN := Lib.hid (show ab.length + zx.size ≤ 140737488355328 by have := hab; simp at this; omega)
            have HBA := Lib.hid (show w.heap.size + 2 ≤ w2.drew.heap.size from (by have := (Array.getElem?_eq_some_iff.1 hI5).1; omega : w.heap.size + 2 ≤ w2.heap.size))
            have HO6 := Lib.hid (show Own w2.drew (w.heap.size + 2) v6 ab from hO5.below (below_drew (Below.refl _ _)))
            have HB6 := Lib.hid (below_drew hb5)
            have HBI := Lib.hid hB5.drew
            have hne : ∀ p, v6.ownBlock = some p → w.heap.size + 2 ≤ p := fun p hp => (HO6.out.lt p hp).1
            have HNE := Lib.hid hne
            have HN2 := Lib.hid (show w.heap.size < w.heap.size + 2 by omega)
            have HOUT := Lib.hid (show textV q l = some ((5, ab ++ zx.data.toList), l.drop n1) from by
              unfold textV
              rw [HTN.out, HZX.out, hn1]
              simp)
            have hn1n : n1 ≤ s.size := by omega
            have hn1i : (n1 : Int) ≤ s.size := by omega
            have hn1e : (i : Int) + 1 = (n1 : Int) := by omega
            clear hzs hn1
            have hwi : IntKind.i64.wrap ((i : Int) + 1) = (n1 : Int) := by
              rw [hn1e]; exact Go.wrap_small _ (Int.natCast_nonneg _) (Int.lt_of_le_of_lt (Int.ofNat_le.2 (Nat.le_trans hn1n hs)) (by decide))
            clear hn1e
            clear hb5 hB5 hI5 hO5 z0 z1 y0 y1 hne
            go_wp2_with fail
            refine wp_region_any (by kernel_rfl) ?_
            change wpAny _ _ _ _ _ _ _ (World.drew _)
            refine wpAny_of_held (S := fun (_ : World) => True) _ _ _ _ ?_
            have hS : (fun (_ : World) => True) (World.drew w2) := trivial
            refine wpAnyH_take (i := 0) (oi := ⟨some 50, _, _, _, _, _⟩) (v := ?_) rfl (by kernel_rfl) (by kernel_rfl) (by kernel_rfl) (fun _ _ _ h => h) (Or.inl ⟨by simp only [Region.wanted], ?_⟩) hS ?_
            rotate_left
            · intro wz hSw
              clear hSw
              go_simp
              first | done | with_reducible rfl
            try simp only [Act.put, List.setIfInBounds_toArray, List.set_cons_zero, List.set_cons_succ]
            refine wpAnyH_take (i := 1) (oi := ⟨some 51, _, _, _, _, _⟩) (v := ?_) rfl (by kernel_rfl) (by kernel_rfl) (by kernel_rfl) (fun _ _ _ h => h) (Or.inl ⟨by simp only [Region.wanted], ?_⟩) hS ?_
            rotate_left
            · intro wz hSw
              clear hSw
              go_simp
              first | done | with_reducible rfl
            try simp only [Act.put, List.setIfInBounds_toArray, List.set_cons_zero, List.set_cons_succ]
            refine wpAnyH_take (i := 2) (oi := ⟨some 52, _, _, _, _, _⟩) (v := ?_) rfl (by kernel_rfl) (by kernel_rfl) (by kernel_rfl) (fun _ _ _ h => h) (Or.inl ⟨by simp only [Region.wanted], ?_⟩) hS ?_
            rotate_left
            · intro wz hSw
              clear hSw
              go_simp
              first | done | with_reducible rfl
            try simp only [Act.put, List.setIfInBounds_toArray, List.set_cons_zero, List.set_cons_succ]
            refine wpAnyH_take (i := 3) (oi := ⟨some 53, _, _, _, _, _⟩) (v := ?_) rfl (by kernel_rfl) (by kernel_rfl) (by kernel_rfl) (fun _ _ _ h => h) (Or.inl ⟨by simp only [Region.wanted], ?_⟩) hS ?_
            rotate_left
            · intro wz hSw
              clear hSw
              go_simp
              first | done | with_reducible rfl
            try simp only [Act.put, List.setIfInBounds_toArray, List.set_cons_zero, List.set_cons_succ]
            refine wpAnyH_take (i := 4) (oi := ⟨some 54, _, _, _, _, _⟩) (v := ?_) rfl (by kernel_rfl) (by kernel_rfl) (by kernel_rfl) (fun _ _ _ h => h) (Or.inl ⟨by simp only [Region.wanted], ?_⟩) hS ?_
            rotate_left
            · intro wz hSw
              clear hSw
              go_simp
              first | done | with_reducible rfl
            try simp only [Act.put, List.setIfInBounds_toArray, List.set_cons_zero, List.set_cons_succ]
            refine wpAnyH_take (i := 8) (oi := ⟨some 58, _, _, _, _, _⟩) (v := ?_) rfl (by kernel_rfl) (by kernel_rfl) (by kernel_rfl) (fun _ _ _ h => h) (Or.inl ⟨by simp only [Region.wanted], ?_⟩) hS ?_
            rotate_left
            · intro wz hSw
              clear hSw
              go_simp
              first | done | with_reducible rfl
            try simp only [Act.put, List.setIfInBounds_toArray, List.set_cons_zero, List.set_cons_succ]
            refine wpAnyH_take (i := 9) (oi := ⟨some 59, _, _, _, _, _⟩) (v := ?_) rfl (by kernel_rfl) (by kernel_rfl) (by kernel_rfl) (fun _ _ _ h => h) (Or.inl ⟨by simp only [Region.wanted], ?_⟩) hS ?_
            rotate_left
            · intro wz hSw
              clear hSw
              go_simp
              first | done | with_reducible rfl
            try simp only [Act.put, List.setIfInBounds_toArray, List.set_cons_zero, List.set_cons_succ]
            refine wpAnyH_take (i := 10) (oi := ⟨some 60, _, _, _, _, _⟩) (v := ?_) rfl (by kernel_rfl) (by kernel_rfl) (by kernel_rfl) (fun _ _ _ h => h) (Or.inl ⟨by simp only [Region.wanted], ?_⟩) hS ?_
            rotate_left
            · intro wz hSw
              clear hSw
              go_simp
              first | done | with_reducible rfl
            try simp only [Act.put, List.setIfInBounds_toArray, List.set_cons_zero, List.set_cons_succ]
            refine wpAnyH_take (i := 11) (oi := ⟨some 61, _, _, _, _, _⟩) (v := ?_) rfl (by kernel_rfl) (by kernel_rfl) (by kernel_rfl) (fun _ _ _ h => h) (Or.inl ⟨by simp only [Region.wanted], ?_⟩) hS ?_
            rotate_left
            · intro wz hSw
              clear hSw
              go_simp
              first | done | with_reducible rfl
            try simp only [Act.put, List.setIfInBounds_toArray, List.set_cons_zero, List.set_cons_succ]
            refine wpAnyH_ready (rs := [5]) (by kernel_rfl) (by simp) ?_
            refine AllReadyH.cons (o := ⟨some 55, _, _, _, _, _⟩) rfl (fun K hK => ?_) AllReadyH.nil
            refine step_append_str rfl _ _ rfl (w.heap.size + 2) v6 ab rfl HO6.out zx rfl HLN.out HBA.out ?_
            intro v7 w7 ho7 hg7
            have hB7 : Blk w7 w.heap.size #[.int .i64 0, .string ⟨#[]⟩] 47 := (hg7.block _ HBI.out.lt (fun e => by have := HNE.out _ e.symm; omega)).trans HBI.out
            have hb7 := Below.grown HB6.out hg7 HB6.out.size (fun p hp => by have := HNE.out p hp; omega)
            refine hK.out _ _ (trivial) (fun hS => ?_)
            clear hK K hg7
            try simp only [Act.put, List.setIfInBounds_toArray, List.set_cons_zero, List.set_cons_succ]
            have hS' : (fun (W : World) => Own W (w.heap.size + 2) v7 (ab ++ zx.data.toList)) (w7) := ho7
            refine wpAnyH_mono (S' := fun (W : World) => Own W (w.heap.size + 2) v7 (ab ++ zx.data.toList)) (fun _ h => trivial) _ _ _ _ ?_
            clear hS
            have hS := hS'
            clear hS'
            refine wpAnyH_take (i := 6) (oi := ⟨some 56, _, _, _, _, _⟩) (v := ?_) rfl (by kernel_rfl) (by kernel_rfl) (by kernel_rfl) (fun _ _ _ h => h) (Or.inl ⟨by simp only [Region.wanted], ?_⟩) hS ?_
            rotate_left
            · intro wz hSw; have hcv := run_conv_bytes (hSw : Own wz (w.heap.size + 2) v7 (ab ++ zx.data.toList)).bs
              clear hSw
              go_simp
              first | done | with_reducible rfl
            try simp only [Act.put, List.setIfInBounds_toArray, List.set_cons_zero, List.set_cons_succ]
            refine wpAnyH_take (i := 7) (oi := ⟨some 57, _, _, _, _, _⟩) (v := ?_) rfl (by kernel_rfl) (by kernel_rfl) (by kernel_rfl) (fun _ _ _ h => h) (Or.inl ⟨by simp only [Region.wanted], ?_⟩) hS ?_
            rotate_left
            · intro wz hSw
              clear hSw
              go_simp
              first | done | with_reducible rfl
            try simp only [Act.put, List.setIfInBounds_toArray, List.set_cons_zero, List.set_cons_succ]
            have z0 := hB7.cell 0
            have z1 := hB7.cell 1
            have y0 := hB7.frozen 0
            have y1 := hB7.frozen 1
            simp only [List.getElem?_toArray, List.getElem?_cons_zero, List.getElem?_cons_succ] at z0 z1
            refine wpAnyH_ready (rs := [12]) (by kernel_rfl) (by simp) ?_
            refine AllReadyH.cons (o := ⟨none, _, _, _, _, _⟩) rfl (fun K hK => ?_) AllReadyH.nil
            go_simp
            refine hK.out _ _ ((own_set2 hS HN2.out _ _)) (fun hS => ?_)
            clear hK K
            try simp only [Act.put, List.setIfInBounds_toArray, List.set_cons_zero, List.set_cons_succ]
            refine wpAnyH_take (i := 13) (oi := ⟨some 5, _, _, _, _, _⟩) (v := ?_) rfl (by kernel_rfl) (by kernel_rfl) (by kernel_rfl) (fun _ _ _ h => h) (Or.inl ⟨by simp only [Region.wanted], ?_⟩) hS ?_
            rotate_left
            · intro wz hSw
              clear hSw
              go_simp
              first | done | with_reducible rfl
            try simp only [Act.put, List.setIfInBounds_toArray, List.set_cons_zero, List.set_cons_succ]
            refine wpAnyH_done (by kernel_rfl) ?_ _
            go_wp2_with fail
            have hz := (hB7.set 0 (.int .i64 5)).set 1 (.string ⟨(ab ++ zx.data.toList).toArray⟩)
            simp only [List.setIfInBounds_toArray, List.set_cons_zero, List.set_cons_succ] at hz
            have hbz := (hb7.setCell (p := ⟨w.heap.size, 0, none⟩) (Nat.le_refl _) (.int .i64 5)).setCell (p := ⟨w.heap.size, 1, none⟩) (Nat.le_refl _) (.string ⟨(ab ++ zx.data.toList).toArray⟩)
            try simp only [Exit.inBlock, Exit.then]
            refine bodyPost_ret (results_cell_tmp_row (p := 4) (u := 5) (ty := 47) (by kernel_rfl) _ _ w.heap.size _ _ _ _ rfl hz Tryz.underlying47 rfl (by kernel_rfl)) rfl ?_
            unfold TokTo
            rw [HOUT.out]
            exact ⟨_, _, _, rfl, hbz, rfl, rfl, HEF.out _⟩
          have hcqb : (((c.toNat : Nat) : Int) == ((q.toNat : Nat) : Int)) = false := beq_eq_false_iff_ne.2 (fun e => hcq (UInt8.toNat_inj.1 (by omega)))
          have HTN := Lib.hid (HT.out.plain hil (by rw [HC.out]; exact hcq) (by rw [HC.out]; exact h10) (by rw [HC.out]; exact h92))
          have HX7 := Lib.hid (And.intro hb5 (And.intro hB5 (And.intro hI5 hO5)))
          clear hb5 hB5 hI5 hO5 z0 z1 y0 y1
          go_wp2_with fail
          go_roundg (s.size - (i + k))
          case measure => omega
          case rel => exact ⟨i + k, fr, false, ab, by omega, rfl, rfl, by omega, by simp at hab ⊢; omega, HX7.out.2.2.1, HX7.out.2.1, HX7.out.1, by have := HX7.out.1.size; have := (Array.getElem?_eq_some_iff.1 HX7.out.2.2.1).1; omega, HX7.out.2.2.2, by
            have := HTN.out
            rw [hk1]
            rw [List.append_assoc] at this
            rw [show i + 1 - fr = (i - fr) + 1 by omega, List.take_succ_eq_append_getElem (by rw [List.length_drop]; omega), List.getElem_drop]
            simpa [show fr + (i - fr) = i by omega] using this⟩
      · have ha' : 128 ≤ (s[i]'hi).toNat := by omega
        have hnx := fun ty => Lib.run_next_any_at (P := Tryz.prog) wr (w.heap.size + 1) s i ty hit hi
        have hdi := decode_in s i hi ha'
        have HDS := Lib.hid (decode_skip s i hi ha')
        have hdh := decode_high s i hi ha'
        have hdv := decode_valid s i hi ha'
        obtain ⟨r, hr⟩ : ∃ r, r = (Utf8.decode s i).1 := ⟨_, rfl⟩
        obtain ⟨k, hk⟩ : ∃ k, k = (Utf8.decode s i).2 := ⟨_, rfl⟩
        rw [← hr] at hdh hdv
        rw [← hk] at hdi hdh HDS
        rw [← hr, ← hk] at hnx
        have hr9 : r ≤ 1114111 := by
          rw [validRune_eq] at hdv
          have := of_decide_eq_true hdv
          omega
        have HRX := Lib.hid (fun w => HIR.out r w hr9)
        rw [show runeAt [116, 110, 114, 34, 39, 92] r = -1 from by unfold runeAt; rw [if_neg (by omega)]] at HRX
        have HW5 := Lib.hid (Lib.iterAt_heap wr (w.heap.size + 1) s i (i + k) hit)
        have HB5 := Lib.hid (Lib.below_iterAt HB.out (Nat.le_succ _) s (i + k))
        have HBK5 := Lib.hid (blk_iterAt HBK.out (show w.heap.size ≠ w.heap.size + 1 by omega) s (i + k))
        have HO5 := Lib.hid (own_iterAt HO5.out (show w.heap.size + 1 < w.heap.size + 2 by omega) s (i + k))
        clear hdv hr hk hit
        go_wp2_with fail
        refine (HRX.out _).mono ?_
        rintro e w2 ⟨rfl, hb2⟩
        have hb5 := HB5.out.trans (hb2.mono HB5.out.size)
        have hB5 : Blk w2 w.heap.size #[.int .i64 0, .string ⟨#[]⟩] 47 := (hb2.block _ HBK5.out.lt).trans HBK5.out
        have hI5 : w2.heap[w.heap.size + 1]? = some (.stringIter s (i + k)) := (hb2.block _ (Array.getElem?_eq_some_iff.1 HW5.out).1).trans HW5.out
        have hO5 : Own w2 (w.heap.size + 2) v6 ab := (HO5.out).below hb2
        clear hb2
        have z0 := hB5.cell 0
        have z1 := hB5.cell 1
        have y0 := hB5.frozen 0
        have y1 := hB5.frozen 1
        simp only [List.getElem?_toArray, List.getElem?_cons_zero, List.getElem?_cons_succ] at z0 z1
        cases bh with
        | true =>
          have HN : textV q l = none := textV_none (HT.out.bad hil (un_high _ (by rw [← HGET.out i hi hil]; exact ha')))
          go_wp2_with fail
          have hz := (hB5.set 0 (.int .i64 0)).set 1 (.string ⟨#[]⟩)
          simp only [List.setIfInBounds_toArray, List.set_cons_zero, List.set_cons_succ] at hz
          have hbz := (hb5.setCell (p := ⟨w.heap.size, 0, none⟩) (Nat.le_refl _) (.int .i64 0)).setCell (p := ⟨w.heap.size, 1, none⟩) (Nat.le_refl _) (.string ⟨#[]⟩)
          try simp only [Exit.inBlock, Exit.then]
          refine bodyPost_ret (results_cell_tmp_row (p := 4) (u := 5) (ty := 47) (by kernel_rfl) _ _ w.heap.size _ _ _ _ rfl hz Tryz.underlying47 rfl (by kernel_rfl)) rfl ?_
          unfold TokTo
          rw [HN]
          exact ⟨_, _, _, rfl, hbz, rfl⟩
        | false =>
          have h10b : (((r : Nat) : Int) == 10) = false := beq_eq_false_iff_ne.2 (by omega)
          have h92b : (((r : Nat) : Int) == 92) = false := beq_eq_false_iff_ne.2 (by omega)
          have hcqb : (((r : Nat) : Int) == ((q.toNat : Nat) : Int)) = false := beq_eq_false_iff_ne.2 (by have := HQ.out.1; omega)
          have HTN := Lib.hid (HT.out.high HQ.out.1 k (by have := HSZ.out; omega) (fun j hj h1 h2 => by rw [← HGET.out j (by omega) hj]; exact HDS.out j (by omega) h1 h2))
          have HX7 := Lib.hid (And.intro hb5 (And.intro hB5 (And.intro hI5 hO5)))
          clear hb5 hB5 hI5 hO5 z0 z1 y0 y1
          go_wp2_with fail
          go_roundg (s.size - (i + k))
          case measure => omega
          case rel => exact ⟨i + k, fr, false, ab, by omega, rfl, rfl, by omega, by simp at hab ⊢; omega, HX7.out.2.2.1, HX7.out.2.1, HX7.out.1, by have := HX7.out.1.size; have := (Array.getElem?_eq_some_iff.1 HX7.out.2.2.1).1; omega, HX7.out.2.2.2, by
            have := HTN.out
            rw [List.append_assoc] at this
            rw [show i + k - fr = (i - fr) + k by omega, List.take_add, List.drop_drop]
            simpa [show fr + (i - fr) = i by omega] using this⟩
    · have hie : i = s.size := by omega
      have hnx := fun ty => Lib.run_next_end_at (P := Tryz.prog) wr (w.heap.size + 1) s i ty hit hi
      have hB5 := HBK.out
      have hb5 := HB.out
      have HN : textV q l = none := textV_none (HT.out.off (by have := HSZ.out; omega))
      clear hit hie
      have z0 := hB5.cell 0
      have z1 := hB5.cell 1
      have y0 := hB5.frozen 0
      have y1 := hB5.frozen 1
      simp only [List.getElem?_toArray, List.getElem?_cons_zero, List.getElem?_cons_succ] at z0 z1
      go_wp2_with fail
      have hz := (hB5.set 0 (.int .i64 0)).set 1 (.string ⟨#[]⟩)
      simp only [List.setIfInBounds_toArray, List.set_cons_zero, List.set_cons_succ] at hz
      have hbz := (hb5.setCell (p := ⟨w.heap.size, 0, none⟩) (Nat.le_refl _) (.int .i64 0)).setCell (p := ⟨w.heap.size, 1, none⟩) (Nat.le_refl _) (.string ⟨#[]⟩)
      try simp only [Exit.inBlock, Exit.then]
      refine bodyPost_ret (results_cell_tmp_row (p := 4) (u := 5) (ty := 47) (by kernel_rfl) _ _ w.heap.size _ _ _ _ rfl hz Tryz.underlying47 rfl (by kernel_rfl)) rfl ?_
      unfold TokTo
      rw [HN]
      exact ⟨_, _, _, rfl, hbz, rfl⟩
end Go.Proofs.YtefkppeicmipbaaGreatDoor
