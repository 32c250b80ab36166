/- Signs: LexTwo. -/
import Derived.Test.YtmeoleacfkbilaaDoorLn
namespace Go.Proofs.YtmeoleacfkbilaaDoor
open Go.RowKit Go.Shelf
set_option maxRecDepth 100000
set_option linter.unusedVariables false
set_option linter.unusedSimpArgs false
theorem wpList_wanted {P : Program} {ops : Array Oper} {rest : List Oper} {o : Oper} {a : Act} {w : World} {Q : Exit → Act → World → Prop} (hw : Region.wanted o (yielded ops a.tmps) = true)
    (h : ∀ K : Act → World → Prop, (∀ a w, wpList P ops Q rest a w → K a w) → o.wp P a w K Q) : wpList P ops Q (o :: rest) a w :=
  wpList_step fun K hK => by simp only [hw, if_true]; exact h K hK
theorem kcells_one (m : List Tok) : ∀ u ∈ kcells m, u.oneCell' = true := by
  intro u hu
  unfold kcells at hu
  obtain ⟨x, -, hx⟩ := List.mem_flatMap.1 hu
  simp [kcells1] at hx
  rcases hx with rfl | rfl <;> rfl
theorem kcells_length (m : List Tok) : (kcells m).length = m.length * 2 := by
  induction m with
  | nil => rfl
  | cons x xs ih =>
    show (kcells1 x ++ kcells xs).length = _
    rw [List.length_append, ih]
    simp [kcells1]; omega
/-- append(x, y...) onto a row of tokens of the call's own. -/
theorem wpG_append_tks {w : World} {ops : Array Oper} {rest : List Oper} {o : Oper} {a : Act} {Q : Exit → Act → World → Prop} (hw : Region.wanted o (yielded ops a.tmps) = true) (s x : Operand)
    (ho : o.op = .call { callee := .builtin .append, args := #[s, x], argTypes := #[26, 26] }) (base : Nat) (hbase : base ≤ w.heap.size)
    (v : Value) (l : List Tok) (hs : a.eval s = v) (hown : OwK w base v l) (b2 : Nat) (y : Value) (m : List Tok) (hx : a.eval x = y) (hy : OwK w b2 y m) (hnil : m = [] → y = .slice none 0 0) (hl : l.length + m.length ≤ 1000000)
    (h : ∀ v' w', OwK w' base v' (l ++ m) → w.grownBy w' v.ownBlock → wpList Tryd.prog ops Q rest (a.put o.dst v') w') :
    wpList Tryd.prog ops Q (o :: rest) a w := by
  obtain ⟨i0, hi, hz0, hz1, hz2⟩ := info_parts Tryd.infoTk
  refine wpList_wanted hw fun K hK => ?_
  by_cases hm : m = []
  · have hyn := hnil hm
    have hrun := run_append_owned_none (P := Tryd.prog) (w := w) base 26 o.type 36 i0 2 Tryd.underlying26 hi v _ _ hown
    have hx' := hx.trans hyn
    unfold Oper.wp
    simp [execOp, ho, resolve, invoke, builtin, hs, hx', hrun, Result.andThen]
    exact hK _ _ (h v w (by rw [hm, List.append_nil]; exact hown) (World.grownBy.refl _ _))
  · obtain ⟨ao, cap, rfl, -, -⟩ := hy.form
    have hpos : 0 < m.length := List.length_pos_iff.2 hm
    obtain ⟨g0, rfl, -, -⟩ := hy.at hpos
    have hc := hy.cells (g := g0) rfl
    refine wp_append_lies w s x _ ho base 36 i0 _ 2 24 Tryd.underlying26 hi hz0 hz1 hz2 rfl (by decide) v l.length (kcells l) hs hown ⟨g0, 0, none⟩ m.length cap (kcells m) hx (kcells_length m) hc (kcells_one m) hpos (by simp [maxLen]; omega) (by omega) hbase _ rfl ?_
    intro g cap' w' k1 k2 k3 k4
    refine hK _ _ (h _ w' ?_ k2)
    unfold OwK
    rw [kcells_append, List.length_append]
    exact k1
theorem owk_grown {w w' : World} {b : Nat} {v : Value} {l : List Tok} {row : Option Nat} (h : OwK w b v l) (hg : w.grownBy w' row) (hne : ∀ q, v.ownBlock = some q → row ≠ some q) : OwK w' b v l :=
  h.moved (P := fun q => row = some q) ⟨hg.os, hg.tape, hg.output, hg.size, fun k hk hn => hg.block k hk (fun e => hn e.symm)⟩ (fun q hq e => hne q hq e)
set_option maxHeartbeats 8000000 in
theorem two11_walk (x y : Int) (w : World) (hL : LexAt w) : Calls Tryd.prog 5 #[.int .i64 x, .int .i64 y] w fun e w' => e = .returned (.bool true) ∧ Below w.heap.size w w' := by
  have HK := Lib.hid (known11_any w hL)
  have HLA := Lib.hid (fun w' (hb : Below w.heap.size w w') => hL.below hb)
  have HP := Lib.hid (fun n w => piece11 n w)
  have hm1 := piece_mem x
  have hm2 := piece_mem y
  have hl1 := piece_len _ hm1
  have hl2 := piece_len _ hm2
  have hr1 := reads_all _ hm1
  obtain ⟨P, hP⟩ : ∃ P, P = pieceOf x := ⟨_, rfl⟩
  obtain ⟨Q, hQ⟩ : ∃ P, P = pieceOf y := ⟨_, rfl⟩
  have HP1 := Lib.hid (fun w => piece11 x w)
  have HP2 := Lib.hid (fun w => piece11 y w)
  rw [← hP] at HP1 hl1 hr1
  rw [← hQ] at HP2 hl2
  obtain ⟨p, hp⟩ : ∃ q : ByteArray, q = ⟨P.toArray⟩ := ⟨_, rfl⟩
  obtain ⟨q, hq⟩ : ∃ q : ByteArray, q = ⟨Q.toArray⟩ := ⟨_, rfl⟩
  rw [← hp] at HP1
  rw [← hq] at HP2
  have hpl : p.data.toList = P := by rw [hp]
  have hql : q.data.toList = Q := by rw [hq]
  have hps : p.size ≤ 12 := by rw [Lib.size_eq, hpl]; exact hl1
  have hqs : q.size ≤ 12 := by rw [Lib.size_eq, hql]; exact hl2
  obtain ⟨pn, hpn⟩ : ∃ z : ByteArray, p ++ (⟨#[10]⟩ : ByteArray) = z := ⟨_, rfl⟩
  have hpnl : pn.data.toList = P ++ [10] := by rw [← hpn]; simp only [ByteArray.data_append, Array.toList_append]; rw [hpl]
  have hpns : pn.size ≤ 13 := by rw [Lib.size_eq, hpnl, List.length_append, List.length_singleton]; omega
  obtain ⟨z, hz⟩ : ∃ z : ByteArray, pn ++ q = z := ⟨_, rfl⟩
  have hzl : z.data.toList = P ++ 10 :: Q := by rw [← hz]; simp only [ByteArray.data_append, Array.toList_append]; rw [hpnl, hql]; simp
  have hzs : z.size ≤ 30 := by rw [Lib.size_eq, hzl, List.length_append, List.length_cons]; omega
  have HT1 := Lib.hid (fun w (h : LexAt w) => tokens11 p (Nat.le_trans hps (by decide)) w h.1 h.2)
  have HT2 := Lib.hid (fun w (h : LexAt w) => tokens11 q (Nat.le_trans hqs (by decide)) w h.1 h.2)
  have HT3 := Lib.hid (fun w (h : LexAt w) => tokens11 z (Nat.le_trans hzs (by decide)) w h.1 h.2)
  rw [hpl] at HT1
  rw [hql] at HT2
  rw [hzl] at HT3
  have t1 : ¬ 9223372036854775807 < p.size + (⟨#[10]⟩ : ByteArray).size := by rw [show (⟨#[10]⟩ : ByteArray).size = 1 from rfl]; omega
  have t2 : ¬ 9223372036854775807 < p.size + 1 := by omega
  have t3 : ¬ 9223372036854775807 < pn.size + q.size := by omega
  have HTW := Lib.hid (fun (X Y : List Tok) (h1 : tokensL P = (X, 0)) (h2 : tokensL Q = (Y, 0)) => two_tokens hr1 (by omega) (by omega) h1 h2)
  have hlx : (tokensL P).1.length ≤ 30 := Nat.le_trans (tokens_length P) (by omega)
  have hly : (tokensL Q).1.length ≤ 30 := Nat.le_trans (tokens_length Q) (by omega)
  obtain ⟨⟨X, e1⟩, hR1⟩ : ∃ R, R = tokensL P := ⟨_, rfl⟩
  obtain ⟨⟨Y, e2⟩, hR2⟩ : ∃ R, R = tokensL Q := ⟨_, rfl⟩
  obtain ⟨⟨Z, e3⟩, hR3⟩ : ∃ R, R = tokensL (P ++ 10 :: Q) := ⟨_, rfl⟩
  rw [← hR1] at HT1 hlx
  rw [← hR2] at HT2 hly
  rw [← hR3] at HT3
  have HR := Lib.hid (And.intro hR1 (And.intro hR2 hR3))
  dsimp only at hlx hly
  have HLX := Lib.hid (And.intro hlx hly)
  clear hm1 hm2 hl1 hl2 hr1 hP hQ hp hq hpl hql hps hqs hpnl hpns hzl hzs hlx hly hR1 hR2 hR3 hL
  go_enter Tryd.func5, Tryd.ntmps5
  go_wp2_with fail
  refine HK.out.mono ?_
  rintro e w1 ⟨rfl, hb1⟩
  go_wp2_with fail
  refine (HP1.out _).mono ?_
  rintro e w2 ⟨rfl, hb⟩
  replace hb1 := hb1.trans (hb.mono hb1.size)
  clear hb
  go_wp2_with fail
  refine (HT1.out _ (HLA.out _ hb1)).mono ?_
  intro e w3 h
  unfold TksTo at h
  obtain ⟨ax, cx, rfl, hb, hox, hnx⟩ := h
  replace hb1 := hb1.trans (hb.mono hb1.size)
  replace hox : OwK w3 w2.heap.size (.slice ax X.length cx) X := hox
  have HOX := Lib.hid hox
  have HNX := Lib.hid (show X = [] → (Value.slice ax X.length cx) = .slice none 0 0 from fun e => by obtain ⟨r1, r2⟩ := hnx e; rw [r1, r2, e]; rfl)
  clear hb hox hnx
  go_wp2_with fail
  refine (HP2.out _).mono ?_
  rintro e w4 ⟨rfl, hb⟩
  replace hb1 := hb1.trans (hb.mono hb1.size)
  replace HOX := Lib.hid (HOX.out.below hb)
  clear hb
  go_wp2_with fail
  refine (HT2.out _ (HLA.out _ hb1)).mono ?_
  intro e w5 h
  unfold TksTo at h
  obtain ⟨ay, cy, rfl, hb, hoy, hny⟩ := h
  replace hb1 := hb1.trans (hb.mono hb1.size)
  replace HOX := Lib.hid (HOX.out.below hb)
  replace hoy : OwK w5 w4.heap.size (.slice ay Y.length cy) Y := hoy
  have HOY := Lib.hid hoy
  have HNY := Lib.hid (show Y = [] → (Value.slice ay Y.length cy) = .slice none 0 0 from fun e => by obtain ⟨r1, r2⟩ := hny e; rw [r1, r2, e]; rfl)
  clear hb hoy hny
  go_wp2_with fail
  refine (HP1.out _).mono ?_
  rintro e w6 ⟨rfl, hb⟩
  replace hb1 := hb1.trans (hb.mono hb1.size)
  replace HOX := Lib.hid (HOX.out.below hb)
  replace HOY := Lib.hid (HOY.out.below hb)
  clear hb
  go_wp2_with fail
  refine (HP2.out _).mono ?_
  rintro e w7 ⟨rfl, hb⟩
  replace hb1 := hb1.trans (hb.mono hb1.size)
  replace HOX := Lib.hid (HOX.out.below hb)
  replace HOY := Lib.hid (HOY.out.below hb)
  clear hb
  go_wp2_with fail
  refine (HT3.out _ (HLA.out _ hb1)).mono ?_
  intro e w8 h
  unfold TksTo at h
  obtain ⟨az, cz, rfl, hb, hoz, hnz⟩ := h
  replace hb1 := hb1.trans (hb.mono hb1.size)
  replace HOX := Lib.hid (HOX.out.below hb)
  replace HOY := Lib.hid (HOY.out.below hb)
  replace hoz : OwK w8 w7.heap.size (.slice az Z.length cz) Z := hoz
  have HOZ := Lib.hid hoz
  have HB := Lib.hid hb1
  clear hb hoz hnz hb1
  by_cases he1 : e1 = 0
  rotate_left
  · have he1b : (e1 == 0) = false := beq_eq_false_iff_ne.2 he1
    clear he1
    go_wp2_with fail
    go_ret
    exact ⟨rfl, HB.out⟩
  subst he1
  by_cases he2 : e2 = 0
  rotate_left
  · have he2b : (e2 == 0) = false := beq_eq_false_iff_ne.2 he2
    clear he2
    go_wp2_with fail
    go_ret
    exact ⟨rfl, HB.out⟩
  subst he2
  have hz3 : Z = X ++ Y ∧ e3 = 0 := by
    have := HTW.out X Y HR.out.1.symm HR.out.2.1.symm
    rw [← HR.out.2.2] at this
    exact ⟨congrArg Prod.fst this, congrArg Prod.snd this⟩
  obtain ⟨hZ, rfl⟩ := hz3
  have hal : Below w8.heap.size w8 (w8.alloc (.cells #[] 36)) := (Below.refl _ _).alloc (Nat.le_refl _) _
  have HE := Lib.hid (show OwK (w8.alloc (.cells #[] 36)) w8.heap.size (.slice (some ⟨w8.heap.size, 0, none⟩) 0 0) [] from World.ownsRow_lit w8 #[] 0 (Nat.le_refl _) (by simp [maxLen]) rfl)
  have HX := Lib.hid (HOX.out.below hal)
  have HY := Lib.hid (HOY.out.below hal)
  have HZ := Lib.hid (HOZ.out.below hal)
  have HB2 := Lib.hid (HB.out.trans (hal.mono HB.out.size))
  have HSZ := Lib.hid hal.size
  have HZZ := Lib.hid hZ
  have HLT := Lib.hid (And.intro HOX.out.lt (And.intro HOY.out.lt HOZ.out.lt))
  have HL0 := Lib.hid (show ([] : List Tok).length + X.length ≤ 1000000 from by have := HLX.out.1; simp; omega)
  have HL1 := Lib.hid (show ([] ++ X : List Tok).length + Y.length ≤ 1000000 from by have := HLX.out; simp; omega)
  clear hal hZ
  go_wp2_with (at_builtin; first | (refine wpG_append_tks (by first | rfl | (simp [Region.wanted, yielded]; done)) _ _ rfl w8.heap.size HSZ.out (.slice (some ⟨w8.heap.size, 0, none⟩) 0 0) [] rfl HE.out w2.heap.size (.slice ax X.length cx) X rfl HX.out HNX.out HL0.out ?_; intro v9 w9 ho9 hg9) | (refine wpG_append_tks (by first | rfl | (simp [Region.wanted, yielded]; done)) _ _ rfl w8.heap.size (Nat.le_trans HSZ.out hg9.size) v9 ([] ++ X) rfl ho9 w4.heap.size (.slice ay Y.length cy) Y rfl (owk_grown HY.out hg9 (fun q hq e => by have := HLT.out.2.1 q hq; have e2 : w8.heap.size = q := Option.some.inj e; omega)) HNY.out HL1.out ?_; intro v10 w10 ho10 hg10))
  have hz9 := owk_grown HZ.out hg9 (fun q hq e => by have := HLT.out.2.2 q hq; have e2 : w8.heap.size = q := Option.some.inj e; omega)
  have h9 : ∀ q, v9.ownBlock = some q → w8.heap.size ≤ q := fun q hq => (ho9.lt q hq).1
  have hz10 := owk_grown hz9 hg10 (fun q hq e => by have := HLT.out.2.2 q hq; have := h9 q e; omega)
  have hb9 := Below.grown HB2.out hg9 HB2.out.size (fun q hq => by have e2 : w8.heap.size = q := Option.some.inj hq; have := HB.out.size; omega)
  have hb10 := Below.grown hb9 hg10 hb9.size (fun q hq => by have := h9 q hq; have := HB.out.size; omega)
  rw [List.nil_append, ← HZZ.out] at ho10
  have hzl : Z.length ≤ 1000000 := by have := HL1.out; rw [List.nil_append, ← List.length_append, ← HZZ.out] at this; exact this
  refine (same11_any hz10 ho10 hzl).mono ?_
  rintro e w11 ⟨rfl, hb⟩
  have HBE := Lib.hid (hb10.trans (hb.mono hb10.size))
  clear hb
  go_wp2_with fail
  go_ret
  exact ⟨rfl, HBE.out⟩
end Go.Proofs.YtmeoleacfkbilaaDoor
