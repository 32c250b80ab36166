/- Gp -/
import Derived.Test.YtbpdapcmaioeiaaGreatKGn
namespace Go.Proofs.YtbpdapcmaioeiaaGreat
open Go.RowKit Go.Maps
set_option maxRecDepth 100000
set_option linter.unusedVariables false
def stepV (i lvl : Int) (v : Value) (k : Int) : Value := .agg #[.int .i64 i, .int .i64 lvl, v, .int .i64 k]
theorem kids_any (i lvl : Int) (ao : Option Addr) (n cap : Nat) (hn : n ≤ 10000) (w : World) :
 Calls Tryz.prog 89 #[nodeV i lvl (.slice ao n cap)] w fun e w' => e = .returned (.int .i64 (if lvl = 0 then 0 else n)) ∧ Below w.heap.size w w' := by
 have hal : Below w.heap.size w (w.alloc (.cells #[.int .i64 i, .int .i64 lvl, .slice ao n cap] 140)) := (Below.refl _ w).alloc (Nat.le_refl _) _
 have HAL := Lib.hid hal
 clear hal
 unfold nodeV
 by_cases hl : lvl = 0
 ·subst hl
  go_enter Tryz.func89, Tryz.ntmps89
  go_wp2_with fail
  go_ret
  exact ⟨rfl, HAL.out⟩
 ·go_enter Tryz.func89, Tryz.ntmps89
  go_wp2_with fail
  go_ret
  exact ⟨rfl, HAL.out⟩
def sizes (lvl : Int) (es : List Ent) : Nat := (es.map (esize lvl)).sum
theorem sizes_snoc (lvl : Int) (es : List Ent) (e : Ent) : sizes lvl (es ++ [e]) = sizes lvl es + esize lvl e := by unfold sizes; simp
theorem esize_le {lvl : Int} {e : Ent} (h : EntOk e) : esize lvl e ≤ 2000003 := by
 unfold esize
 obtain ⟨h1, h2⟩ := h
 split <;> omega
theorem sizes_le {lvl : Int} {M : Nat} : ∀ {es : List Ent}, (∀ e ∈ es, esize lvl e ≤ M) → sizes lvl es ≤ es.length * M
 | [], _ => Nat.zero_le _
 | e :: t, h => by
  have h1 := h e (List.mem_cons_self ..)
  have h2 := sizes_le (es := t) (fun x hx => h x (List.mem_cons_of_mem _ hx))
  show esize lvl e + sizes lvl t ≤ (t.length + 1) * M
  rw [Nat.succ_mul, Nat.add_comm]
  exact Nat.add_le_add h2 h1
/-- has: the entry at the step's place has the key. -/
def hasOf (es : List Ent) (k : Nat) (key : ByteArray) : Bool := match es[k]? with
 | some e => e.key.toList == key.toList
 | none => false
set_option maxHeartbeats 1000000 in
theorem has_any (i lvl : Int) (v : Value) (es : List Ent) (k : Nat) (key : ByteArray) (w : World) (hes : Ens w v es) (hn : es.length ≤ 10000) (hk : k ≤ es.length) :
 Calls Tryz.prog 73 #[stepV i lvl v k, .string key] w fun e w' => e = .returned (.bool (hasOf es k key)) ∧ Below w.heap.size w w' := by
 obtain ⟨ao, cap, rfl, hc1, hc2⟩ := hes.form
 obtain ⟨n, hn'⟩ : ∃ n, n = es.length := ⟨_, rfl⟩
 have hal : Below w.heap.size w (w.alloc (.cells #[.int .i64 i, .int .i64 lvl, .slice ao n cap, .int .i64 k] 142)) := (Below.refl _ w).alloc (Nat.le_refl _) _
 have hb := Blk.new w #[.int .i64 i, .int .i64 lvl, .slice ao n cap, .int .i64 k] 142
 have HES := Lib.hid hes
 have HN := Lib.hid hn'
 rw [← hn'] at hc1 hn hk HES ⊢
 unfold stepV
 by_cases hlt : k < n
 ·have hke : k < es.length := by rw [← hn']; exact hlt
  obtain ⟨b, off, cp, hsl, -, -, hbs, hce⟩ := (hes.below hal).at (by omega)
  rw [← hn'] at hsl
  simp only [Value.slice.injEq, true_and] at hsl
  obtain ⟨rfl, rfl⟩ := hsl
  obtain ⟨d0, d1, d2⟩ := hce k hke
  obtain ⟨e, he⟩ : ∃ y, y = es[k] := ⟨_, rfl⟩
  rw [← he] at d0
  have hh : hasOf es k key = (e.key.toList == key.toList) := by unfold hasOf; rw [List.getElem?_eq_getElem hke, ← he]
  rw [hh]
  have HAL := Lib.hid hal
  have hlt' : (k : Int) < n := by omega
  have a3 : (w.alloc (.cells #[.int .i64 i, .int .i64 lvl, .slice (some ⟨b, off, none⟩) n cap, .int .i64 k] 142)).cell? ⟨w.heap.size, 3, none⟩ = some (.int .i64 k) := by rw [hb.cell]; rfl
  have a2 : (w.alloc (.cells #[.int .i64 i, .int .i64 lvl, .slice (some ⟨b, off, none⟩) n cap, .int .i64 k] 142)).cell? ⟨w.heap.size, 2, none⟩ = some (.slice (some ⟨b, off, none⟩) n cap) := by rw [hb.cell]; rfl
  clear hes hn' hal hb hce d1 d2 he hh hbs
  go_enter Tryz.func73, Tryz.ntmps73
  go_wp2_with fail
  go_ret
  exact ⟨rfl, HAL.out⟩
 ·have hh : hasOf es k key = false := by unfold hasOf; rw [List.getElem?_eq_none (by omega)]
  rw [hh]
  have HAL := Lib.hid hal
  clear hes hn' hal hb hh
  go_enter Tryz.func73, Tryz.ntmps73
  go_wp2_with fail
  go_ret
  exact ⟨rfl, HAL.out⟩
set_option maxHeartbeats 2000000 in
theorem good_any (i lvl : Int) (v : Value) (es : List Ent) (w : World) (hes : Ens w v es) (hn : es.length ≤ 1000) (hok : ∀ e ∈ es, EntOk e) :
 Calls Tryz.prog 116 #[nodeV i lvl v] w fun e w' => e = .returned (.bool (decide (251 ≤ sizes lvl es) && decide (sizes lvl es ≤ 502))) ∧ Below w.heap.size w w' := by
 obtain ⟨ao, cap, rfl, hc1, hc2⟩ := hes.form
 obtain ⟨n, hn'⟩ : ∃ n, n = es.length := ⟨_, rfl⟩
 have hal : Below w.heap.size w (w.alloc (.cells #[.int .i64 i, .int .i64 lvl, .slice ao n cap] 140)) := (Below.refl _ w).alloc (Nat.le_refl _) _
 have hb := Blk.new w #[.int .i64 i, .int .i64 lvl, .slice ao n cap] 140
 have HN := Lib.hid hn'
 rw [← hn'] at hc1 hn hes ⊢
 obtain ⟨w1, hw1⟩ : ∃ w1, w1 = w.alloc (.cells #[.int .i64 i, .int .i64 lvl, .slice ao n cap] 140) := ⟨_, rfl⟩
 rw [← hw1] at hal hb
 have hes1 : Ens w1 (.slice ao n cap) es := Ens.below hes hal
 have a2 : w1.cell? ⟨w.heap.size, 2, none⟩ = some (.slice ao n cap) := by rw [hb.cell]; rfl
 have a1 : w1.cell? ⟨w.heap.size, 1, none⟩ = some (.int .i64 lvl) := by rw [hb.cell]; rfl
 have HLT := Lib.hid hb.lt
 have A1 := Lib.hid a1
 have HAL := Lib.hid hal
 have HES := Lib.hid hes1
 have HW1 := Lib.hid hw1
 have HOK := Lib.hid hok
 unfold nodeV
 clear hes hn' hal hb hes1 hw1 hok
 go_enter Tryz.func116, Tryz.ntmps116
 go_wp2_with fail
 rw [← HW1.out]
 go_loopw [3, 9] (fun s i wr => ∃ k m : Nat, k ≤ n ∧ i = .int .i64 k ∧ s = .int .i64 m ∧ m = sizes lvl (es.take k) ∧ Below w1.heap.size w1 wr) (fun _ i _ => n - (intOf i).toNat)
 case atStart => exact ⟨0, 0, Nat.zero_le _, rfl, rfl, by simp [sizes], Below.refl _ _⟩
 case round =>
  obtain ⟨k, m, hk, rfl, rfl, hm, hb⟩ := hrel
  have hm1 : m ≤ 2000003000 := by
   rw [hm]
   refine Nat.le_trans (sizes_le (M := 2000003) (fun e he => esize_le (HOK.out e (List.mem_of_mem_take he)))) ?_
   have : (es.take k).length ≤ 1000 := by rw [List.length_take]; omega
   omega
  have HM := Lib.hid hm
  have HB := Lib.hid hb
  clear hm hb
  by_cases hlt : k < n
  ·have hke : k < es.length := by rw [← HN.out]; exact hlt
   obtain ⟨b, off, cp, hsl, -, -, hbs, hce⟩ := (HES.out.below HB.out).at (by omega)
   rw [← HN.out] at hsl
   simp only [Value.slice.injEq, true_and] at hsl
   obtain ⟨rfl, rfl⟩ := hsl
   obtain ⟨d0, d1, d2⟩ := hce k hke
   obtain ⟨e, he⟩ : ∃ y, y = es[k] := ⟨_, rfl⟩
   rw [← he] at d0 d1 d2
   have hoke := HOK.out e (by rw [he]; exact List.getElem_mem _)
   have hst : sizes lvl (es.take (k + 1)) = m + esize lvl e := by rw [List.take_succ_eq_append_getElem hke, sizes_snoc, HM.out, he]
   have hal2 : Below wr.heap.size wr (wr.alloc (.cells #[.string e.key, .string e.val, .int .i64 e.kid] 121)) := (Below.refl _ wr).alloc (Nat.le_refl _) _
   have b1 : (wr.alloc (.cells #[.string e.key, .string e.val, .int .i64 e.kid] 121)).cell? ⟨w.heap.size, 1, none⟩ = some (.int .i64 lvl) := ((HB.out.trans (hal2.mono HB.out.size)).cell (show (⟨w.heap.size, 1, none⟩ : Addr).block < _ from HLT.out)).trans A1.out
   have hsz := esize_le (lvl := lvl) hoke
   have HST := Lib.hid hst
   have HAL2 := Lib.hid (HB.out.trans (hal2.mono HB.out.size))
   have HOKE := Lib.hid hoke
   have hlt' : (k : Int) < n := by omega
   clear hce he hoke hst hal2 hbs
   go_wp2_with fail
   refine (esize_any e lvl HOKE.out.1 HOKE.out.2 _).mono ?_
   rintro en w4 ⟨rfl, hb4⟩
   have HB4 := Lib.hid (HAL2.out.trans (hb4.mono HAL2.out.size))
   obtain ⟨q, hq⟩ : ∃ q, q = esize lvl e := ⟨_, rfl⟩
   rw [← hq] at hsz ⊢
   have HQ := Lib.hid hq
   clear hb4 hq b1
   go_wp2_with fail
   go_roundw
   case rel => exact ⟨k + 1, m + q, by omega, by go_num, by go_num, by rw [HST.out, ← HQ.out], HB4.out⟩
   case measure => simp [intOf]; omega
  ·obtain rfl : n = k := by omega
   have hms : m = sizes lvl es := by rw [HM.out, HN.out, List.take_length]
   have HS := Lib.hid hms
   clear hms
   by_cases g1 : (251 : Int) ≤ m
   ·by_cases g2 : (m : Int) ≤ 502
    ·go_wp2_with fail
     go_ret
     refine ⟨?_, HAL.out.trans (HB.out.mono HAL.out.size)⟩
     rw [← HS.out, decide_eq_true (show 251 ≤ m by omega), decide_eq_true (show m ≤ 502 by omega)]
     rfl
    ·go_wp2_with fail
     go_ret
     refine ⟨?_, HAL.out.trans (HB.out.mono HAL.out.size)⟩
     rw [← HS.out, decide_eq_false (show ¬ m ≤ 502 by omega), Bool.and_false]
     rfl
   ·go_wp2_with fail
    go_ret
    refine ⟨?_, HAL.out.trans (HB.out.mono HAL.out.size)⟩
    rw [← HS.out, decide_eq_false (show ¬ 251 ≤ m by omega), Bool.false_and]
    rfl
end Go.Proofs.YtbpdapcmaioeiaaGreat
namespace Go.Proofs.YtbpdapcmaioeiaaGreat
open Go.RowKit Go.Maps
set_option maxRecDepth 100000
set_option linter.unusedVariables false
theorem Tryz.infoEsl : (Tryz.prog.info? 132).map (fun i => (i.zero, i.size, i.bytes)) = some (some (.slice none 0 0), 1, 24) := by kernel_rfl
/-- A row of rows of entries, the call's own; the entries' blocks are of S. -/
def Owr (w : World) (base : Nat) (S : Nat → Prop) (v : Value) (ls : List (List Ent)) : Prop :=
 ∃ vs : List Value, vs.length = ls.length ∧ w.ownsRow base 132 1 v ls.length vs ∧ ∀ j (hj : j < ls.length) (hv : j < vs.length), Ens w vs[j] ls[j] ∧ ∀ g, vs[j].ownBlock = some g → S g
theorem Owr.nil (w : World) (base : Nat) (S : Nat → Prop) : Owr w base S (.slice none 0 0) [] := ⟨[], rfl, World.ownsRow_nil _ _ _ _, fun j hj => by simp at hj⟩
theorem Owr.form {w : World} {base : Nat} {S : Nat → Prop} {v : Value} {ls : List (List Ent)} (h : Owr w base S v ls) : ∃ ao cap, v = .slice ao ls.length cap ∧ ls.length ≤ cap ∧ cap ≤ 9223372036854775807 := by
 obtain ⟨vs, -, h, -⟩ := h
 obtain ⟨ao, cap, e, h1, h2⟩ := owns_form h
 exact ⟨ao, cap, e, h1, h2⟩
theorem Owr.lt {w : World} {base : Nat} {S : Nat → Prop} {v : Value} {ls : List (List Ent)} (h : Owr w base S v ls) : ∀ q, v.ownBlock = some q → base ≤ q ∧ q < w.heap.size := by
 obtain ⟨vs, -, h, -⟩ := h; exact h.lt
theorem Owr.moved {P : Nat → Prop} {w w' : World} {base : Nat} {S : Nat → Prop} {v : Value} {ls : List (List Ent)} (h : Owr w base S v ls) (hm : Moved P w w') (hP : ∀ q, v.ownBlock = some q → ¬ P q) (hS : ∀ q, S q → ¬ P q) : Owr w' base S v ls := by
 obtain ⟨vs, h1, h2, h3⟩ := h
 exact ⟨vs, h1, owns_moved h2 hm hP, fun j hj hv => ⟨(h3 j hj hv).1.moved hm (fun _ g hg => hS g ((h3 j hj hv).2 g hg)), (h3 j hj hv).2⟩⟩
theorem Owr.below {w w' : World} {base : Nat} {S : Nat → Prop} {v : Value} {ls : List (List Ent)} (h : Owr w base S v ls) (hb : Below w.heap.size w w') : Owr w' base S v ls :=
 h.moved (Moved.of_below hb (fun _ => False)) (fun _ _ h => h) (fun _ _ h => h)
theorem Owr.mono {w : World} {base base' : Nat} {S : Nat → Prop} {v : Value} {ls : List (List Ent)} (h : Owr w base S v ls) (hb : base' ≤ base) : Owr w base' S v ls := by
 obtain ⟨vs, h1, h2, h3⟩ := h
 refine ⟨vs, h1, ⟨h2.1, ?_⟩, h3⟩
 rcases h2.2 with k | ⟨g, cap, cur, rfl, hg, k⟩
 ·exact .inl k
 ·exact .inr ⟨g, cap, cur, rfl, Nat.le_trans hb hg, k⟩
/-- The part at j. -/
theorem Owr.at {w : World} {base : Nat} {S : Nat → Prop} {v : Value} {ls : List (List Ent)} (h : Owr w base S v ls) (j : Nat) (hj : j < ls.length) : ∃ g cap u, v = .slice (some ⟨g, 0, none⟩) ls.length cap ∧ base ≤ g ∧ g < w.heap.size ∧ w.cell? ⟨g, j, none⟩ = some u ∧ Ens w u ls[j] ∧ ∀ q, u.ownBlock = some q → S q := by
 obtain ⟨vs, h1, h2, h3⟩ := h
 have hlt := h2.lt
 rcases id h2.2 with ⟨rfl, hn⟩ | ⟨g, cap, cur, rfl, hb, hh, k1, k2, k3, k4⟩
 ·omega
 ·have hjv : j < vs.length := by omega
  refine ⟨g, cap, vs[j], rfl, hb, (hlt g rfl).2, ?_, h3 j hj hjv⟩
  rw [h2.cellAt j (by omega)]
  simp [hjv]
/-- append(parts, part) -/
theorem wpList_append_part {w : World} {ops : Array Oper} {rest : List Oper} {o : Oper} {a : Act} {Q : Exit → Act → World → Prop} (hgd : o.guard = none) (s x : Operand)
 (ho : o.op = .call { callee := .builtin .append, args := #[s, x], argTypes := #[203, 203] }) (base : Nat) (hbase : base ≤ w.heap.size) (S : Nat → Prop)
 (v : Value) (ls : List (List Ent)) (hs : a.eval s = v) (hown : Owr w base S v ls) (hSv : ∀ q, S q → v.ownBlock ≠ some q)
 (g0 : Nat) (hx : a.eval x = .slice (some ⟨g0, 0, none⟩) 1 1) (u : Value) (l : List Ent) (hg : Blk w g0 #[u] 132) (hu : Ens w u l) (hS : ∀ q, u.ownBlock = some q → S q) (n : Nat) (hn : n = ls.length + 1) (hl : n ≤ 1000000)
 (h : ∀ ao cap w', Owr w' base S (.slice ao n cap) (ls ++ [l]) → n ≤ cap → cap ≤ 9223372036854775807 → w.grownBy w' v.ownBlock → wpList Tryz.prog ops Q rest (a.put o.dst (.slice ao n cap)) w') :
 wpList Tryz.prog ops Q (o :: rest) a w := by
 obtain ⟨i0, hi, hz0, hz1, hz2⟩ := info_parts Tryz.infoEsl
 obtain ⟨vs, h1, h2, h3⟩ := hown
 have hu1 : u.oneCell' = true := by
  obtain ⟨ao, c, rfl, -⟩ := hu.form
  rfl
 refine wpList_append_lies w hgd s x _ ho base 132 i0 _ 1 24 Tryz.underlying203 hi hz0 hz1 hz2 rfl (by decide) v ls.length vs hs h2 ⟨g0, 0, none⟩ 1 1 [u] hx rfl ?_ ?_ (by decide) (by simp [maxLen]; omega) (by omega) hbase _ rfl ?_
 ·intro j z hj
  rw [show (⟨g0, 0, none⟩ : Addr).add j = ⟨g0, j, none⟩ from by unfold Addr.add; split <;> simp_all, hg.cell]
  simpa using hj
 ·intro z hz
  simp at hz
  subst hz
  exact hu1
 ·intro g cap w' k1 k2 k3 k4
  subst hn
  have hk := owns_form k1
  obtain ⟨aox, capx, ex, hx1, hx2⟩ := hk
  simp only [Value.slice.injEq] at ex
  obtain ⟨-, -, rfl⟩ := ex
  have hm : Moved (fun q => v.ownBlock = some q) w w' := ⟨k2.os, k2.tape, k2.output, k2.size, fun q hq hn => k2.block q hq (fun e => hn e.symm)⟩
  refine h _ _ w' ⟨vs ++ [u], by simp [h1], by simpa using k1, fun j hj hv => ?_⟩ hx1 hx2 k2
  by_cases e : j < ls.length
  ·have hjv : j < vs.length := by omega
   simp only [List.getElem_append_left hjv, List.getElem_append_left e]
   exact ⟨(h3 j e hjv).1.moved hm (fun _ q hq => hSv q ((h3 j e hjv).2 q hq)), (h3 j e hjv).2⟩
  ·have hj' : j = ls.length := by rw [List.length_append] at hj; simp at hj; omega
   subst hj'
   have e1 : (vs ++ [u])[ls.length]'hv = u := by
    rw [List.getElem_append_right (by omega)]; simp [h1]
   have e2 : (ls ++ [l])[ls.length]'hj = l := by
    rw [List.getElem_append_right (Nat.le_refl _)]; simp
   simp only [e1, e2]
   exact ⟨hu.moved hm (fun _ q hq => hSv q (hS q hq)), hS⟩
/-- parted, plain. -/
def pstep (lvl : Int) (most : Int) (st : List (List Ent) × List Ent) (x : Ent) : List (List Ent) × List Ent :=
 if st.2 ≠ [] ∧ most < (sizes lvl st.2 + esize lvl x : Nat) then (st.1 ++ [st.2], [x]) else (st.1, st.2 ++ [x])
def pstate (lvl most : Int) (es : List Ent) : List (List Ent) × List Ent := es.foldl (pstep lvl most) ([], [])
def partedOf (lvl most : Int) (es : List Ent) : List (List Ent) := (pstate lvl most es).1 ++ [(pstate lvl most es).2]
theorem pstate_snoc (lvl most : Int) (es : List Ent) (x : Ent) : pstate lvl most (es ++ [x]) = pstep lvl most (pstate lvl most es) x := by unfold pstate; rw [List.foldl_append]; rfl
theorem snoc_ind {α : Type} {P : List α → Prop} (h0 : P []) (h1 : ∀ l x, P l → P (l ++ [x])) (l : List α) : P l := by
 rw [← List.reverse_reverse l]
 induction l.reverse with
 | nil => exact h0
 | cons x t ih => rw [List.reverse_cons]; exact h1 _ _ ih
theorem pstate_len (lvl most : Int) (es : List Ent) : (pstate lvl most es).1.length ≤ es.length := by
 refine snoc_ind (P := fun es => (pstate lvl most es).1.length ≤ es.length) (Nat.le_refl _) (fun es x ih => ?_) es
 rw [pstate_snoc]
 unfold pstep
 split
 ·simp only [List.length_append, List.length_cons, List.length_nil]; omega
 ·simp only [List.length_append, List.length_cons, List.length_nil]; omega
theorem Ens.sub {w : World} {b off n cap : Nat} {es : List Ent} (h : Ens w (.slice (some ⟨b, off, none⟩) n cap) es) (hn : n = es.length) (f k : Nat) (hf : f ≤ k) (hk : k ≤ n) (hc : f < cap) :
 Ens w (.slice (some ⟨b, off + f * 3, none⟩) (k - f) (cap - f)) ((es.take k).drop f) := by
 subst hn
 have h1 := h.takes k hk
 have hl : (es.take k).length = k := by rw [List.length_take]; omega
 have h1' : Ens w (.slice (some ⟨b, off, none⟩) (es.take k).length cap) (es.take k) := by rw [hl]; exact h1
 have h2 := Ens.drops h1' f (by rw [hl]; exact hf)
 rw [if_neg (by omega), hl] at h2
 have e : Option.map (fun x : Addr => x.add (f * 3)) (some ⟨b, off, none⟩) = some ⟨b, off + f * 3, none⟩ := by simp [Addr.add_lit]
 rw [e] at h2
 exact h2
set_option maxHeartbeats 4000000 in
theorem parted_any (v : Value) (es : List Ent) (lvl most : Int) (w : World) (hes : Ens w v es) (hn : es.length ≤ 10000) (hok : ∀ e ∈ es, EntOk e) (hvb : ∀ q, v.ownBlock = some q → q < w.heap.size) :
 Calls Tryz.prog 159 #[v, .int .i64 lvl, .int .i64 most] w fun e w' => ∃ v', e = .returned v' ∧ Owr w' w.heap.size (fun q => v.ownBlock = some q) v' (partedOf lvl most es) ∧ Below w.heap.size w w' := by
 obtain ⟨ao, cap, rfl, hc1, hc2⟩ := hes.form
 obtain ⟨n, hn'⟩ : ∃ n, n = es.length := ⟨_, rfl⟩
 have HN := Lib.hid hn'
 have HES := Lib.hid hes
 have HOK := Lib.hid hok
 have HVB := Lib.hid hvb
 rw [← hn'] at hc1 hn HES HVB ⊢
 clear hes hn' hok hvb
 go_enter Tryz.func159, Tryz.ntmps159
 go_wp2_with fail
 go_loopw [7, 8, 9, 10, 11, 14] (fun v7 v8 v9 _ _ i wr => ∃ (k f m np : Nat) (ao7 : Option Addr) (cap7 : Nat), k ≤ n ∧ i = .int .i64 k ∧ v8 = .int .i64 f ∧ v9 = .int .i64 m ∧ v7 = .slice ao7 np cap7 ∧ np ≤ cap7 ∧ cap7 ≤ 9223372036854775807 ∧ np ≤ k ∧ np = (pstate lvl most (es.take k)).1.length ∧
  f ≤ k ∧ (pstate lvl most (es.take k)).2 = (es.take k).drop f ∧ m = sizes lvl ((es.take k).drop f) ∧ Owr wr w.heap.size (fun q => (Value.slice ao n cap).ownBlock = some q) v7 (pstate lvl most (es.take k)).1 ∧ Below w.heap.size w wr) (fun _ _ _ _ _ i _ => n - (intOf i).toNat)
 case atStart => exact ⟨0, 0, 0, 0, none, 0, Nat.zero_le _, rfl, rfl, rfl, rfl, Nat.le_refl _, by decide, Nat.le_refl _, by simp [pstate], Nat.le_refl _, by simp [pstate], by simp [sizes], by simpa [pstate] using Owr.nil _ _ _, Below.refl _ _⟩
 case round =>
  obtain ⟨k, f, m, np, ao7, cap7, hk, rfl, rfl, rfl, rfl, hp1, hp2, hp3, hnp, hf, hcur, hm, hrow, hb⟩ := hrel
  have HNP := Lib.hid hnp
  have HCUR := Lib.hid hcur
  have HM := Lib.hid hm
  have HROW := Lib.hid hrow
  have HB := Lib.hid hb
  have hm1 : m ≤ 20000030000 := by
   rw [hm]
   refine Nat.le_trans (sizes_le (M := 2000003) (fun e he => esize_le (HOK.out e (List.mem_of_mem_take (List.mem_of_mem_drop he))))) ?_
   have : ((es.take k).drop f).length ≤ 10000 := by rw [List.length_drop, List.length_take]; omega
   omega
  clear hnp hcur hm hrow hb
  by_cases hlt : k < n
  ·have hke : k < es.length := by rw [← HN.out]; exact hlt
   obtain ⟨b, off, cp, hsl, -, -, hbs, hce⟩ := (Ens.below HES.out HB.out).at (by omega)
   rw [← HN.out] at hsl
   simp only [Value.slice.injEq, true_and] at hsl
   obtain ⟨rfl, rfl⟩ := hsl
   have hbw : b < w.heap.size := Ens.lt HES.out (by omega) b rfl
   have HBW := Lib.hid hbw
   obtain ⟨d0, d1, d2⟩ := hce k hke
   obtain ⟨e, he⟩ : ∃ y, y = es[k] := ⟨_, rfl⟩
   rw [← he] at d0 d1 d2
   have hoke := HOK.out e (by rw [he]; exact List.getElem_mem _)
   have hst : es.take (k + 1) = es.take k ++ [e] := by rw [List.take_succ_eq_append_getElem hke, he]
   have hps : pstate lvl most (es.take (k + 1)) = pstep lvl most (pstate lvl most (es.take k)) e := by rw [hst, pstate_snoc]
   have hlk : (es.take k).length = k := by rw [List.length_take]; omega
   have hal : Below wr.heap.size wr (wr.alloc (.cells #[.string e.key, .string e.val, .int .i64 e.kid] 121)) := (Below.refl _ wr).alloc (Nat.le_refl _) _
   have hbk := Blk.new wr #[.string e.key, .string e.val, .int .i64 e.kid] 121
   have hsz := esize_le (lvl := lvl) hoke
   obtain ⟨q, hq⟩ : ∃ q, q = esize lvl e := ⟨_, rfl⟩
   rw [← hq] at hsz
   have hsize := fun w => esize_any e lvl hoke.1 hoke.2 w
   rw [← hq] at hsize
   have hsub : f < k → Ens wr (.slice (some ⟨b, off + f * 3, none⟩) (k - f) (cap - f)) ((es.take k).drop f) := fun hfk => Ens.sub (Ens.below HES.out HB.out) HN.out f k hf (by omega) (by omega)
   have HSUB := Lib.hid hsub
   have HSIZE := Lib.hid hsize
   have HPS := Lib.hid hps
   have HST := Lib.hid hst
   have HLK := Lib.hid hlk
   have hdk : (es.take (k + 1)).drop k = [e] := by rw [hst, List.drop_append_of_le_length (by omega), List.drop_of_length_le (by omega)]; rfl
   have HDK := Lib.hid hdk
   clear hdk
   have HQ := Lib.hid hq
   have HAL := Lib.hid hal
   have HBK := Lib.hid hbk
   have hlt' : (k : Int) < n := by omega
   clear hce he hoke hst hps hlk hal hbk hq hsize hsub hbs hbw
   by_cases hfk : f < k
   ·have hfk' : (f : Int) < k := by omega
    go_wp2_with fail
    refine (HSIZE.out _).mono ?_
    rintro en w2 ⟨rfl, hb2⟩
    have e0 : w2.cell? ⟨wr.heap.size, 0, none⟩ = some (.string e.key) := by rw [(HBK.out.moved (Moved.of_below hb2 (fun _ => False)) (fun h => h)).cell]; rfl
    have e1 : w2.cell? ⟨wr.heap.size, 1, none⟩ = some (.string e.val) := by rw [(HBK.out.moved (Moved.of_below hb2 (fun _ => False)) (fun h => h)).cell]; rfl
    have e2 : w2.cell? ⟨wr.heap.size, 2, none⟩ = some (.int .i64 e.kid) := by rw [(HBK.out.moved (Moved.of_below hb2 (fun _ => False)) (fun h => h)).cell]; rfl
    have HB2 := Lib.hid (HB.out.trans ((HAL.out.trans (hb2.mono HAL.out.size)).mono HB.out.size))
    have HB22 := Lib.hid (HAL.out.trans (hb2.mono HAL.out.size))
    clear hb2
    by_cases hbig : most < (m : Int) + q
    ·have hcf : ¬ cap = f := by omega
     have j1 : (k : Int) ≤ cap := by omega
     have hcond : pstate lvl most (es.take (k + 1)) = ((pstate lvl most (es.take k)).1 ++ [(es.take k).drop f], [e]) := by
      rw [HPS.out]
      unfold pstep
      rw [HCUR.out, if_pos ⟨fun h0 => by have := congrArg List.length h0; rw [List.length_drop, HLK.out] at this; simp at this; omega, by rw [← HM.out, ← HQ.out]; omega⟩]
     have HPX := Lib.hid hcond
     have halp : Below w2.heap.size w2 (w2.alloc (.cells #[.slice (some ⟨b, off + f * 3, none⟩) (k - f) (cap - f)] 132)) := (Below.refl _ w2).alloc (Nat.le_refl _) _
     have HBP := Lib.hid (Blk.new w2 #[.slice (some ⟨b, off + f * 3, none⟩) (k - f) (cap - f)] 132)
     have HROWP := Lib.hid (Owr.below (Owr.below HROW.out HB22.out) halp)
     have HSUBP := Lib.hid (((HSUB.out hfk).below HB22.out).below halp)
     have HBB := Lib.hid (HB2.out.trans (halp.mono HB2.out.size))
     have hSv : ∀ q, (Value.slice (some ⟨b, off, none⟩) n cap).ownBlock = some q → (Value.slice ao7 np cap7).ownBlock ≠ some q := fun q hq e => by
      have h1 := (HROW.out.lt q e).1
      have h2 : b = q := Option.some.inj hq
      have := HBW.out
      omega
     have HSV := Lib.hid hSv
     have hnp1 : np + 1 = (pstate lvl most (es.take k)).1.length + 1 := by rw [HNP.out]
     have HNP1 := Lib.hid hnp1
     have hnpl : np + 1 ≤ 1000000 := by omega
     have HNPL := Lib.hid hnpl
     have HE0 := Lib.hid e0
     have HE1 := Lib.hid e1
     have HE2 := Lib.hid e2
     have HROWLT := Lib.hid HROW.out.lt
     have hcell : ∀ w5 : World, (w2.alloc (.cells #[.slice (some ⟨b, off + f * 3, none⟩) (k - f) (cap - f)] 132)).grownBy w5 (Value.slice ao7 np cap7).ownBlock → w5.cell? ⟨wr.heap.size, 0, none⟩ = some (.string e.key) ∧ w5.cell? ⟨wr.heap.size, 1, none⟩ = some (.string e.val) ∧ w5.cell? ⟨wr.heap.size, 2, none⟩ = some (.int .i64 e.kid) := by
      intro w5 hg
      have hl2 : wr.heap.size < w2.heap.size := World.block_lt_of_cell? w2 _ e0
      have hbk : w5.heap[wr.heap.size]? = w2.heap[wr.heap.size]? := (hg.block wr.heap.size (Nat.lt_of_lt_of_le hl2 halp.size) (fun h => by have := (HROW.out.lt _ h.symm).2; omega)).trans (halp.block _ hl2)
      exact ⟨(World.cell?_of_block (a := ⟨wr.heap.size, 0, none⟩) hbk).trans e0, (World.cell?_of_block (a := ⟨wr.heap.size, 1, none⟩) hbk).trans e1, (World.cell?_of_block (a := ⟨wr.heap.size, 2, none⟩) hbk).trans e2⟩
     have HCELL := Lib.hid hcell
     clear hcond halp hSv hnp1 hnpl e0 e1 e2 d0 d1 d2 hcell
     go_wp2_with (at_builtin; refine wpList_append_part rfl _ _ rfl w.heap.size HBB.out.size (fun q => (Value.slice (some ⟨b, off, none⟩) n cap).ownBlock = some q) (.slice ao7 np cap7) (pstate lvl most (es.take k)).1 rfl HROWP.out HSV.out w2.heap.size rfl (.slice (some ⟨b, off + f * 3, none⟩) (k - f) (cap - f)) ((es.take k).drop f) HBP.out HSUBP.out (fun q hq => hq) (np + 1) HNP1.out HNPL.out ?_; intro ao5 cap5 w5 ho5 hx5 hy5 hg5; obtain ⟨f0, f1, f2⟩ := HCELL.out w5 hg5)
     have HB5 := Lib.hid (HBB.out.grown hg5 HBB.out.size (fun q hq => (HROWLT.out q hq).1))
     have HO5 := Lib.hid ho5
     clear ho5 hg5
     refine (HSIZE.out _).mono ?_
     rintro en w9 ⟨rfl, hb9⟩
     have HB9 := Lib.hid (HB5.out.trans (hb9.mono HB5.out.size))
     have HROW9 := Lib.hid (Owr.below HO5.out hb9)
     clear hb9
     go_wp2_with fail
     go_roundw
     case rel => exact ⟨k + 1, k, q, np + 1, _, _, by omega, by go_num, rfl, by go_num, rfl, hx5, hy5, by omega, by rw [HPX.out, List.length_append, ← HNP.out]; rfl, by omega, by rw [HPX.out, HDK.out], by rw [HDK.out, HQ.out]; simp [sizes], by rw [HPX.out]; exact HROW9.out, HB9.out⟩
     case measure => simp [intOf]; omega
    ·have hcond : pstate lvl most (es.take (k + 1)) = ((pstate lvl most (es.take k)).1, (es.take k).drop f ++ [e]) := by
      rw [HPS.out]
      unfold pstep
      rw [HCUR.out, if_neg (fun h => by have := h.2; rw [← HM.out, ← HQ.out] at this; omega)]
     have HPX := Lib.hid hcond
     have hdr : (es.take (k + 1)).drop f = (es.take k).drop f ++ [e] := by rw [HST.out, List.drop_append_of_le_length (by rw [HLK.out]; omega)]
     have HDR := Lib.hid hdr
     clear hcond hdr
     have HBX := HB2
     have HOX := Lib.hid (Owr.below HROW.out HB22.out)
     go_wp2_with fail
     refine (HSIZE.out _).mono ?_
     rintro en w9 ⟨rfl, hb9⟩
     have HB9 := Lib.hid (HBX.out.trans (hb9.mono HBX.out.size))
     have HROW9 := Lib.hid (Owr.below HOX.out hb9)
     clear hb9
     go_wp2_with fail
     go_roundw
     case rel => exact ⟨k + 1, f, m + q, np, _, _, by omega, by go_num, rfl, by go_num, rfl, hp1, hp2, by omega, by rw [HPX.out]; exact HNP.out, by omega, by rw [HPX.out, HDR.out], by rw [HDR.out, sizes_snoc, ← HM.out, ← HQ.out], by rw [HPX.out]; exact HROW9.out, HB9.out⟩
     case measure => simp [intOf]; omega
   ·obtain rfl : f = k := by omega
    have hcond : pstate lvl most (es.take (f + 1)) = ((pstate lvl most (es.take f)).1, (es.take f).drop f ++ [e]) := by
     rw [HPS.out]
     unfold pstep
     rw [HCUR.out, if_neg (fun h => h.1 (List.drop_of_length_le (by rw [HLK.out]; exact Nat.le_refl _)))]
    have HPX := Lib.hid hcond
    have hdr : (es.take (f + 1)).drop f = (es.take f).drop f ++ [e] := by rw [HST.out, List.drop_append_of_le_length (by rw [HLK.out]; omega)]
    have HDR := Lib.hid hdr
    clear hcond hdr
    have HBX := Lib.hid (HB.out.trans (HAL.out.mono HB.out.size))
    have HOX := Lib.hid (Owr.below HROW.out HAL.out)
    go_wp2_with fail
    refine (HSIZE.out _).mono ?_
    rintro en w9 ⟨rfl, hb9⟩
    have HB9 := Lib.hid (HBX.out.trans (hb9.mono HBX.out.size))
    have HROW9 := Lib.hid (Owr.below HOX.out hb9)
    clear hb9
    go_wp2_with fail
    go_roundw
    case rel => exact ⟨f + 1, f, m + q, np, _, _, by omega, by go_num, rfl, by go_num, rfl, hp1, hp2, by omega, by rw [HPX.out]; exact HNP.out, by omega, by rw [HPX.out, HDR.out], by rw [HDR.out, sizes_snoc, ← HM.out, ← HQ.out], by rw [HPX.out]; exact HROW9.out, HB9.out⟩
    case measure => simp [intOf]; omega
  ·obtain rfl : n = k := by omega
   by_cases hcf : cap = f
   ·have halp : Below wr.heap.size wr (wr.alloc (.cells #[Value.slice ao 0 0] 132)) := (Below.refl _ wr).alloc (Nat.le_refl _) _
    have HBP := Lib.hid (Blk.new wr #[Value.slice ao 0 0] 132)
    have HROWP := Lib.hid (Owr.below HROW.out halp)
    have hdr : Ens wr (Value.slice ao 0 0) (es.drop f) := by
     rw [List.drop_of_length_le (by rw [← HN.out]; omega)]
     exact ⟨rfl, ao, 0, rfl, Nat.le_refl _, by simp [maxLen], fun _ => rfl, fun ad had j u hu => by simp [ecells] at hu⟩
    obtain rfl : f = n := by omega
    obtain rfl : f = cap := by omega
    have HSUBP := Lib.hid (hdr.below halp)
    have HBB := Lib.hid (HB.out.trans (halp.mono HB.out.size))
    have HOB := Lib.hid (show ∀ q, (Value.slice ao 0 0).ownBlock = some q → (Value.slice ao f f).ownBlock = some q from fun q hq => by cases ao <;> exact hq)
    have HSV := Lib.hid (show ∀ q, (Value.slice ao f f).ownBlock = some q → (Value.slice ao7 np cap7).ownBlock ≠ some q from fun q hq e => by
     have h1 := (HROW.out.lt q e).1
     have h2 := HVB.out q hq
     omega)
    have HNP1 := Lib.hid (show np + 1 = (pstate lvl most (es.take f)).1.length + 1 by rw [HNP.out])
    have HNPL := Lib.hid (show np + 1 ≤ 1000000 by omega)
    have HROWLT := Lib.hid HROW.out.lt
    have hfin : (pstate lvl most (es.take f)).1 ++ [es.drop f] = partedOf lvl most es := by
     unfold partedOf
     have e1 : es.take f = es := by rw [HN.out, List.take_length]
     have := HCUR.out
     rw [e1] at this ⊢
     rw [this]
    have HFIN := Lib.hid hfin
    clear halp hdr hfin
    go_wp2_with (at_builtin; refine wpList_append_part rfl _ _ rfl w.heap.size HBB.out.size (fun q => (Value.slice ao f f).ownBlock = some q) (.slice ao7 np cap7) (pstate lvl most (es.take f)).1 rfl HROWP.out HSV.out wr.heap.size rfl (Value.slice ao 0 0) (es.drop f) HBP.out HSUBP.out HOB.out (np + 1) HNP1.out HNPL.out ?_; intro ao5 cap5 w5 ho5 hx5 hy5 hg5)
    go_ret
    refine ⟨_, rfl, ?_, HBB.out.grown hg5 HBB.out.size (fun q hq => (HROWLT.out q hq).1)⟩
    rw [← HFIN.out]
    exact ho5
   ·have halp : Below wr.heap.size wr (wr.alloc (.cells #[Value.slice (Option.map (fun x => x.add (f * 3)) ao) (n - f) (cap - f)] 132)) := (Below.refl _ wr).alloc (Nat.le_refl _) _
    have HBP := Lib.hid (Blk.new wr #[Value.slice (Option.map (fun x => x.add (f * 3)) ao) (n - f) (cap - f)] 132)
    have HROWP := Lib.hid (Owr.below HROW.out halp)
    have hdr := Ens.drops (es := es) (show Ens wr (.slice ao es.length cap) es by rw [← HN.out]; exact Ens.below HES.out HB.out) f (by rw [← HN.out]; exact hf)
    rw [← HN.out, if_neg hcf] at hdr
    have HSUBP := Lib.hid (hdr.below halp)
    have HBB := Lib.hid (HB.out.trans (halp.mono HB.out.size))
    have HOB := Lib.hid (show ∀ q, (Value.slice (Option.map (fun x => x.add (f * 3)) ao) (n - f) (cap - f)).ownBlock = some q → (Value.slice ao n cap).ownBlock = some q from fun q hq => by cases ao with
     | none => cases hq
     | some a => simpa [Value.ownBlock, block_add] using hq)
    have HSV := Lib.hid (show ∀ q, (Value.slice ao n cap).ownBlock = some q → (Value.slice ao7 np cap7).ownBlock ≠ some q from fun q hq e => by
     have h1 := (HROW.out.lt q e).1
     have h2 := HVB.out q hq
     omega)
    have HNP1 := Lib.hid (show np + 1 = (pstate lvl most (es.take n)).1.length + 1 by rw [HNP.out])
    have HNPL := Lib.hid (show np + 1 ≤ 1000000 by omega)
    have HROWLT := Lib.hid HROW.out.lt
    have hfin : (pstate lvl most (es.take n)).1 ++ [es.drop f] = partedOf lvl most es := by
     unfold partedOf
     have e1 : es.take n = es := by rw [HN.out, List.take_length]
     have := HCUR.out
     rw [e1] at this ⊢
     rw [this]
    have HFIN := Lib.hid hfin
    clear halp hdr hfin
    go_wp2_with (at_builtin; refine wpList_append_part rfl _ _ rfl w.heap.size HBB.out.size (fun q => (Value.slice ao n cap).ownBlock = some q) (.slice ao7 np cap7) (pstate lvl most (es.take n)).1 rfl HROWP.out HSV.out wr.heap.size rfl (Value.slice (Option.map (fun x => x.add (f * 3)) ao) (n - f) (cap - f)) (es.drop f) HBP.out HSUBP.out HOB.out (np + 1) HNP1.out HNPL.out ?_; intro ao5 cap5 w5 ho5 hx5 hy5 hg5)
    go_ret
    refine ⟨_, rfl, ?_, HBB.out.grown hg5 HBB.out.size (fun q hq => (HROWLT.out q hq).1)⟩
    rw [← HFIN.out]
    exact ho5
end Go.Proofs.YtbpdapcmaioeiaaGreat
