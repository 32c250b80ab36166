/- Package value's laws: ValueChoice. -/
import Derived.Test.YtecomfhbdonkbaaGreatDoorCm
namespace Go.Proofs.YtecomfhbdonkbaaGreatDoor
open Go.RowKit Go.Shelf Flo
set_option maxRecDepth 100000
set_option linter.unusedVariables false
set_option linter.unusedSimpArgs false

theorem leaf_eval (n : Nat) (t : Tm) (s : Slt) (h : t.k ≠ 4) : evalO (n + 1) (ofT t) s = some t := by
  show (if fitsO 1 0 = true then (if (1 : Int) = 1 then (if t.k = 4 then getO s t.sl else some t) else if (1 : Int) = 15 then boundO zeroE s else none) else none) = _
  rw [if_pos (by decide), if_pos (by decide), if_neg h]
theorem if_eval (n : Nat) (t : Tm) (a b : Exp) (s : Slt) (h : t.k ≠ 4) : evalO (n + 2) (.mk 25 zeroT [ofT t, a, b]) s = (truthO t).bind (fun c => if c then evalO (n + 1) a s else evalO (n + 1) b s) := by
  show (if fitsO 25 3 = true then (if (25 : Int) = 1 then (if (0 : Int) = 4 then getO s zeroT.sl else some zeroT) else if (25 : Int) = 15 then boundO (ofT t) s else opO 25 [evalO (n + 1) (ofT t) s, evalO (n + 1) a s, evalO (n + 1) b s]) else none) = _
  rw [if_pos (by decide), if_neg (by decide), if_neg (by decide), leaf_eval n t s h]
  rfl
theorem coal_eval (n : Nat) (a b : Exp) (s : Slt) : evalO (n + 1) (.mk 26 zeroT [a, b]) s = if (evalO n a s).isSome then evalO n a s else evalO n b s := by
  show (if fitsO 26 2 = true then (if (26 : Int) = 1 then (if (0 : Int) = 4 then getO s zeroT.sl else some zeroT) else if (26 : Int) = 15 then boundO a s else opO 26 [evalO n a s, evalO n b s]) else none) = _
  rw [if_pos (by decide), if_neg (by decide), if_neg (by decide)]
  show firstO [evalO n a s, evalO n b s] = _
  cases evalO n a s with
  | some x => rfl
  | none => cases evalO n b s <;> rfl
theorem kid_entry {v : World} {q o : Nat} {x : Exp} {kv : Value} {d B : Nat} {cur : Array Value} {ty : TypeId} (hb : Blk v q cur ty) (hq : q < B) (hop : opIn x.op) (hsm : x.tm.Sm) (hk : KidsP B v d kv x.kids)
    (h0 : cur[o]? = some (.int .i64 x.op)) (h1 : cur[o + 1]? = some (.int .i64 x.tm.k)) (h2 : cur[o + 2]? = some (.string x.tm.s)) (h3 : cur[o + 3]? = some (.string x.tm.l)) (h4 : cur[o + 4]? = some (.string x.tm.t)) (h5 : cur[o + 5]? = some kv) :
    ∃ kb ko kv', (some (⟨q, 0, none⟩ : Addr)) = some ⟨kb, ko, none⟩ ∧ kb < B ∧ PlB v kb ∧ XCells v kb (ko + o) x.op x.tm kv' ∧ opIn x.op ∧ x.tm.Sm ∧ KidsP B v d kv' x.kids := by
  refine ⟨q, 0, kv, rfl, hq, ⟨_, _, hb⟩, ?_, hop, hsm, hk⟩
  rw [Nat.zero_add]
  exact ⟨(hb.cell o).trans h0, (hb.cell (o + 1)).trans h1, (hb.cell (o + 2)).trans h2, (hb.cell (o + 3)).trans h3, (hb.cell (o + 4)).trans h4, (hb.cell (o + 5)).trans h5⟩
/-- The law's memory: its blocks, the solution, both expressions. -/
structure ChI (w : World) (sv : Value) (s : Slt) (kva kvb : Value) (la lb : List Exp) (L : List (Nat × Array Value × TypeId)) (v : World) : Prop where
  mem : Mem w L v
  sol : SolAt v.heap.size v sv s
  ka : KidsP v.heap.size v 4 kva la
  kb : KidsP v.heap.size v 4 kvb lb
theorem sol_mono {B B' : Nat} {w : World} {sv : Value} {s : Slt} (h : SolAt B w sv s) (hb : B ≤ B') : SolAt B' w sv s := by
  obtain ⟨h0, ao, cap, h1, h2⟩ := h
  refine ⟨h0, ao, cap, h1, fun i hi => ?_⟩
  obtain ⟨b, o, nm, g1, g2, g3⟩ := h2 i hi
  exact ⟨b, o, nm, g1, by omega, g3⟩
section
variable {w v v' : World} {sv : Value} {s : Slt} {kva kvb : Value} {la lb : List Exp} {L : List (Nat × Array Value × TypeId)}
theorem ChI.below (h : ChI w sv s kva kvb la lb L v) (hb : Below v.heap.size v v') : ChI w sv s kva kvb la lb L v' :=
  ⟨h.mem.below hb, sol_mono (h.sol.keep hb) hb.size, (h.ka.keep hb).mono hb.size, (h.kb.keep hb).mono hb.size⟩
theorem ChI.alloc (h : ChI w sv s kva kvb la lb L v) (n : Nat) (hn : n = v.heap.size) (cur : Array Value) (t : TypeId) : ChI w sv s kva kvb la lb ((n, cur, t) :: L) (v.alloc (.cells cur t)) := by
  have h' := h.below ((Below.refl v.heap.size v).alloc (Nat.le_refl _) (.cells cur t))
  exact ⟨h.mem.alloc n hn cur t, h'.sol, h'.ka, h'.kb⟩
end
set_option maxHeartbeats 16000000 in
theorem choice15_walk (nsv msv ssv : Value) (ns ms ss : List Int) (n : Int) (w : World) (h1 : IntIn w nsv ns) (h2 : IntIn w msv ms) (h3 : IntIn w ssv ss) (hn : In64 n) (hT : Tabs w) : Calls Tryz.prog 6 #[nsv, msv, ssv, .int .i64 n] w fun e w' => e = .returned (.bool true) ∧ Below w.heap.size w w' := by
  have HKN := Lib.hid (known15_any w hT.pow)
  have HSO := Lib.hid (fun z (hz : Below w.heap.size w z) => sol15_any ssv ss z (h3.keep hz))
  have HMA := Lib.hid (fun z (hz : Below w.heap.size w z) => make_any nsv ns z (h1.keep hz))
  have HMB := Lib.hid (fun z (hz : Below w.heap.size w z) => make_any msv ms z (h2.keep hz))
  obtain ⟨t, ht⟩ : ∃ t, t = termT n := ⟨_, rfl⟩
  have hts : t.Sm := by rw [ht]; exact termT_sm n
  have htk : t.k ≠ 4 := by rw [ht]; exact termT_k n
  have HTM : Hid (∀ wz, Calls Tryz.prog 16 #[.int .i64 n] wz fun e w' => e = .returned (.agg #[.int .i64 t.k, .string t.s, .string t.l, .string t.t]) ∧ Below wz.heap.size wz w') := Lib.hid (fun wz => by rw [ht]; exact term15_any n wz hn.1 hn.2)
  have HTR : Hid (∀ wz, Calls Tryz.prog 22 #[.agg #[.int .i64 t.k, .string t.s, .string t.l, .string t.t]] wz fun e w' => e = .returned (twoB (truthO t)) ∧ Below wz.heap.size wz w') := Lib.hid (fun wz => truth_any t hts wz)
  obtain ⟨ao1, cap1, rfl⟩ := h1.form
  obtain ⟨ao2, cap2, rfl⟩ := h2.form
  obtain ⟨ao3, cap3, rfl⟩ := h3.form
  have HTT := Lib.hid hT
  clear h1 h2 h3 hn hT ht
  go_enter Tryz.func6, Tryz.ntmps6
  go_wp2_with fail
  refine HKN.out.mono ?_
  rintro e w1 ⟨rfl, hb1⟩
  have HB1 := Lib.hid hb1
  clear hb1
  go_wp2_with fail
  refine (HSO.out _ HB1.out).mono ?_
  rintro e w2 ⟨sv, s, rfl, hsol, hb2⟩
  have HB2 := Lib.hid (HB1.out.trans (hb2.mono HB1.out.size))
  obtain ⟨-, sao, scap, rfl, -⟩ := id hsol
  have HSOL := Lib.hid hsol
  clear hb2 hsol
  go_wp2_with fail
  refine (HMA.out _ HB2.out).mono ?_
  rintro e w3 ⟨xa, kva, rfl, hopa, hsma, hka, hb3⟩
  have HB3 := Lib.hid (HB2.out.trans (hb3.mono HB2.out.size))
  have HSOL3 := Lib.hid (sol_mono (HSOL.out.keep hb3) hb3.size)
  obtain ⟨-, kao, kac, rfl⟩ := hka.form
  have HKA3 := Lib.hid hka
  have HOA := Lib.hid (And.intro hopa hsma)
  clear hb3 hka hopa hsma
  go_wp2_with fail
  refine (HMB.out _ HB3.out).mono ?_
  rintro e w4 ⟨xb, kvb, rfl, hopb, hsmb, hkb, hb4⟩
  have HB4 := Lib.hid (HB3.out.trans (hb4.mono HB3.out.size))
  obtain ⟨-, kbo, kbc, rfl⟩ := hkb.form
  have HI4 : Hid (ChI w (.slice sao s.length scap) s (.slice kao xa.kids.length kac) (.slice kbo xb.kids.length kbc) xa.kids xb.kids [] w4) := Lib.hid ⟨Mem.nil HB4.out, sol_mono (HSOL3.out.keep hb4) hb4.size, (HKA3.out.keep hb4).mono hb4.size, hkb⟩
  have HOB := Lib.hid (And.intro hopb hsmb)
  clear hb4 hkb hopb hsmb HSOL HSOL3 HKA3
  go_upto_region 5 with fail
  have hmm := (HI4.out.alloc w4.heap.size rfl #[.int .i64 xa.op, .int .i64 xa.tm.k, .string xa.tm.s, .string xa.tm.l, .string xa.tm.t, .slice kao xa.kids.length kac] 28).alloc (w4.heap.size + 1) (by simp) #[.int .i64 xb.op, .int .i64 xb.tm.k, .string xb.tm.s, .string xb.tm.l, .string xb.tm.t, .slice kbo xb.kids.length kbc] 28
  generalize World.alloc (World.alloc w4 _) _ = v5 at hmm ⊢
  generalize w4.heap.size = ga at hmm ⊢
  have HI5 := Lib.hid hmm
  clear hmm
  obtain ⟨qa, hqa⟩ : ∃ q, q = evalO 5 xa s := ⟨_, rfl⟩
  obtain ⟨qb, hqb⟩ : ∃ q, q = evalO 5 xb s := ⟨_, rfl⟩
  obtain ⟨qx, hqx⟩ : ∃ q, q = (truthO t).bind (fun c => if c then qa else qb) := ⟨_, rfl⟩
  obtain ⟨qc, hqc⟩ : ∃ q, q = if qa.isSome then qa else qb := ⟨_, rfl⟩
  obtain ⟨ta, hta⟩ : ∃ x, x = qa.getD zeroT := ⟨_, rfl⟩
  obtain ⟨ia, hia⟩ : ∃ x, x = qa.isSome := ⟨_, rfl⟩
  obtain ⟨tb, htb⟩ : ∃ x, x = qb.getD zeroT := ⟨_, rfl⟩
  obtain ⟨ib, hib⟩ : ∃ x, x = qb.isSome := ⟨_, rfl⟩
  obtain ⟨tx, htx⟩ : ∃ x, x = qx.getD zeroT := ⟨_, rfl⟩
  obtain ⟨ix, hix⟩ : ∃ x, x = qx.isSome := ⟨_, rfl⟩
  obtain ⟨tc, htc⟩ : ∃ x, x = qc.getD zeroT := ⟨_, rfl⟩
  obtain ⟨ic, hic⟩ : ∃ x, x = qc.isSome := ⟨_, rfl⟩
  have HEA : Hid (∀ z, Below w.heap.size w z → KidsP z.heap.size z 4 (.slice kao xa.kids.length kac) xa.kids → SolAt z.heap.size z (.slice sao s.length scap) s → Calls Tryz.prog 11 #[.agg #[.int .i64 xa.op, .int .i64 xa.tm.k, .string xa.tm.s, .string xa.tm.l, .string xa.tm.t, .slice kao xa.kids.length kac], (.slice sao s.length scap)] z fun e' w' => e' = .returned (.tuple #[.agg #[.int .i64 ta.k, .string ta.s, .string ta.l, .string ta.t], .bool ia]) ∧ Below z.heap.size z w') := Lib.hid (fun z hz hk hs => (eval_any 4 xa _ _ s z hk HOA.out.1 HOA.out.2 hs (by decide) (fun w1 h1 => (HTT.out.below hz).below h1)).mono (by
    rintro e' w' ⟨rfl, hbb, -⟩
    rw [← hqa, ← hta, ← hia]
    exact ⟨rfl, hbb⟩))
  have HEB : Hid (∀ z, Below w.heap.size w z → KidsP z.heap.size z 4 (.slice kbo xb.kids.length kbc) xb.kids → SolAt z.heap.size z (.slice sao s.length scap) s → Calls Tryz.prog 11 #[.agg #[.int .i64 xb.op, .int .i64 xb.tm.k, .string xb.tm.s, .string xb.tm.l, .string xb.tm.t, .slice kbo xb.kids.length kbc], (.slice sao s.length scap)] z fun e' w' => e' = .returned (.tuple #[.agg #[.int .i64 tb.k, .string tb.s, .string tb.l, .string tb.t], .bool ib]) ∧ Below z.heap.size z w') := Lib.hid (fun z hz hk hs => (eval_any 4 xb _ _ s z hk HOB.out.1 HOB.out.2 hs (by decide) (fun w1 h1 => (HTT.out.below hz).below h1)).mono (by
    rintro e' w' ⟨rfl, hbb, -⟩
    rw [← hqb, ← htb, ← hib]
    exact ⟨rfl, hbb⟩))
  have HEX : Hid (∀ z kv, Below w.heap.size w z → KidsP z.heap.size z 5 kv [ofT t, xa, xb] → SolAt z.heap.size z (.slice sao s.length scap) s → Calls Tryz.prog 11 #[.agg #[.int .i64 25, .int .i64 0, .string ⟨#[]⟩, .string ⟨#[]⟩, .string ⟨#[]⟩, kv], (.slice sao s.length scap)] z fun e' w' => e' = .returned (.tuple #[.agg #[.int .i64 tx.k, .string tx.s, .string tx.l, .string tx.t], .bool ix]) ∧ Below z.heap.size z w') := Lib.hid (fun z kv hz hk hs => (eval_any 5 (.mk 25 zeroT [ofT t, xa, xb]) kv _ s z hk (show opIn 25 from by unfold opIn; decide) zeroT_sm hs (by decide) (fun w1 h1 => (HTT.out.below hz).below h1)).mono (by
    rintro e' w' ⟨rfl, hbb, -⟩
    rw [if_eval 4 t xa xb s htk, ← hqa, ← hqb, ← hqx, ← htx, ← hix]
    exact ⟨rfl, hbb⟩))
  have HEC : Hid (∀ z kv, Below w.heap.size w z → KidsP z.heap.size z 5 kv [xa, xb] → SolAt z.heap.size z (.slice sao s.length scap) s → Calls Tryz.prog 11 #[.agg #[.int .i64 26, .int .i64 0, .string ⟨#[]⟩, .string ⟨#[]⟩, .string ⟨#[]⟩, kv], (.slice sao s.length scap)] z fun e' w' => e' = .returned (.tuple #[.agg #[.int .i64 tc.k, .string tc.s, .string tc.l, .string tc.t], .bool ic]) ∧ Below z.heap.size z w') := Lib.hid (fun z kv hz hk hs => (eval_any 5 (.mk 26 zeroT [xa, xb]) kv _ s z hk (show opIn 26 from by unfold opIn; decide) zeroT_sm hs (by decide) (fun w1 h1 => (HTT.out.below hz).below h1)).mono (by
    rintro e' w' ⟨rfl, hbb, -⟩
    rw [coal_eval 5 xa xb s, ← hqa, ← hqb, ← hqc, ← htc, ← hic]
    exact ⟨rfl, hbb⟩))
  have HALL := Lib.hid (And.intro (And.intro hqx (And.intro htx hix)) (And.intro (And.intro hqc (And.intro htc hic)) (And.intro (And.intro hta hia) (And.intro htb hib))))
  have HTS := Lib.hid hts
  clear hqa hqb hqx hqc hta hia htb hib htx hix htc hic hts htk
  go_wp2_with fail
  refine (HTM.out _).mono ?_
  rintro e v6 ⟨rfl, hbb⟩
  have HI6 := Lib.hid (HI5.out.below hbb)
  clear hbb
  go_upto_region 6 with fail
  have hmm := HI6.out.alloc v6.heap.size rfl #[.int .i64 1, .int .i64 t.k, .string t.s, .string t.l, .string t.t, .slice none 0 0] 28
  generalize World.alloc v6 _ = v7 at hmm ⊢
  generalize v6.heap.size = gc at hmm ⊢
  have HI7 := Lib.hid hmm
  clear hmm
  go_wp2_with fail
  refine (HTM.out _).mono ?_
  rintro e v7b ⟨rfl, hbb⟩
  have HI7b := Lib.hid (HI7.out.below hbb)
  clear hbb
  go_wp2_with fail
  refine (HTR.out _).mono ?_
  rintro e v8 ⟨rfl, hbb⟩
  have HI8 := Lib.hid (HI7b.out.below hbb)
  clear hbb
  obtain ⟨ry, rk, hrr⟩ : ∃ y k : Bool, twoB (truthO t) = .tuple #[.bool y, .bool k] ∧ truthO t = (if k then some y else none) := by
    cases truthO t with
    | none => exact ⟨false, false, rfl, rfl⟩
    | some y => exact ⟨y, true, rfl, rfl⟩
  rw [hrr.1]
  have HRR := Lib.hid hrr.2
  clear hrr
  have xbc := HI8.out.mem.at_ 0 rfl
  have qc0 := xbc.cell 0
  have qc1 := xbc.cell 1
  have qc2 := xbc.cell 2
  have qc3 := xbc.cell 3
  have qc4 := xbc.cell 4
  have qc5 := xbc.cell 5
  simp only [List.getElem?_toArray, List.getElem?_cons_zero, List.getElem?_cons_succ] at qc0 qc1 qc2 qc3 qc4 qc5
  clear xbc
  have xbb := HI8.out.mem.at_ 1 rfl
  have qb0 := xbb.cell 0
  have qb1 := xbb.cell 1
  have qb2 := xbb.cell 2
  have qb3 := xbb.cell 3
  have qb4 := xbb.cell 4
  have qb5 := xbb.cell 5
  simp only [List.getElem?_toArray, List.getElem?_cons_zero, List.getElem?_cons_succ] at qb0 qb1 qb2 qb3 qb4 qb5
  clear xbb
  have xba := HI8.out.mem.at_ 2 rfl
  have qa0 := xba.cell 0
  have qa1 := xba.cell 1
  have qa2 := xba.cell 2
  have qa3 := xba.cell 3
  have qa4 := xba.cell 4
  have qa5 := xba.cell 5
  simp only [List.getElem?_toArray, List.getElem?_cons_zero, List.getElem?_cons_succ] at qa0 qa1 qa2 qa3 qa4 qa5
  clear xba
  go_wp2_with fail
  clear qc0 qc1 qc2 qc3 qc4 qc5
  clear qb0 qb1 qb2 qb3 qb4 qb5
  clear qa0 qa1 qa2 qa3 qa4 qa5
  have hmm := HI8.out.alloc v8.heap.size rfl #[.int .i64 1, .int .i64 t.k, .string t.s, .string t.l, .string t.t, .slice none 0 0, .int .i64 xa.op, .int .i64 xa.tm.k, .string xa.tm.s, .string xa.tm.l, .string xa.tm.t, .slice kao xa.kids.length kac, .int .i64 xb.op, .int .i64 xb.tm.k, .string xb.tm.s, .string xb.tm.l, .string xb.tm.t, .slice kbo xb.kids.length kbc] 28
  have hkk : KidsP (v8.alloc (.cells #[.int .i64 1, .int .i64 t.k, .string t.s, .string t.l, .string t.t, .slice none 0 0, .int .i64 xa.op, .int .i64 xa.tm.k, .string xa.tm.s, .string xa.tm.l, .string xa.tm.t, .slice kao xa.kids.length kac, .int .i64 xb.op, .int .i64 xb.tm.k, .string xb.tm.s, .string xb.tm.l, .string xb.tm.t, .slice kbo xb.kids.length kbc] 28)).heap.size (v8.alloc (.cells #[.int .i64 1, .int .i64 t.k, .string t.s, .string t.l, .string t.t, .slice none 0 0, .int .i64 xa.op, .int .i64 xa.tm.k, .string xa.tm.s, .string xa.tm.l, .string xa.tm.t, .slice kao xa.kids.length kac, .int .i64 xb.op, .int .i64 xb.tm.k, .string xb.tm.s, .string xb.tm.l, .string xb.tm.t, .slice kbo xb.kids.length kbc] 28)) 5 (.slice (some ⟨v8.heap.size, 0, none⟩) 3 3) [ofT t, xa, xb] := by
    have hx := hmm.mem.at_ 0 rfl
    have hlt := (hmm.mem.lt _ List.mem_cons_self).1
    refine ⟨by simp, _, _, rfl, fun i hi => ?_⟩
    rcases (show i = 0 ∨ i = 1 ∨ i = 2 by have : i < 3 := hi; omega) with rfl | rfl | rfl
    · exact kid_entry (x := ofT t) hx hlt opIn_one HTS.out (kids_nil _ _ _) rfl rfl rfl rfl rfl rfl
    · exact kid_entry (x := xa) (o := 6) hx hlt HOA.out.1 HOA.out.2 hmm.ka rfl rfl rfl rfl rfl rfl
    · exact kid_entry (x := xb) (o := 12) hx hlt HOB.out.1 HOB.out.2 hmm.kb rfl rfl rfl rfl rfl rfl
  generalize World.alloc v8 _ = v9 at hmm hkk ⊢
  have HI9 := Lib.hid hmm
  clear hmm
  refine (HEX.out _ _ HI9.out.mem.bel hkk HI9.out.sol).mono ?_
  clear hkk
  rintro e v10 ⟨rfl, hbb⟩
  have HI10 := Lib.hid (HI9.out.below hbb)
  clear hbb
  go_upto_region 8 with fail
  have hmm := HI10.out.alloc v10.heap.size rfl #[.int .i64 tx.k, .string tx.s, .string tx.l, .string tx.t] 25
  generalize World.alloc v10 _ = v11 at hmm ⊢
  generalize v10.heap.size = gx at hmm ⊢
  have HI11 := Lib.hid hmm
  clear hmm
  have xba := HI11.out.mem.at_ 4 rfl
  have qa0 := xba.cell 0
  have qa1 := xba.cell 1
  have qa2 := xba.cell 2
  have qa3 := xba.cell 3
  have qa4 := xba.cell 4
  have qa5 := xba.cell 5
  simp only [List.getElem?_toArray, List.getElem?_cons_zero, List.getElem?_cons_succ] at qa0 qa1 qa2 qa3 qa4 qa5
  clear xba
  go_wp2_with fail
  clear qa0 qa1 qa2 qa3 qa4 qa5
  refine (HEA.out _ HI11.out.mem.bel HI11.out.ka HI11.out.sol).mono ?_
  rintro e v12 ⟨rfl, hbb⟩
  have HI12 := Lib.hid (HI11.out.below hbb)
  clear hbb
  go_upto_region 9 with fail
  have hmm := HI12.out.alloc v12.heap.size rfl #[.int .i64 ta.k, .string ta.s, .string ta.l, .string ta.t] 25
  generalize World.alloc v12 _ = v13 at hmm ⊢
  generalize v12.heap.size = gy at hmm ⊢
  have HI13 := Lib.hid hmm
  clear hmm
  have xbb := HI13.out.mem.at_ 4 rfl
  have qb0 := xbb.cell 0
  have qb1 := xbb.cell 1
  have qb2 := xbb.cell 2
  have qb3 := xbb.cell 3
  have qb4 := xbb.cell 4
  have qb5 := xbb.cell 5
  simp only [List.getElem?_toArray, List.getElem?_cons_zero, List.getElem?_cons_succ] at qb0 qb1 qb2 qb3 qb4 qb5
  clear xbb
  go_wp2_with fail
  clear qb0 qb1 qb2 qb3 qb4 qb5
  refine (HEB.out _ HI13.out.mem.bel HI13.out.kb HI13.out.sol).mono ?_
  rintro e v14 ⟨rfl, hbb⟩
  have HI14 := Lib.hid (HI13.out.below hbb)
  clear hbb
  go_upto_region 10 with fail
  have hmm := HI14.out.alloc v14.heap.size rfl #[.int .i64 tb.k, .string tb.s, .string tb.l, .string tb.t] 25
  generalize World.alloc v14 _ = v15 at hmm ⊢
  generalize v14.heap.size = gz at hmm ⊢
  have HI15 := Lib.hid hmm
  clear hmm
  have xba := HI15.out.mem.at_ 6 rfl
  have qa0 := xba.cell 0
  have qa1 := xba.cell 1
  have qa2 := xba.cell 2
  have qa3 := xba.cell 3
  have qa4 := xba.cell 4
  have qa5 := xba.cell 5
  simp only [List.getElem?_toArray, List.getElem?_cons_zero, List.getElem?_cons_succ] at qa0 qa1 qa2 qa3 qa4 qa5
  clear xba
  have xbb := HI15.out.mem.at_ 5 rfl
  have qb0 := xbb.cell 0
  have qb1 := xbb.cell 1
  have qb2 := xbb.cell 2
  have qb3 := xbb.cell 3
  have qb4 := xbb.cell 4
  have qb5 := xbb.cell 5
  simp only [List.getElem?_toArray, List.getElem?_cons_zero, List.getElem?_cons_succ] at qb0 qb1 qb2 qb3 qb4 qb5
  clear xbb
  go_wp2_with fail
  clear qa0 qa1 qa2 qa3 qa4 qa5
  clear qb0 qb1 qb2 qb3 qb4 qb5
  have hmm := HI15.out.alloc v15.heap.size rfl #[.int .i64 xa.op, .int .i64 xa.tm.k, .string xa.tm.s, .string xa.tm.l, .string xa.tm.t, .slice kao xa.kids.length kac, .int .i64 xb.op, .int .i64 xb.tm.k, .string xb.tm.s, .string xb.tm.l, .string xb.tm.t, .slice kbo xb.kids.length kbc] 28
  have hkk : KidsP (v15.alloc (.cells #[.int .i64 xa.op, .int .i64 xa.tm.k, .string xa.tm.s, .string xa.tm.l, .string xa.tm.t, .slice kao xa.kids.length kac, .int .i64 xb.op, .int .i64 xb.tm.k, .string xb.tm.s, .string xb.tm.l, .string xb.tm.t, .slice kbo xb.kids.length kbc] 28)).heap.size (v15.alloc (.cells #[.int .i64 xa.op, .int .i64 xa.tm.k, .string xa.tm.s, .string xa.tm.l, .string xa.tm.t, .slice kao xa.kids.length kac, .int .i64 xb.op, .int .i64 xb.tm.k, .string xb.tm.s, .string xb.tm.l, .string xb.tm.t, .slice kbo xb.kids.length kbc] 28)) 5 (.slice (some ⟨v15.heap.size, 0, none⟩) 2 2) [xa, xb] := by
    have hx := hmm.mem.at_ 0 rfl
    have hlt := (hmm.mem.lt _ List.mem_cons_self).1
    refine ⟨by simp, _, _, rfl, fun i hi => ?_⟩
    rcases (show i = 0 ∨ i = 1 by have : i < 2 := hi; omega) with rfl | rfl
    · exact kid_entry (x := xa) (o := 0) hx hlt HOA.out.1 HOA.out.2 (hmm.ka.deep (by decide)) rfl rfl rfl rfl rfl rfl
    · exact kid_entry (x := xb) (o := 6) hx hlt HOB.out.1 HOB.out.2 (hmm.kb.deep (by decide)) rfl rfl rfl rfl rfl rfl
  generalize World.alloc v15 _ = v16 at hmm hkk ⊢
  have HI16 := Lib.hid hmm
  clear hmm
  refine (HEC.out _ _ HI16.out.mem.bel hkk HI16.out.sol).mono ?_
  clear hkk
  rintro e v17 ⟨rfl, hbb⟩
  have HI17 := Lib.hid (HI16.out.below hbb)
  clear hbb
  go_upto_region 11 with fail
  have hmm := HI17.out.alloc v17.heap.size rfl #[.int .i64 tc.k, .string tc.s, .string tc.l, .string tc.t] 25
  generalize World.alloc v17 _ = v18 at hmm ⊢
  generalize v17.heap.size = gw at hmm ⊢
  have HI18 := Lib.hid hmm
  clear hmm
  have hrr := HRR.out
  rcases Bool.eq_false_or_eq_true rk with rfl | rfl
  rotate_left
  · have hrr2 : truthO t = none := hrr
    rw [hrr2] at HALL
    clear hrr hrr2 HRR
    rcases Bool.eq_false_or_eq_true ia with rfl | rfl
    · obtain ⟨⟨hqx, htx, hix⟩, ⟨hqc, htc, hic⟩, ⟨hta, hia⟩, htb, hib⟩ := HALL.out
      have e1 : qc = qa := hqc.trans (if_pos hia.symm)
      have e2 : qx = none := hqx
      rw [e1] at htc hic
      rw [e2] at htx hix
      clear hqx hqc e1 e2
      have f1 : ta = tc := (htc.trans hta.symm).symm
      have f2 : true = ic := (hic.trans hia.symm).symm
      have f3 : zeroT = tx := (htx).symm
      have f4 : false = ix := (hix).symm
      clear htc hic htx hix hta hia htb hib HALL
      subst f1 f2 f3 f4
      have xbw := HI18.out.mem.at_ 0 rfl
      have qw0 := xbw.cell 0
      have qw1 := xbw.cell 1
      have qw2 := xbw.cell 2
      have qw3 := xbw.cell 3
      simp only [List.getElem?_toArray, List.getElem?_cons_zero, List.getElem?_cons_succ] at qw0 qw1 qw2 qw3
      clear xbw
      have xbz := HI18.out.mem.at_ 2 rfl
      have qz0 := xbz.cell 0
      have qz1 := xbz.cell 1
      have qz2 := xbz.cell 2
      have qz3 := xbz.cell 3
      simp only [List.getElem?_toArray, List.getElem?_cons_zero, List.getElem?_cons_succ] at qz0 qz1 qz2 qz3
      clear xbz
      have xby := HI18.out.mem.at_ 3 rfl
      have qy0 := xby.cell 0
      have qy1 := xby.cell 1
      have qy2 := xby.cell 2
      have qy3 := xby.cell 3
      simp only [List.getElem?_toArray, List.getElem?_cons_zero, List.getElem?_cons_succ] at qy0 qy1 qy2 qy3
      clear xby
      have xbx := HI18.out.mem.at_ 4 rfl
      have qx0 := xbx.cell 0
      have qx1 := xbx.cell 1
      have qx2 := xbx.cell 2
      have qx3 := xbx.cell 3
      simp only [List.getElem?_toArray, List.getElem?_cons_zero, List.getElem?_cons_succ] at qx0 qx1 qx2 qx3
      clear xbx
      have heta : ∀ w, (Op.equalIn 10000 25 (.agg #[.int .i64 ta.k, .string ta.s, .string ta.l, .string ta.t]) (.agg #[.int .i64 ta.k, .string ta.s, .string ta.l, .string ta.t])).run Tryz.prog w = .ok true w := fun w => (equal_bool ta ta w).trans (by rw [tmEq_self])
      have hetb : ∀ w, (Op.equalIn 10000 25 (.agg #[.int .i64 tb.k, .string tb.s, .string tb.l, .string tb.t]) (.agg #[.int .i64 tb.k, .string tb.s, .string tb.l, .string tb.t])).run Tryz.prog w = .ok true w := fun w => (equal_bool tb tb w).trans (by rw [tmEq_self])
      go_wp2_with fail
      go_ret
      exact ⟨rfl, HI18.out.mem.bel⟩
    · obtain ⟨⟨hqx, htx, hix⟩, ⟨hqc, htc, hic⟩, ⟨hta, hia⟩, htb, hib⟩ := HALL.out
      have e1 : qc = qb := hqc.trans (if_neg (by rw [← hia]; decide))
      have e2 : qx = none := hqx
      rw [e1] at htc hic
      rw [e2] at htx hix
      clear hqx hqc e1 e2
      have f1 : tb = tc := (htc.trans htb.symm).symm
      have f2 : ib = ic := (hic.trans hib.symm).symm
      have f3 : zeroT = tx := (htx).symm
      have f4 : false = ix := (hix).symm
      clear htc hic htx hix hta hia htb hib HALL
      subst f1 f2 f3 f4
      have xbw := HI18.out.mem.at_ 0 rfl
      have qw0 := xbw.cell 0
      have qw1 := xbw.cell 1
      have qw2 := xbw.cell 2
      have qw3 := xbw.cell 3
      simp only [List.getElem?_toArray, List.getElem?_cons_zero, List.getElem?_cons_succ] at qw0 qw1 qw2 qw3
      clear xbw
      have xbz := HI18.out.mem.at_ 2 rfl
      have qz0 := xbz.cell 0
      have qz1 := xbz.cell 1
      have qz2 := xbz.cell 2
      have qz3 := xbz.cell 3
      simp only [List.getElem?_toArray, List.getElem?_cons_zero, List.getElem?_cons_succ] at qz0 qz1 qz2 qz3
      clear xbz
      have xby := HI18.out.mem.at_ 3 rfl
      have qy0 := xby.cell 0
      have qy1 := xby.cell 1
      have qy2 := xby.cell 2
      have qy3 := xby.cell 3
      simp only [List.getElem?_toArray, List.getElem?_cons_zero, List.getElem?_cons_succ] at qy0 qy1 qy2 qy3
      clear xby
      have xbx := HI18.out.mem.at_ 4 rfl
      have qx0 := xbx.cell 0
      have qx1 := xbx.cell 1
      have qx2 := xbx.cell 2
      have qx3 := xbx.cell 3
      simp only [List.getElem?_toArray, List.getElem?_cons_zero, List.getElem?_cons_succ] at qx0 qx1 qx2 qx3
      clear xbx
      have heta : ∀ w, (Op.equalIn 10000 25 (.agg #[.int .i64 ta.k, .string ta.s, .string ta.l, .string ta.t]) (.agg #[.int .i64 ta.k, .string ta.s, .string ta.l, .string ta.t])).run Tryz.prog w = .ok true w := fun w => (equal_bool ta ta w).trans (by rw [tmEq_self])
      have hetb : ∀ w, (Op.equalIn 10000 25 (.agg #[.int .i64 tb.k, .string tb.s, .string tb.l, .string tb.t]) (.agg #[.int .i64 tb.k, .string tb.s, .string tb.l, .string tb.t])).run Tryz.prog w = .ok true w := fun w => (equal_bool tb tb w).trans (by rw [tmEq_self])
      go_wp2_with fail
      go_ret
      exact ⟨rfl, HI18.out.mem.bel⟩
  · rcases Bool.eq_false_or_eq_true ry with rfl | rfl
    · have hrr2 : truthO t = some true := hrr
      rw [hrr2] at HALL
      clear hrr hrr2 HRR
      rcases Bool.eq_false_or_eq_true ia with rfl | rfl
      · obtain ⟨⟨hqx, htx, hix⟩, ⟨hqc, htc, hic⟩, ⟨hta, hia⟩, htb, hib⟩ := HALL.out
        have e1 : qc = qa := hqc.trans (if_pos hia.symm)
        have e2 : qx = qa := hqx
        rw [e1] at htc hic
        rw [e2] at htx hix
        clear hqx hqc e1 e2
        have f1 : ta = tc := (htc.trans hta.symm).symm
        have f2 : true = ic := (hic.trans hia.symm).symm
        have f3 : ta = tx := (htx.trans hta.symm).symm
        have f4 : true = ix := (hix.trans hia.symm).symm
        clear htc hic htx hix hta hia htb hib HALL
        subst f1 f2 f3 f4
        have xbw := HI18.out.mem.at_ 0 rfl
        have qw0 := xbw.cell 0
        have qw1 := xbw.cell 1
        have qw2 := xbw.cell 2
        have qw3 := xbw.cell 3
        simp only [List.getElem?_toArray, List.getElem?_cons_zero, List.getElem?_cons_succ] at qw0 qw1 qw2 qw3
        clear xbw
        have xbz := HI18.out.mem.at_ 2 rfl
        have qz0 := xbz.cell 0
        have qz1 := xbz.cell 1
        have qz2 := xbz.cell 2
        have qz3 := xbz.cell 3
        simp only [List.getElem?_toArray, List.getElem?_cons_zero, List.getElem?_cons_succ] at qz0 qz1 qz2 qz3
        clear xbz
        have xby := HI18.out.mem.at_ 3 rfl
        have qy0 := xby.cell 0
        have qy1 := xby.cell 1
        have qy2 := xby.cell 2
        have qy3 := xby.cell 3
        simp only [List.getElem?_toArray, List.getElem?_cons_zero, List.getElem?_cons_succ] at qy0 qy1 qy2 qy3
        clear xby
        have xbx := HI18.out.mem.at_ 4 rfl
        have qx0 := xbx.cell 0
        have qx1 := xbx.cell 1
        have qx2 := xbx.cell 2
        have qx3 := xbx.cell 3
        simp only [List.getElem?_toArray, List.getElem?_cons_zero, List.getElem?_cons_succ] at qx0 qx1 qx2 qx3
        clear xbx
        have heta : ∀ w, (Op.equalIn 10000 25 (.agg #[.int .i64 ta.k, .string ta.s, .string ta.l, .string ta.t]) (.agg #[.int .i64 ta.k, .string ta.s, .string ta.l, .string ta.t])).run Tryz.prog w = .ok true w := fun w => (equal_bool ta ta w).trans (by rw [tmEq_self])
        have hetb : ∀ w, (Op.equalIn 10000 25 (.agg #[.int .i64 tb.k, .string tb.s, .string tb.l, .string tb.t]) (.agg #[.int .i64 tb.k, .string tb.s, .string tb.l, .string tb.t])).run Tryz.prog w = .ok true w := fun w => (equal_bool tb tb w).trans (by rw [tmEq_self])
        go_wp2_with fail
        go_ret
        exact ⟨rfl, HI18.out.mem.bel⟩
      · obtain ⟨⟨hqx, htx, hix⟩, ⟨hqc, htc, hic⟩, ⟨hta, hia⟩, htb, hib⟩ := HALL.out
        have e1 : qc = qb := hqc.trans (if_neg (by rw [← hia]; decide))
        have e2 : qx = qa := hqx
        rw [e1] at htc hic
        rw [e2] at htx hix
        clear hqx hqc e1 e2
        have f1 : tb = tc := (htc.trans htb.symm).symm
        have f2 : ib = ic := (hic.trans hib.symm).symm
        have f3 : ta = tx := (htx.trans hta.symm).symm
        have f4 : false = ix := (hix.trans hia.symm).symm
        clear htc hic htx hix hta hia htb hib HALL
        subst f1 f2 f3 f4
        have xbw := HI18.out.mem.at_ 0 rfl
        have qw0 := xbw.cell 0
        have qw1 := xbw.cell 1
        have qw2 := xbw.cell 2
        have qw3 := xbw.cell 3
        simp only [List.getElem?_toArray, List.getElem?_cons_zero, List.getElem?_cons_succ] at qw0 qw1 qw2 qw3
        clear xbw
        have xbz := HI18.out.mem.at_ 2 rfl
        have qz0 := xbz.cell 0
        have qz1 := xbz.cell 1
        have qz2 := xbz.cell 2
        have qz3 := xbz.cell 3
        simp only [List.getElem?_toArray, List.getElem?_cons_zero, List.getElem?_cons_succ] at qz0 qz1 qz2 qz3
        clear xbz
        have xby := HI18.out.mem.at_ 3 rfl
        have qy0 := xby.cell 0
        have qy1 := xby.cell 1
        have qy2 := xby.cell 2
        have qy3 := xby.cell 3
        simp only [List.getElem?_toArray, List.getElem?_cons_zero, List.getElem?_cons_succ] at qy0 qy1 qy2 qy3
        clear xby
        have xbx := HI18.out.mem.at_ 4 rfl
        have qx0 := xbx.cell 0
        have qx1 := xbx.cell 1
        have qx2 := xbx.cell 2
        have qx3 := xbx.cell 3
        simp only [List.getElem?_toArray, List.getElem?_cons_zero, List.getElem?_cons_succ] at qx0 qx1 qx2 qx3
        clear xbx
        have heta : ∀ w, (Op.equalIn 10000 25 (.agg #[.int .i64 ta.k, .string ta.s, .string ta.l, .string ta.t]) (.agg #[.int .i64 ta.k, .string ta.s, .string ta.l, .string ta.t])).run Tryz.prog w = .ok true w := fun w => (equal_bool ta ta w).trans (by rw [tmEq_self])
        have hetb : ∀ w, (Op.equalIn 10000 25 (.agg #[.int .i64 tb.k, .string tb.s, .string tb.l, .string tb.t]) (.agg #[.int .i64 tb.k, .string tb.s, .string tb.l, .string tb.t])).run Tryz.prog w = .ok true w := fun w => (equal_bool tb tb w).trans (by rw [tmEq_self])
        go_wp2_with fail
        go_ret
        exact ⟨rfl, HI18.out.mem.bel⟩
    · have hrr2 : truthO t = some false := hrr
      rw [hrr2] at HALL
      clear hrr hrr2 HRR
      rcases Bool.eq_false_or_eq_true ia with rfl | rfl
      · obtain ⟨⟨hqx, htx, hix⟩, ⟨hqc, htc, hic⟩, ⟨hta, hia⟩, htb, hib⟩ := HALL.out
        have e1 : qc = qa := hqc.trans (if_pos hia.symm)
        have e2 : qx = qb := hqx
        rw [e1] at htc hic
        rw [e2] at htx hix
        clear hqx hqc e1 e2
        have f1 : ta = tc := (htc.trans hta.symm).symm
        have f2 : true = ic := (hic.trans hia.symm).symm
        have f3 : tb = tx := (htx.trans htb.symm).symm
        have f4 : ib = ix := (hix.trans hib.symm).symm
        clear htc hic htx hix hta hia htb hib HALL
        subst f1 f2 f3 f4
        have xbw := HI18.out.mem.at_ 0 rfl
        have qw0 := xbw.cell 0
        have qw1 := xbw.cell 1
        have qw2 := xbw.cell 2
        have qw3 := xbw.cell 3
        simp only [List.getElem?_toArray, List.getElem?_cons_zero, List.getElem?_cons_succ] at qw0 qw1 qw2 qw3
        clear xbw
        have xbz := HI18.out.mem.at_ 2 rfl
        have qz0 := xbz.cell 0
        have qz1 := xbz.cell 1
        have qz2 := xbz.cell 2
        have qz3 := xbz.cell 3
        simp only [List.getElem?_toArray, List.getElem?_cons_zero, List.getElem?_cons_succ] at qz0 qz1 qz2 qz3
        clear xbz
        have xby := HI18.out.mem.at_ 3 rfl
        have qy0 := xby.cell 0
        have qy1 := xby.cell 1
        have qy2 := xby.cell 2
        have qy3 := xby.cell 3
        simp only [List.getElem?_toArray, List.getElem?_cons_zero, List.getElem?_cons_succ] at qy0 qy1 qy2 qy3
        clear xby
        have xbx := HI18.out.mem.at_ 4 rfl
        have qx0 := xbx.cell 0
        have qx1 := xbx.cell 1
        have qx2 := xbx.cell 2
        have qx3 := xbx.cell 3
        simp only [List.getElem?_toArray, List.getElem?_cons_zero, List.getElem?_cons_succ] at qx0 qx1 qx2 qx3
        clear xbx
        have heta : ∀ w, (Op.equalIn 10000 25 (.agg #[.int .i64 ta.k, .string ta.s, .string ta.l, .string ta.t]) (.agg #[.int .i64 ta.k, .string ta.s, .string ta.l, .string ta.t])).run Tryz.prog w = .ok true w := fun w => (equal_bool ta ta w).trans (by rw [tmEq_self])
        have hetb : ∀ w, (Op.equalIn 10000 25 (.agg #[.int .i64 tb.k, .string tb.s, .string tb.l, .string tb.t]) (.agg #[.int .i64 tb.k, .string tb.s, .string tb.l, .string tb.t])).run Tryz.prog w = .ok true w := fun w => (equal_bool tb tb w).trans (by rw [tmEq_self])
        go_wp2_with fail
        go_ret
        exact ⟨rfl, HI18.out.mem.bel⟩
      · obtain ⟨⟨hqx, htx, hix⟩, ⟨hqc, htc, hic⟩, ⟨hta, hia⟩, htb, hib⟩ := HALL.out
        have e1 : qc = qb := hqc.trans (if_neg (by rw [← hia]; decide))
        have e2 : qx = qb := hqx
        rw [e1] at htc hic
        rw [e2] at htx hix
        clear hqx hqc e1 e2
        have f1 : tb = tc := (htc.trans htb.symm).symm
        have f2 : ib = ic := (hic.trans hib.symm).symm
        have f3 : tb = tx := (htx.trans htb.symm).symm
        have f4 : ib = ix := (hix.trans hib.symm).symm
        clear htc hic htx hix hta hia htb hib HALL
        subst f1 f2 f3 f4
        have xbw := HI18.out.mem.at_ 0 rfl
        have qw0 := xbw.cell 0
        have qw1 := xbw.cell 1
        have qw2 := xbw.cell 2
        have qw3 := xbw.cell 3
        simp only [List.getElem?_toArray, List.getElem?_cons_zero, List.getElem?_cons_succ] at qw0 qw1 qw2 qw3
        clear xbw
        have xbz := HI18.out.mem.at_ 2 rfl
        have qz0 := xbz.cell 0
        have qz1 := xbz.cell 1
        have qz2 := xbz.cell 2
        have qz3 := xbz.cell 3
        simp only [List.getElem?_toArray, List.getElem?_cons_zero, List.getElem?_cons_succ] at qz0 qz1 qz2 qz3
        clear xbz
        have xby := HI18.out.mem.at_ 3 rfl
        have qy0 := xby.cell 0
        have qy1 := xby.cell 1
        have qy2 := xby.cell 2
        have qy3 := xby.cell 3
        simp only [List.getElem?_toArray, List.getElem?_cons_zero, List.getElem?_cons_succ] at qy0 qy1 qy2 qy3
        clear xby
        have xbx := HI18.out.mem.at_ 4 rfl
        have qx0 := xbx.cell 0
        have qx1 := xbx.cell 1
        have qx2 := xbx.cell 2
        have qx3 := xbx.cell 3
        simp only [List.getElem?_toArray, List.getElem?_cons_zero, List.getElem?_cons_succ] at qx0 qx1 qx2 qx3
        clear xbx
        have heta : ∀ w, (Op.equalIn 10000 25 (.agg #[.int .i64 ta.k, .string ta.s, .string ta.l, .string ta.t]) (.agg #[.int .i64 ta.k, .string ta.s, .string ta.l, .string ta.t])).run Tryz.prog w = .ok true w := fun w => (equal_bool ta ta w).trans (by rw [tmEq_self])
        have hetb : ∀ w, (Op.equalIn 10000 25 (.agg #[.int .i64 tb.k, .string tb.s, .string tb.l, .string tb.t]) (.agg #[.int .i64 tb.k, .string tb.s, .string tb.l, .string tb.t])).run Tryz.prog w = .ok true w := fun w => (equal_bool tb tb w).trans (by rw [tmEq_self])
        go_wp2_with fail
        go_ret
        exact ⟨rfl, HI18.out.mem.bel⟩
end Go.Proofs.YtecomfhbdonkbaaGreatDoor
