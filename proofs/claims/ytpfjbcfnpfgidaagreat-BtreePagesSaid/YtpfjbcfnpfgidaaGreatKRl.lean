/- Rl -/
import Derived.Test.YtpfjbcfnpfgidaaGreatKRk
import Derived.ChangeMaps5
import Derived.Lib.SmallJoins
import Derived.OpenShut
namespace Go.Proofs.YtpfjbcfnpfgidaaGreat
open Go.RowKit Go.Maps Go.ChangeShapes Go.WideShapes
set_option maxRecDepth 100000
set_option linter.unusedVariables false
theorem do5_any {w0 w : World} {X : Nat → Prop} {r p N M c : Nat} {G H : Lg} {n : Nat} {t : BT Ent n} {tot B x : Nat} {kv vv : Value} (h : Bo w0 w X r p N M c G H t tot B x kv vv) (kind num : Int) (key val : ByteArray) (hk : key.size ≤ 1000) (hv : val.size ≤ 1000) (hl : t.flat.length ≤ 1000) (hroom : 25 ≤ H.free.length) (hc : c + 300000 < 500000) :
 Calls Tryz.prog 13 #[.agg #[.int .i64 kind, .int .i64 num, .string key, .string val], .pointer (some ⟨p, 0, none⟩), .int .i64 (t.page : Int), .pointer (some ⟨x, 0, none⟩)] w (DoTo5 w0 r p N M c G t.flat.length tot B x) := by
 have h0 := Int.emod_nonneg kind (show (11 : Int) ≠ 0 by decide)
 have h1 := Int.emod_lt_of_pos kind (show (0 : Int) < 11 by decide)
 by_cases a1 : kind % 11 ≤ 5
 ·exact do5_set h kind num key val hk hv hl hroom hc ⟨h0, a1⟩
 ·by_cases a2 : kind % 11 ≤ 8
  ·exact do5_del h kind num key val hl hroom hc ⟨by omega, a2⟩
  ·by_cases a3 : kind % 11 = 9
   ·exact do5_get h kind num key val hl a3
   ·exact do5_range h kind num key val hl (by omega)
theorem takeWhile_all {α : Type} : ∀ l : List α, l.takeWhile (fun _ => true) = l
 | [] => rfl
 | a :: l => by rw [List.takeWhile_cons, if_pos rfl, takeWhile_all l]
theorem rangeL_all {l : List Ent} {m : Nat} (h : l.length ≤ m) : rangeL ⟨#[]⟩ ⟨#[]⟩ m l = l := by
 have e : tokK ⟨#[]⟩ = fun _ => true := by
  funext x
  unfold tokK
  have : (⟨#[]⟩ : ByteArray).toList = [] := by rw [Lib.toList_data]
  rw [this]; rfl
 unfold rangeL
 rw [filter_all, e, takeWhile_all, List.take_of_length_le h]
set_option maxHeartbeats 4000000 in
theorem same5_any {w0 w : World} {X : Nat → Prop} {r p N M c : Nat} {G H : Lg} {n : Nat} {t : BT Ent n} {tot B x : Nat} {kv vv : Value} (h : Bo w0 w X r p N M c G H t tot B x kv vv) (hl : t.flat.length ≤ 1000) :
 Calls Tryz.prog 14 #[.pointer (some ⟨p, 0, none⟩), .int .i64 (t.page : Int), .pointer (some ⟨x, 0, none⟩)] w fun e w' => e = .returned (.bool true) ∧ Below w.heap.size w w' := by
 have hct := count_tree h.pb (H := some H) h.tree (by omega)
 obtain ⟨A, V, ee, hA, hV, hrg, -, hpos⟩ := both_range h ⟨#[]⟩ ⟨#[]⟩ 100000 hl
 obtain ⟨rfl, hAe, hVe⟩ := hpos (by decide)
 rw [show (100000 : Int).toNat = 100000 from rfl, rangeL_all (by omega)] at hAe hVe
 obtain ⟨pg, hpg⟩ : ∃ pg : Int, pg = (t.page : Int) := ⟨_, rfl⟩
 rw [← hpg] at hrg hct ⊢
 obtain ⟨fl, hfl⟩ : ∃ fl, fl = t.flat.length := ⟨_, rfl⟩
 rw [← hfl] at hct
 obtain ⟨ao, cap, e1, k1, k2⟩ := (show OwnS _ _ kv _ from Live.at1 h.map).ss.form
 have e1' : kv = .slice ao fl cap := by rw [e1, hfl]; unfold keysL; rw [List.length_map]
 have HX := Lib.hid (show ∀ u, Below w.heap.size w u → u.cell? ⟨x, 0, none⟩ = some (.slice ao fl cap) ∧ u.cell? ⟨x, 1, none⟩ = some vv from fun u hu => by
  have hbu := ((h.read hu).map).x.1
  exact ⟨by rw [hbu.cell, e1']; rfl, by rw [hbu.cell]; rfl⟩)
 have hsk : ∀ u, Below w.heap.size w u → Ss u (.slice ao fl cap) A ∧ Ss u vv V := fun u hu => by
  have h1 := (Live.at1 (h.read hu).map).ss
  have h2 := (Live.at2 (h.read hu).map).ss
  rw [hAe, hVe, ← e1']
  exact ⟨h1, h2⟩
 have HSK := Lib.hid hsk
 have HCT := Lib.hid hct
 have HRG := Lib.hid hrg
 have HAV := Lib.hid (And.intro hA hV)
 clear h hl hct hA hV hrg hpos hAe hVe hpg hfl e1 k1 e1' hsk
 go_enter Tryz.func14, Tryz.ntmps14
 go_wp2_with fail
 refine HCT.out.mono ?_
 rintro en w1 ⟨rfl, hb1⟩
 have HR := Lib.hid (HRG.out w1 hb1)
 have HB1 := Lib.hid hb1
 clear hb1 HRG HCT
 go_wp2_with fail
 refine HR.out.mono ?_
 rintro en w2 ⟨a, b, rfl, ha, hb, hb2⟩
 have hbel := HB1.out.trans (hb2.mono HB1.out.size)
 obtain ⟨c0, c1⟩ := HX.out w2 hbel
 have hr1 := rows_any ha (HSK.out w2 hbel).1 (by have := HAV.out.1; omega) (by have := HAV.out.1; omega)
 rw [decide_eq_true rfl] at hr1
 have HR1 := Lib.hid hr1
 have HSB := Lib.hid hb
 have HBL := Lib.hid hbel
 clear ha hb hb2 hbel hr1 HR
 go_wp2_with fail
 refine HR1.out.mono ?_
 rintro en w3 ⟨rfl, hb3⟩
 have hbel := HBL.out.trans (hb3.mono HBL.out.size)
 have hr2 := rows_any (HSB.out.below hb3) (HSK.out w3 hbel).2 (by have := HAV.out.2; omega) (by have := HAV.out.2; omega)
 rw [decide_eq_true rfl] at hr2
 replace c0 := (HX.out w3 hbel).1
 replace c1 := (HX.out w3 hbel).2
 have HR2 := Lib.hid hr2
 have HB3 := Lib.hid hbel
 clear hb3 hbel hr2 HR1
 go_wp2_with fail
 refine HR2.out.mono ?_
 rintro en w4 ⟨rfl, hb4⟩
 have HB4 := Lib.hid (HB3.out.trans (hb4.mono HB3.out.size))
 clear hb4 HR2 c0 c1
 go_wp2_with fail
 go_ret
 exact ⟨rfl, HB4.out⟩
abbrev Acts5 := List (Int × Int × ByteArray × ByteArray)
def A5At (w : World) (b o : Nat) (q : Int × Int × ByteArray × ByteArray) : Prop :=
 w.cell? ⟨b, o, none⟩ = some (.int .i64 q.1) ∧ w.cell? ⟨b, o + 1, none⟩ = some (.int .i64 q.2.1) ∧ w.cell? ⟨b, o + 2, none⟩ = some (.string q.2.2.1) ∧ w.cell? ⟨b, o + 3, none⟩ = some (.string q.2.2.2)
def Acs5 (w : World) (v : Value) (l : Acts5) : Prop :=
 ∃ ao cap, v = .slice ao l.length cap ∧ l.length ≤ cap ∧ cap ≤ maxLen ∧ ∀ k (hk : k < l.length), ∃ b off, ao = some ⟨b, off, none⟩ ∧ b < w.heap.size ∧ A5At w b (off + k * 4) l[k]
theorem A5At.below {w w' : World} {b o : Nat} {q : Int × Int × ByteArray × ByteArray} (h : A5At w b o q) (hb : b < w.heap.size) (hm : Below w.heap.size w w') : A5At w' b o q := by
 have hc : ∀ j, w'.cell? ⟨b, j, none⟩ = w.cell? ⟨b, j, none⟩ := fun j => hm.cell (show (⟨b, j, none⟩ : Addr).block < _ from hb)
 exact ⟨(hc _).trans h.1, (hc _).trans h.2.1, (hc _).trans h.2.2.1, (hc _).trans h.2.2.2⟩
theorem Acs5.below {w w' : World} {v : Value} {l : Acts5} (h : Acs5 w v l) (hm : Below w.heap.size w w') : Acs5 w' v l := by
 obtain ⟨ao, cap, e, h1, h2, hE⟩ := h
 refine ⟨ao, cap, e, h1, h2, fun k hk => ?_⟩
 obtain ⟨b, off, e', hb, hA⟩ := hE k hk
 exact ⟨b, off, e', Nat.lt_of_lt_of_le hb hm.size, hA.below hb hm⟩
theorem act5_fields : ∃ fs : Array Field, Tryz.prog.underlying 36 = some (.struct fs) ∧ fs.toList.map (fun f => (f.type, f.offset)) = [(3, 0), (3, 1), (9, 2), (9, 3)] := ⟨_, Tryz.underlying36, by kernel_rfl⟩
theorem act5_open {H : Type} {enc : TypeId × Value → H} {W : World} {fuel : Nat} {cs : List Value} {y : DataW H × List MemPlace} {b o : Nat} (hlen : cs.length = 4) (hcell : ∀ j, j < 4 → W.cell? ⟨b, o + j, none⟩ = cs[j]?)
 (h : DataW.trod enc Tryz.prog W 0 (fun _ => true) true fuel 36 cs = some y) : ∃ q : Int × Int × ByteArray × ByteArray, A5At W b o q := by
 obtain ⟨fs, hfs, hm⟩ := act5_fields
 obtain ⟨xs, k, -, -, -, hxl, hf⟩ := DataW.trod_struct hfs h
 have c3 : Tryz.prog.cellsOf 3 = 1 := by kernel_rfl
 have c9 : Tryz.prog.cellsOf 9 = 1 := by kernel_rfl
 have hfl : fs.size = 4 := by
  have := congrArg List.length hm
  simpa using this
 have hgt : ∀ j (hj : j < 4), ∃ f, fs[j]? = some f ∧ (f.type, f.offset) = ([(3, 0), (3, 1), (9, 2), (9, 3)] : List (TypeId × Nat))[j]'(by simpa using hj) := by
  intro j hj
  have hjs : j < fs.size := by omega
  refine ⟨fs[j], by simp [hjs], ?_⟩
  have : (fs.toList.map (fun f => (f.type, f.offset)))[j]? = some (fs[j].type, fs[j].offset) := by simp [hjs]
  rw [hm, List.getElem?_eq_getElem (by simpa using hj)] at this
  exact (Option.some.inj this).symm
 match cs, hlen with
 | [v0, v1, v2, v3], _ =>
  match xs, (by omega : xs.length = 4) with
  | [y0, y1, y2, y3], _ =>
   obtain ⟨f0, e0, t0⟩ := hgt 0 (by decide)
   obtain ⟨f1, e1, t1⟩ := hgt 1 (by decide)
   obtain ⟨f2, e2, t2⟩ := hgt 2 (by decide)
   obtain ⟨f3, e3, t3⟩ := hgt 3 (by decide)
   have g0 := hf 0 f0 e0
   have g1 := hf 1 f1 e1
   have g2 := hf 2 f2 e2
   have g3 := hf 3 f3 e3
   simp only [List.getElem_cons_zero, List.getElem_cons_succ, Prod.mk.injEq] at t0 t1 t2 t3
   rw [t0.1, t0.2, c3] at g0
   rw [t1.1, t1.2, c3] at g1
   rw [t2.1, t2.2, c9] at g2
   rw [t3.1, t3.2, c9] at g3
   simp only [List.drop_zero, List.drop_succ_cons, List.take_succ_cons, List.take_zero, List.getElem?_cons_zero, List.getElem?_cons_succ] at g0 g1 g2 g3
   obtain ⟨n0, q0, -, -⟩ := DataW.trod_int Tryz.underlying3 g0
   obtain ⟨n1, q1, -, -⟩ := DataW.trod_int Tryz.underlying3 g1
   obtain ⟨s2, q2, -, -⟩ := DataW.trod_string Tryz.underlying9 g2
   obtain ⟨s3, q3, -, -⟩ := DataW.trod_string Tryz.underlying9 g3
   simp only [List.cons.injEq, and_true] at q0 q1 q2 q3
   refine ⟨(n0, n1, s2, s3), ?_, ?_, ?_, ?_⟩
   ·rw [← q0]; exact hcell 0 (by decide)
   ·rw [← q1]; exact hcell 1 (by decide)
   ·rw [← q2]; exact hcell 2 (by decide)
   ·rw [← q3]; exact hcell 3 (by decide)
theorem acts5_open {H : Type} {enc : TypeId × Value → H} {W : World} {fuel : Nat} {ao : Option Addr} {len cap : Nat} {y : DataW H × List MemPlace}
 (h : DataW.trod enc Tryz.prog W 0 (fun _ => true) true fuel 22 [.slice ao len cap] = some y) : ∃ l : Acts5, l.length = len ∧ Acs5 W (.slice ao len cap) l := by
 have c5 : Tryz.prog.cellsOf 36 = 4 := by kernel_rfl
 rcases Go.Deep.open_slice Tryz.underlying22 h with ⟨hcs, _⟩ | ⟨a, len', cap', m, n, D, Pl, hcs, -, hl, hm, hmm, -, hx⟩
 ·simp only [List.cons.injEq, and_true, Value.slice.injEq] at hcs
  obtain ⟨rfl, rfl, rfl⟩ := hcs
  exact ⟨[], rfl, none, 0, rfl, Nat.le_refl _, by simp [maxLen], fun k hk => by simp at hk⟩
 ·simp only [List.cons.injEq, and_true, Value.slice.injEq] at hcs
  obtain ⟨rfl, rfl, rfl⟩ := hcs
  simp only [if_true] at hmm
  subst hmm
  obtain ⟨b, off, spot⟩ := a
  have each : ∀ i, i < len → ∃ q : Int × Int × ByteArray × ByteArray, spot = none ∧ A5At W b (off + i * 4) q := by
   intro i hi
   have hs : spot = none := by
    obtain ⟨cs', h1, -⟩ := hx 0 (by omega)
    rw [c5] at h1
    obtain ⟨_, hlen, hcell⟩ := World.cells?_some h1
    have h0 := hcell 0 (by decide)
    rw [List.getElem?_eq_getElem (by omega)] at h0
    simpa [Addr.add] using World.cell?_spot h0
   subst hs
   obtain ⟨cs', h1, h2⟩ := hx i (by omega)
   rw [c5] at h1
   obtain ⟨_, hlen, hcell⟩ := World.cells?_some h1
   obtain ⟨q, hq⟩ := act5_open (b := b) (o := off + i * 4) hlen (fun j hj => by
    have := hcell j hj
    rw [add_add, Addr.add_lit, ← Nat.add_assoc] at this
    exact this) h2
   exact ⟨q, rfl, hq⟩
  obtain ⟨f, hf⟩ := Go.Deep.choose_lt each
  refine ⟨(List.range len).map f, by simp, some ⟨b, off, spot⟩, m, by simp, by simpa using hl, hm, fun k hk => ?_⟩
  have hk' : k < len := by simpa using hk
  obtain ⟨rfl, hq⟩ := hf k hk'
  exact ⟨b, off, rfl, World.block_lt_of_cell? _ _ hq.1, by simpa using hq⟩
def Few5 (l : Acts5) : Prop := l.length ≤ 100 ∧ ∀ k (hk : k < l.length), l[k].2.2.1.size ≤ 160 ∧ l[k].2.2.2.size ≤ 160
def FewTo5 (l : Acts5) (w : World) (e : Ending) (w' : World) : Prop := ∃ t : Bool, e = .returned (.bool t) ∧ w' = w ∧ (t = true → Few5 l)
set_option maxHeartbeats 2000000 in
theorem few5_any {w : World} {v : Value} {l : Acts5} (h : Acs5 w v l) :
 Calls Tryz.prog 10 #[v] w (FewTo5 l w) := by
 obtain ⟨ao, cap, rfl, hc1, hc2, hE⟩ := h
 have hc2' : cap ≤ 9223372036854775807 := hc2
 obtain ⟨n, hn⟩ : ∃ n, n = l.length := ⟨_, rfl⟩
 rw [← hn] at hc1 ⊢
 have HN := Lib.hid hn
 have HE := Lib.hid hE
 clear hn hE hc2
 go_enter Tryz.func10, Tryz.ntmps10
 go_wp2_with fail
 go_loopw [3] (fun i wr => ∃ k : Nat, k ≤ n ∧ i = .int .i64 k ∧ (∀ j (hj : j < l.length), j < k → l[j].2.2.1.size ≤ 160 ∧ l[j].2.2.2.size ≤ 160) ∧ wr = w) (fun i _ => n - (intOf i).toNat)
 case atStart => exact ⟨0, Nat.zero_le _, rfl, fun j hj h => absurd h (Nat.not_lt_zero _), rfl⟩
 case round =>
  obtain ⟨k, hk, rfl, hf, rfl⟩ := hrel
  have HF := Lib.hid hf
  clear hf
  by_cases hlt : k < n
  ·have hkl : k < l.length := by rw [← HN.out]; exact hlt
   obtain ⟨b, off, rfl, hb, ⟨c0, c1, c2, c3⟩⟩ := HE.out k hkl
   obtain ⟨s1, hs1⟩ : ∃ s, s = l[k].2.2.1 := ⟨_, rfl⟩
   obtain ⟨s2, hs2⟩ : ∃ s, s = l[k].2.2.2 := ⟨_, rfl⟩
   rw [← hs1] at c2
   rw [← hs2] at c3
   have HS := Lib.hid (And.intro hs1 hs2)
   have hlt' : (k : Int) < n := by omega
   clear hb c0 c1 hs1 hs2
   by_cases h6 : (160 : Int) < s1.size
   ·go_wp2_with fail
    go_ret
    exact ⟨false, rfl, rfl, fun e => by cases e⟩
   ·by_cases h7 : (160 : Int) < s2.size
    ·go_wp2_with fail
     go_ret
     exact ⟨false, rfl, rfl, fun e => by cases e⟩
    ·go_wp2_with fail
     go_roundw
     case rel =>
      refine ⟨k + 1, by omega, by go_num, fun j hj hjk => ?_, by first | rfl | trivial⟩
      by_cases e : j = k
      ·subst e; rw [← HS.out.1, ← HS.out.2]; omega
      ·exact HF.out j hj (by omega)
     case measure => simp [intOf]; omega
  ·obtain rfl : k = n := by omega
   go_wp2_with fail
   go_ret
   refine ⟨decide ((k : Int) ≤ 100), rfl, rfl, fun e => ⟨?_, fun j hj => HF.out j hj (by rw [HN.out]; exact hj)⟩⟩
   have := of_decide_eq_true e
   rw [← HN.out]; omega
theorem lg_free : (Lg.new 1199).free = 1 :: List.range' 2 1197 := new5_free
/-- The tree of one empty leaf, and an empty map. -/
theorem Bo.start {w0 w : World} {r p c : Nat} (h : Pb w0 w NoX5 r p 1199 0 c (Lg.new 1199) (some (leafLg (Lg.new 1199) 1 (List.range' 2 1197)))) :
 Bo w0 (w.alloc (.cells #[.slice none 0 0, .slice none 0 0] 33)) (fun k => NoX5 k ∨ (w.heap.size ≤ k ∧ k < (w.alloc (.cells #[.slice none 0 0, .slice none 0 0] 33)).heap.size)) r p 1199 0 c (Lg.new 1199) (leafLg (Lg.new 1199) 1 (List.range' 2 1197)) (BT.leaf 1 []) 1198 (w.alloc (.cells #[.slice none 0 0, .slice none 0 0] 33)).heap.size w.heap.size (.slice none 0 0) (.slice none 0 0) := by
 have hs := (Side.nil (N := 1199) (by omega)).new lg_free
 have hsz : (w.alloc (.cells #[.slice none 0 0, .slice none 0 0] 33)).heap.size = w.heap.size + 1 := by simp
 refine ⟨h.take ((Below.refl _ w).alloc (Nat.le_refl _) _), hs.at (List.mem_append_right _ (List.mem_singleton.2 rfl)), ?_, ⟨fun y hy => ?_, fun q hq => ?_, ?_, Nat.le_refl _, Moved.refl _ _, fun q hq z hz => ?_⟩, fun q hq => ?_, fun k hk => ?_⟩
 ·have := hs.all
  simpa [BT.Some'.pages] using this
 ·simp only [List.mem_cons, List.not_mem_nil, or_false] at hy
  subst hy
  exact ⟨Blk.new w _ _, by omega⟩
 ·simp only [List.mem_cons, List.not_mem_nil, or_false] at hq
  rcases hq with rfl | rfl <;> exact World.ownsRow_nil _ _ _ _
 ·simp [Value.ownBlock]
 ·simp only [List.mem_cons, List.not_mem_nil, or_false] at hq
  rcases hq with rfl | rfl <;> cases hz
 ·rcases hq with rfl | e | e
  ·exact .inr ⟨Nat.le_refl _, by omega⟩
  ·cases e
  ·cases e
 ·rcases hk with e | e
  ·exact e.elim
  ·exact Nat.le_trans h.below.size e.1
end Go.Proofs.YtpfjbcfnpfgidaaGreat
