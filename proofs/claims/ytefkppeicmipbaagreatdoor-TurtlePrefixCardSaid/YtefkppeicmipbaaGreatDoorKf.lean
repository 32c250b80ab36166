/- References: a path without dots. -/
import Derived.Test.YtefkppeicmipbaaGreatDoorKe
import Derived.DeepKeys
namespace Go.Proofs.YtefkppeicmipbaaGreatDoor
open Go.RowKit Go.Shelf
set_option maxRecDepth 100000
set_option linter.unusedVariables false
theorem equal_step (a f x y : ByteArray) (w : World) : (Op.equalIn 10000 127 (.agg #[.string a, .string f]) (.agg #[.string x, .string y])).run Tryz.prog w = .ok (decide (a.data.toList = x.data.toList ∧ f.data.toList = y.data.toList)) w := by
  obtain ⟨i, hi⟩ : ∃ i, Tryz.prog.info? 9 = some i := Option.isSome_iff_exists.1 (by kernel_rfl)
  have hc : Tryz.prog.cellsOf 9 = 1 := by kernel_rfl
  rw [run_equalIn_array w 9999 _ _ Tryz.underlying127 hi, hc, show List.range 2 = [0, 1] from rfl]
  have e1 : decide (a.data.toList = x.data.toList ∧ f.data.toList = y.data.toList) = (a.toList == x.toList && f.toList == y.toList) := by
    rw [Lib.toList_data, Lib.toList_data, Lib.toList_data, Lib.toList_data]
    by_cases h1 : a.data.toList = x.data.toList
    · by_cases h2 : f.data.toList = y.data.toList
      · rw [decide_eq_true ⟨h1, h2⟩, beq_iff_eq.2 h1, beq_iff_eq.2 h2]; rfl
      · rw [decide_eq_false (fun e => h2 e.2), beq_eq_false_iff_ne.2 h2, Bool.and_false]
    · rw [decide_eq_false (fun e => h1 e.1), beq_eq_false_iff_ne.2 h1, Bool.false_and]
  rw [e1]
  clear e1
  cases h1 : a.toList == x.toList <;> cases h2 : f.toList == y.toList
  all_goals simp only [Op.eqItems, Nat.zero_mul, Nat.one_mul]
  all_goals go_simp
theorem dot_rel {D acc l o s : List UInt8} (hne : ¬ l = []) (hq : D = dotF l.length acc l) (hd : dstep acc l = (o, s)) : D = dotF s.length o s ∧ o.length + s.length ≤ acc.length + l.length ∧ s.length < l.length := by
  have h := dstep_lt acc l hne
  rw [hq, dotF_step acc l hne, hd]
  rw [hd] at h
  exact ⟨rfl, h.2, h.1⟩
theorem step_front {l : List UInt8} (hne : ¬ l = []) : l.take (l.length - (Lib.trimPrefix l [47]).length) = if l.head? = some 47 then [47] else [] := by
  match l, hne with
  | c :: t, _ =>
    rw [trim_slash, List.head?_cons]
    by_cases h : c = 47
    · subst h
      rw [if_pos rfl, if_pos rfl, List.length_cons, Nat.add_sub_cancel_left]
      rfl
    · rw [if_neg h, if_neg (fun e => h (Option.some.inj e)), Nat.sub_self]
      rfl
section
variable {l A F R acc : List UInt8} (hne : ¬ l = []) (hA : A = l.take (l.length - (Lib.trimPrefix l [47]).length)) (hF : F = frontL [47] (Lib.trimPrefix l [47])) (hR : R = restL [47] (Lib.trimPrefix l [47]))
include hne hA hF hR
theorem dstep_dot (h : A = [] ∧ (F = [46] ∨ F = [46, 46])) : dstep acc l = (acc, Lib.trimPrefix R [47]) := by
  rw [step_front hne] at hA
  have h1 : ¬ l.head? = some 47 := fun e => by rw [if_pos e] at hA; rw [hA] at h; exact absurd h.1 (by simp)
  unfold dstep
  rw [← hF, ← hR]
  exact if_pos ⟨h1, h.2⟩
theorem dstep_up (h : A = [47] ∧ F = [46, 46]) : dstep acc l = (cutLK acc, if R = [] then [47] else R) := by
  rw [step_front hne] at hA
  have h1 : l.head? = some 47 := by
    by_cases e : l.head? = some 47
    · exact e
    · rw [if_neg e] at hA; rw [hA] at h; exact absurd h.1 (by simp)
  unfold dstep
  rw [← hF, ← hR]
  dsimp only
  rw [if_neg (fun e => e.1 h1), if_pos ⟨h1, h.2⟩]
theorem dstep_here (h : A = [47] ∧ F = [46]) : dstep acc l = (acc, if R = [] then [47] else R) := by
  rw [step_front hne] at hA
  have h1 : l.head? = some 47 := by
    by_cases e : l.head? = some 47
    · exact e
    · rw [if_neg e] at hA; rw [hA] at h; exact absurd h.1 (by simp)
  unfold dstep
  rw [← hF, ← hR]
  dsimp only
  rw [if_neg (fun e => e.1 h1), if_neg (fun e => by have := e.2; rw [h.2] at this; exact absurd this (by simp)), if_pos ⟨h1, h.2⟩]
theorem dstep_put (h1 : ¬ (A = [] ∧ F = [46])) (h2 : ¬ (A = [] ∧ F = [46, 46])) (h3 : ¬ (A = [47] ∧ F = [46, 46])) (h4 : ¬ (A = [47] ∧ F = [46])) : dstep acc l = (acc ++ l.take (l.length - R.length), R) := by
  rw [step_front hne] at hA
  unfold dstep
  rw [← hF, ← hR]
  dsimp only
  by_cases e : l.head? = some 47
  · rw [if_pos e] at hA
    rw [if_neg (fun x => x.1 e), if_neg (fun x => h3 ⟨hA, x.2⟩), if_neg (fun x => h4 ⟨hA, x.2⟩)]
  · rw [if_neg e] at hA
    rw [if_neg (fun x => x.2.elim (fun y => h1 ⟨hA, y⟩) (fun y => h2 ⟨hA, y⟩)), if_neg (fun x => e x.1), if_neg (fun x => e x.1)]
end
theorem last_cut (l : List UInt8) : (lastI l = -1 ∧ (cutLK l).length = 0) ∨ (lastI l = ((cutLK l).length : Nat)) := by
  unfold lastI
  rcases last_slash l with ⟨h1, h2, -⟩ | ⟨x, y, e, -, h2, -⟩
  · left; rw [h1, h2]; exact ⟨rfl, rfl⟩
  · right
    rw [if_pos (by rw [e]; simp)]
theorem cut_take (l : List UInt8) : l.take (cutLK l).length = cutLK l := by
  rcases last_slash l with ⟨h1, h2, -⟩ | ⟨x, y, e, -, h2, -⟩
  · rw [h2]; rfl
  · rw [h2]
    rw [e, List.take_left]
theorem Own.shorter {w : World} {base : Nat} {so : Option Addr} {cap : Nat} {l : List UInt8} (h : Own w base (.slice so l.length cap) l) (k : Nat) (hk : k ≤ l.length) : Own w base (.slice so k cap) (l.take k) := by
  have hl : (l.take k).length = k := by rw [List.length_take]; omega
  have h0 := h.out
  unfold Own
  rw [hl]
  obtain ⟨-, h1⟩ := h0
  refine ⟨by rw [vbs_length, hl, Nat.mul_one], ?_⟩
  rcases h1 with ⟨e, h1⟩ | ⟨q, cap', cur, e, hb, hh, h2, h3, h4, h5⟩
  · left
    simp only [Value.slice.injEq] at e
    obtain ⟨rfl, e0, rfl⟩ := e
    have : k = 0 := by omega
    subst this
    exact ⟨rfl, rfl⟩
  · right
    simp only [Value.slice.injEq] at e
    obtain ⟨rfl, -, rfl⟩ := e
    refine ⟨q, cap, cur, rfl, hb, hh, by omega, h3, h4, ?_⟩
    rw [Nat.mul_one] at h5 ⊢
    have : cur.toList.take k = (cur.toList.take l.length).take k := by rw [List.take_take, Nat.min_eq_left hk]
    rw [this, h5]
    unfold vbs
    rw [List.map_take]
theorem wpList_append_bstr {w : World} {ops : Array Oper} {rest : List Oper} {o : Oper} {a : Act} {Q : Exit → Act → World → Prop} (hgd : o.guard = none) (s x : Operand)
    (ho : o.op = .call { callee := .builtin .append, args := #[s, x], argTypes := #[84, 9] })
    (base : Nat) (v : Value) (l : List UInt8) (hs : a.eval s = v) (hown : Own w base v l) (y : ByteArray) (hx : a.eval x = .string y)
    (hl : l.length + y.size ≤ 140737488355328) (hbase : base ≤ w.heap.size)
    (h : ∀ v' w', Own w' base v' (l ++ y.data.toList) → w.grownBy w' v.ownBlock → wpList Tryz.prog ops Q rest (a.put o.dst v') w') : wpList Tryz.prog ops Q (o :: rest) a w := by
  obtain ⟨i0, hi, hz0, hz1, hz2⟩ := info_parts Tryz.infoU8
  refine Lib.wpList_append_own_string _ hgd _ _ 84 9 ho base 5 i0 Tryz.underlying84 Tryz.underlying9 hi hz0 hz1 hz2 _ _ _ hs hown.out y hx ?c1 ?c2 hbase ?_
  case c1 => unfold maxLen; omega
  case c2 => omega
  intro v' w' ho' hg _
  exact h v' w' (Own.of ho' (by rw [List.length_append, Lib.size_eq]) (by rw [strCells_vbs, vbs_append])) hg
def strLen : Value → Nat | .string s => s.size | _ => 0
theorem trim_one_le (l : List UInt8) : (Lib.trimPrefix l [47]).length ≤ l.length := trim_le l
set_option maxHeartbeats 1000000 in
theorem dotless_any (s : ByteArray) (hs : s.size ≤ 1000000) (w : World) : Calls Tryz.prog 100 #[.string s] w fun e w' => e = .returned (.string ⟨(dotL s.data.toList).toArray⟩) ∧ Below w.heap.size w w' := by
  obtain ⟨D, hD⟩ : ∃ D, D = dotL s.data.toList := ⟨_, rfl⟩
  rw [← hD]
  have HN := Lib.hid (fun (x : ByteArray) (h : x.size ≤ 1000000) w => inext_any x h w)
  have HD := Lib.hid hD
  have HS := Lib.hid hs
  clear hD
  go_enter Tryz.func100, Tryz.ntmps100
  go_wp2_with fail
  go_loopw [0, 3] (fun x v3 wr => ∃ (c : ByteArray) (acc : List UInt8) (v : Value), x = .string c ∧ v3 = v ∧ acc.length + c.size ≤ 1000000 ∧ Own wr w.heap.size v acc ∧ D = dotF c.size acc c.data.toList ∧ Below w.heap.size w wr) (fun x _ _ => strLen x)
  case atStart => exact ⟨s, [], .slice none 0 0, rfl, rfl, by simpa using HS.out, World.ownsRow_nil _ _ _ _, by rw [HD.out, dotL, Lib.size_eq], Below.refl _ _⟩
  case round =>
    obtain ⟨c, acc, v, rfl, hv, hlen, hown, hq, hb⟩ := hrel
    replace hv := hv.symm
    subst hv
    have hci : c.size ≤ 1000000 := by omega
    have HN2 := Lib.hid (fun w => HN.out c hci w)
    unfold NextTo at HN2
    obtain ⟨l, hl⟩ : ∃ l, l = c.data.toList := ⟨_, rfl⟩
    have hcs : c.size = l.length := by rw [hl, Lib.size_eq]
    rw [hcs, ← hl] at hq
    rw [hcs] at hlen
    rw [← hl] at HN2
    have he : c.toList.isEmpty = decide (l = []) := by
      rw [Lib.toList_data, ← hl]
      cases l <;> simp
    have HO := Lib.hid hown
    have HQ := Lib.hid hq
    have HB := Lib.hid hb
    have HLEN := Lib.hid hlen
    have HL := Lib.hid hl
    have HCS := Lib.hid hcs
    clear hown hq hb hlen hl hcs hci
    by_cases hnil : l = []
    · subst hnil
      rw [decide_eq_true rfl] at he
      have hcv := run_conv_bytes HO.out.bs
      go_wp2_with fail
      go_ret
      refine ⟨?_, HB.out⟩
      rw [HQ.out, dotF_nil]
      rfl
    rw [decide_eq_false hnil] at he
    have HNE := Lib.hid hnil
    clear hnil
    obtain ⟨a, ha⟩ : ∃ a : ByteArray, a = ⟨(l.take (l.length - (Lib.trimPrefix l [47]).length)).toArray⟩ := ⟨_, rfl⟩
    obtain ⟨f, hf⟩ : ∃ f : ByteArray, f = ⟨(frontL [47] (Lib.trimPrefix l [47])).toArray⟩ := ⟨_, rfl⟩
    obtain ⟨r, hr⟩ : ∃ r : ByteArray, r = ⟨(restL [47] (Lib.trimPrefix l [47])).toArray⟩ := ⟨_, rfl⟩
    rw [← ha, ← hf, ← hr] at HN2
    have HA := Lib.hid ha
    have HF := Lib.hid hf
    have HR := Lib.hid hr
    clear ha hf hr
    go_wp2_with fail
    refine (HN2.out _).mono ?_
    rintro e w1 ⟨rfl, hb1⟩
    have HO1 := Lib.hid (((show Own wr w.heap.size v acc from HO.out).below hb1).alloc (.cells #[.string a, .string f] 127))
    have HB1 := Lib.hid ((HB.out.trans (hb1.mono HB.out.size)).alloc (Nat.le_trans HB.out.size hb1.size) (.cells #[.string a, .string f] 127))
    clear hb1
    obtain ⟨A, hA2⟩ : ∃ A, A = a.data.toList := ⟨_, rfl⟩
    obtain ⟨F, hF2⟩ : ∃ F, F = f.data.toList := ⟨_, rfl⟩
    obtain ⟨R, hR2⟩ : ∃ R, R = r.data.toList := ⟨_, rfl⟩
    have e1 := fun w => equal_step a f ⟨#[]⟩ ⟨#[46]⟩ w
    have e2 := fun w => equal_step a f ⟨#[]⟩ ⟨#[46, 46]⟩ w
    have e3 := fun w => equal_step a f ⟨#[47]⟩ ⟨#[46, 46]⟩ w
    have e4 := fun w => equal_step a f ⟨#[47]⟩ ⟨#[46]⟩ w
    rw [← hA2, ← hF2] at e1 e2 e3 e4
    simp only at e1 e2 e3 e4
    have HAA := Lib.hid (show A = l.take (l.length - (Lib.trimPrefix l [47]).length) by rw [hA2, HA.out])
    have HFF := Lib.hid (show F = frontL [47] (Lib.trimPrefix l [47]) by rw [hF2, HF.out])
    have HRR := Lib.hid (show R = restL [47] (Lib.trimPrefix l [47]) by rw [hR2, HR.out])
    have HR2 := Lib.hid hR2
    clear hA2 hF2 hR2
    by_cases c1 : A = [] ∧ F = [46]
    · rw [decide_eq_true c1] at e1
      have HC := Lib.hid c1
      clear c1 e2 e3 e4
      go_wp2_with fail
      have hsz : (w1.alloc (.cells #[.string a, .string f] 127)).heap.size = w1.heap.size + 1 := by simp
      generalize w1.alloc _ = w2 at HO1 HB1 hsz ⊢
      have HT := Lib.hid (fun w => strimp_anyK r ⟨#[47]⟩ w)
      rw [← HR2.out] at HT
      dsimp only at HT
      obtain ⟨tb, htb⟩ : ∃ x : ByteArray, x = ⟨(Lib.trimPrefix R [47]).toArray⟩ := ⟨_, rfl⟩
      have htl : tb.data.toList = Lib.trimPrefix R [47] := by rw [htb]
      rw [← htb] at HT
      have hrel := dot_rel HNE.out HQ.out (dstep_dot (acc := acc) HNE.out HAA.out HFF.out HRR.out ⟨HC.out.1, .inl HC.out.2⟩)
      rw [← htl, ← Lib.size_eq] at hrel
      have HREL := Lib.hid hrel
      clear htb htl hrel
      refine (HT.out _).mono ?_
      rintro e w3 ⟨rfl, hw⟩
      obtain rfl := hw.symm
      go_wp2_with fail
      go_roundw
      case rel => exact ⟨tb, acc, v, rfl, rfl, by have := HREL.out.2.1; have := HLEN.out; omega, HO1.out, HREL.out.1, HB1.out⟩
      case measure => have := HREL.out.2.2; have := HCS.out; simp only [strLen]; omega
    rw [decide_eq_false c1] at e1
    have HC1 := Lib.hid c1
    clear c1
    by_cases c2 : A = [] ∧ F = [46, 46]
    · rw [decide_eq_true c2] at e2
      have HC := Lib.hid c2
      clear c2 e3 e4
      go_wp2_with fail
      have hsz : (w1.alloc (.cells #[.string a, .string f] 127)).heap.size = w1.heap.size + 1 := by simp
      generalize w1.alloc _ = w2 at HO1 HB1 hsz ⊢
      have HT := Lib.hid (fun w => strimp_anyK r ⟨#[47]⟩ w)
      rw [← HR2.out] at HT
      dsimp only at HT
      obtain ⟨tb, htb⟩ : ∃ x : ByteArray, x = ⟨(Lib.trimPrefix R [47]).toArray⟩ := ⟨_, rfl⟩
      have htl : tb.data.toList = Lib.trimPrefix R [47] := by rw [htb]
      rw [← htb] at HT
      have hrel := dot_rel HNE.out HQ.out (dstep_dot (acc := acc) HNE.out HAA.out HFF.out HRR.out ⟨HC.out.1, .inr HC.out.2⟩)
      rw [← htl, ← Lib.size_eq] at hrel
      have HREL := Lib.hid hrel
      clear htb htl hrel
      refine (HT.out _).mono ?_
      rintro e w3 ⟨rfl, hw⟩
      obtain rfl := hw.symm
      go_wp2_with fail
      go_roundw
      case rel => exact ⟨tb, acc, v, rfl, rfl, by have := HREL.out.2.1; have := HLEN.out; omega, HO1.out, HREL.out.1, HB1.out⟩
      case measure => have := HREL.out.2.2; have := HCS.out; simp only [strLen]; omega
    rw [decide_eq_false c2] at e2
    have HC2 := Lib.hid c2
    clear c2
    by_cases c3 : A = [47] ∧ F = [46, 46]
    · rw [decide_eq_true c3] at e3
      have HC := Lib.hid c3
      clear c3 e4
      obtain ⟨so, cap, ev, hcap, hmx, -, -⟩ := (show Own _ _ _ _ from HO.out).bs
      subst ev
      have HBL := Lib.hid (fun w h => blast_any (.slice so acc.length cap) acc (by have := HLEN.out; omega) w h)
      go_wp2_with fail
      have hsz : (w1.alloc (.cells #[.string a, .string f] 127)).heap.size = w1.heap.size + 1 := by simp
      generalize w1.alloc _ = w2 at HO1 HB1 hsz ⊢
      rcases last_cut acc with ⟨h1, h0⟩ | h1
      · have HK := Lib.hid (cut_take acc)
        have HKL := Lib.hid (cut_lenK acc)
        rw [h0] at HK HKL
        have hK : True := trivial
        obtain ⟨K, hK0⟩ : ∃ K : Nat, K = 0 := ⟨_, rfl⟩
        rw [← hK0] at HK HKL
        have hkc : (K : Int) ≤ cap := by have := HKL.out; omega
        have HO2 := Lib.hid (show Own w2 w.heap.size (.slice so K cap) (cutLK acc) by
          have h := (show Own _ _ _ _ from HO1.out).shorter K HKL.out
          rw [HK.out] at h
          exact h)
        subst hK0
        clear hK
        refine (HBL.out _ HO1.out.bs).mono ?_
        rintro e w3 ⟨rfl, hw⟩
        obtain rfl := hw.symm
        rw [h1]
        go_wp2_with fail
        have hz := Blk.new w2 #[.string r, .string ⟨#[47]⟩] 9
        rw [hsz] at hz
        have z0 := hz.cell 0
        have z1 := hz.cell 1
        simp only [List.getElem?_toArray, List.getElem?_cons_zero, List.getElem?_cons_succ] at z0 z1
        have HOR := Lib.hid (or_any (w1.heap.size + 1) r ⟨#[47]⟩ _ z0 z1)
        rw [← HR2.out] at HOR
        have HO3 := Lib.hid ((show Own _ _ _ _ from HO2.out).alloc (.cells #[.string r, .string ⟨#[47]⟩] 9))
        have HB3 := Lib.hid ((show Below _ _ _ from HB1.out).alloc HB1.out.size (.cells #[.string r, .string ⟨#[47]⟩] 9))
        clear hz z0 z1
        generalize w2.alloc _ = w3 at HOR HO3 HB3 ⊢
        obtain ⟨nb, hnb⟩ : ∃ x : ByteArray, x = if R = [] then (⟨#[47]⟩ : ByteArray) else r := ⟨_, rfl⟩
        have hnl : nb.data.toList = if R = [] then [47] else R := by
          rw [hnb]
          by_cases h : R = []
          · rw [if_pos h, if_pos h]
          · rw [if_neg h, if_neg h, HR2.out]
        rw [← hnb] at HOR
        have hrel := dot_rel HNE.out HQ.out (dstep_up (acc := acc) HNE.out HAA.out HFF.out HRR.out HC.out)
        rw [← hnl, ← Lib.size_eq] at hrel
        have HREL := Lib.hid hrel
        clear hnb hnl hrel
        refine HOR.out.mono ?_
        rintro e w4 ⟨rfl, hw⟩
        obtain rfl := hw.symm
        go_wp2_with fail
        go_roundw
        case rel => exact ⟨nb, cutLK acc, .slice so 0 cap, rfl, rfl, by have := HREL.out.2.1; have := HLEN.out; omega, HO3.out, HREL.out.1, HB3.out⟩
        case measure => have := HREL.out.2.2; have := HCS.out; simp only [strLen]; omega
      · have HK := Lib.hid (cut_take acc)
        have HKL := Lib.hid (cut_lenK acc)
        generalize hK : (cutLK acc).length = K at h1 HK HKL
        have hkc : (K : Int) ≤ cap := by have := HKL.out; omega
        have HO2 := Lib.hid (show Own w2 w.heap.size (.slice so K cap) (cutLK acc) by
          have h := (show Own _ _ _ _ from HO1.out).shorter K HKL.out
          rw [HK.out] at h
          exact h)
        clear hK
        refine (HBL.out _ HO1.out.bs).mono ?_
        rintro e w3 ⟨rfl, hw⟩
        obtain rfl := hw.symm
        rw [h1]
        go_wp2_with fail
        have hz := Blk.new w2 #[.string r, .string ⟨#[47]⟩] 9
        rw [hsz] at hz
        have z0 := hz.cell 0
        have z1 := hz.cell 1
        simp only [List.getElem?_toArray, List.getElem?_cons_zero, List.getElem?_cons_succ] at z0 z1
        have HOR := Lib.hid (or_any (w1.heap.size + 1) r ⟨#[47]⟩ _ z0 z1)
        rw [← HR2.out] at HOR
        have HO3 := Lib.hid ((show Own _ _ _ _ from HO2.out).alloc (.cells #[.string r, .string ⟨#[47]⟩] 9))
        have HB3 := Lib.hid ((show Below _ _ _ from HB1.out).alloc HB1.out.size (.cells #[.string r, .string ⟨#[47]⟩] 9))
        clear hz z0 z1
        generalize w2.alloc _ = w3 at HOR HO3 HB3 ⊢
        obtain ⟨nb, hnb⟩ : ∃ x : ByteArray, x = if R = [] then (⟨#[47]⟩ : ByteArray) else r := ⟨_, rfl⟩
        have hnl : nb.data.toList = if R = [] then [47] else R := by
          rw [hnb]
          by_cases h : R = []
          · rw [if_pos h, if_pos h]
          · rw [if_neg h, if_neg h, HR2.out]
        rw [← hnb] at HOR
        have hrel := dot_rel HNE.out HQ.out (dstep_up (acc := acc) HNE.out HAA.out HFF.out HRR.out HC.out)
        rw [← hnl, ← Lib.size_eq] at hrel
        have HREL := Lib.hid hrel
        clear hnb hnl hrel
        refine HOR.out.mono ?_
        rintro e w4 ⟨rfl, hw⟩
        obtain rfl := hw.symm
        go_wp2_with fail
        go_roundw
        case rel => exact ⟨nb, cutLK acc, .slice so K cap, rfl, rfl, by have := HREL.out.2.1; have := HLEN.out; omega, HO3.out, HREL.out.1, HB3.out⟩
        case measure => have := HREL.out.2.2; have := HCS.out; simp only [strLen]; omega
    rw [decide_eq_false c3] at e3
    have HC3 := Lib.hid c3
    clear c3
    by_cases c4 : A = [47] ∧ F = [46]
    · rw [decide_eq_true c4] at e4
      have HC := Lib.hid c4
      clear c4
      go_wp2_with fail
      have hsz : (w1.alloc (.cells #[.string a, .string f] 127)).heap.size = w1.heap.size + 1 := by simp
      generalize w1.alloc _ = w2 at HO1 HB1 hsz ⊢
      have hz := Blk.new w2 #[.string r, .string ⟨#[47]⟩] 9
      rw [hsz] at hz
      have z0 := hz.cell 0
      have z1 := hz.cell 1
      simp only [List.getElem?_toArray, List.getElem?_cons_zero, List.getElem?_cons_succ] at z0 z1
      have HOR := Lib.hid (or_any (w1.heap.size + 1) r ⟨#[47]⟩ _ z0 z1)
      rw [← HR2.out] at HOR
      have HO3 := Lib.hid ((show Own _ _ _ _ from HO1.out).alloc (.cells #[.string r, .string ⟨#[47]⟩] 9))
      have HB3 := Lib.hid ((show Below _ _ _ from HB1.out).alloc HB1.out.size (.cells #[.string r, .string ⟨#[47]⟩] 9))
      clear hz z0 z1
      generalize w2.alloc _ = w3 at HOR HO3 HB3 ⊢
      obtain ⟨nb, hnb⟩ : ∃ x : ByteArray, x = if R = [] then (⟨#[47]⟩ : ByteArray) else r := ⟨_, rfl⟩
      have hnl : nb.data.toList = if R = [] then [47] else R := by
        rw [hnb]
        by_cases h : R = []
        · rw [if_pos h, if_pos h]
        · rw [if_neg h, if_neg h, HR2.out]
      rw [← hnb] at HOR
      have hrel := dot_rel HNE.out HQ.out (dstep_here (acc := acc) HNE.out HAA.out HFF.out HRR.out HC.out)
      rw [← hnl, ← Lib.size_eq] at hrel
      have HREL := Lib.hid hrel
      clear hnb hnl hrel
      refine HOR.out.mono ?_
      rintro e w4 ⟨rfl, hw⟩
      obtain rfl := hw.symm
      go_wp2_with fail
      go_roundw
      case rel => exact ⟨nb, acc, v, rfl, rfl, by have := HREL.out.2.1; have := HLEN.out; omega, HO3.out, HREL.out.1, HB3.out⟩
      case measure => have := HREL.out.2.2; have := HCS.out; simp only [strLen]; omega
    rw [decide_eq_false c4] at e4
    have HC4 := Lib.hid c4
    clear c4
    have hrl : (restL [47] (Lib.trimPrefix l [47])).length ≤ l.length := Nat.le_trans (rest_le _ _) (trim_le l)
    rw [← HRR.out] at hrl
    have hrs : r.size = R.length := by rw [HR2.out, Lib.size_eq]
    have hle : (r.size : Int) ≤ c.size := by have := HCS.out; omega
    have hci : (c.size : Int) ≤ 1000000 := by have := HCS.out; have := HLEN.out; omega
    obtain ⟨q, hq⟩ : ∃ q : ByteArray, q = c.extract 0 (c.size - r.size) := ⟨_, rfl⟩
    have hqe := hq.symm
    have hql : q.data.toList = l.take (l.length - R.length) := by
      rw [hq, ← Lib.toList_data, Lib.extract_toList, ← HL.out, List.drop_zero, Nat.sub_zero, HCS.out, hrs]
    have hqs : q.size = (l.take (l.length - R.length)).length := by rw [Lib.size_eq, hql]
    have HQL := Lib.hid hql
    have hrel := dot_rel HNE.out HQ.out (dstep_put (acc := acc) HNE.out HAA.out HFF.out HRR.out HC1.out HC2.out HC3.out HC4.out)
    rw [← hql, ← hrs] at hrel
    have hR3 := HR2.out
    rw [hR3] at hrel
    have HREL := Lib.hid hrel
    have HLN := Lib.hid (show acc.length + q.size ≤ 140737488355328 by
      rw [hqs, List.length_take]
      have := HLEN.out
      omega)
    clear hrl hrs hq hql hqs hrel hR3
    go_wp2_with (at_builtin; refine wpList_append_bstr rfl _ _ rfl w.heap.size v acc rfl HO1.out q rfl HLN.out HB1.out.size ?_; intro v5 w5 ho5 hg5)
    have HO5 := Lib.hid ho5
    have hb5 : Below w.heap.size w w5 := Below.grown HB1.out hg5 HB1.out.size (fun q hq => (HO1.out.lt q hq).1)
    have HB5 := Lib.hid hb5
    clear ho5 hg5 hb5
    go_wp2_with fail
    go_roundw
    case rel => exact ⟨r, _, v5, rfl, rfl, by have := HREL.out.2.1; have := HLEN.out; omega, HO5.out, by have := HREL.out.1; exact this, HB5.out⟩
    case measure => have := HREL.out.2.2; have := HCS.out; simp only [strLen]; omega
end Go.Proofs.YtefkppeicmipbaaGreatDoor
