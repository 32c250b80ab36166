/- Package value's laws: ValueSums. -/
import Derived.Test.YtecomfhbdonkbaaGreatDoorCc
import Derived.Test.YtecomfhbdonkbaaGreatDoorKm
namespace Go.Proofs.YtecomfhbdonkbaaGreatDoor
open Go.RowKit Go.Shelf Flo
set_option maxRecDepth 100000
set_option linter.unusedVariables false
set_option linter.unusedSimpArgs false

/-- A row of blocks, the youngest first. -/
structure Mem (w : World) (L : List (Nat × Array Value × TypeId)) (v : World) : Prop where
  bel : Below w.heap.size w v
  all : ∀ p ∈ L, Blk v p.1 p.2.1 p.2.2
  lt : ∀ p ∈ L, p.1 < v.heap.size ∧ w.heap.size ≤ p.1
  srt : L.Pairwise (fun a b => b.1 < a.1)
theorem Mem.nil {w v : World} (h : Below w.heap.size w v) : Mem w [] v := ⟨h, by simp, by simp, .nil⟩
theorem Mem.below {w v v' : World} {L : List (Nat × Array Value × TypeId)} (h : Mem w L v) (hb : Below v.heap.size v v') : Mem w L v' :=
  ⟨h.bel.trans (hb.mono h.bel.size), fun p hp => (h.all p hp).moved (Moved.of_below hb (fun _ => False)) (fun h => h), fun p hp => ⟨Nat.lt_of_lt_of_le (h.lt p hp).1 hb.size, (h.lt p hp).2⟩, h.srt⟩
theorem Mem.alloc {w v : World} {L : List (Nat × Array Value × TypeId)} (h : Mem w L v) (n : Nat) (hn : n = v.heap.size) (cur : Array Value) (t : TypeId) : Mem w ((n, cur, t) :: L) (v.alloc (.cells cur t)) := by
  subst hn
  have hb := (Below.refl v.heap.size v).alloc (Nat.le_refl _) (.cells cur t)
  have h' := h.below hb
  refine ⟨h'.bel, fun p hp => ?_, fun p hp => ?_, List.pairwise_cons.2 ⟨fun p hp => (h.lt p hp).1, h.srt⟩⟩
  · rcases List.mem_cons.1 hp with rfl | hp
    · exact Blk.new _ _ _
    · exact h'.all p hp
  · rcases List.mem_cons.1 hp with rfl | hp
    · exact ⟨(Blk.new v cur t).lt, h.bel.size⟩
    · exact h'.lt p hp
theorem Mem.at_ {w v : World} {L : List (Nat × Array Value × TypeId)} (h : Mem w L v) (i : Nat) {b : Nat} {cur : Array Value} {t : TypeId} (hi : L[i]? = some (b, cur, t)) : Blk v b cur t := h.all _ (List.mem_of_getElem? hi)
theorem Mem.drop {w v : World} {L : List (Nat × Array Value × TypeId)} {x : Nat × Array Value × TypeId} (h : Mem w (x :: L) v) : Mem w L v :=
  ⟨h.bel, fun p hp => h.all p (List.mem_cons_of_mem _ hp), fun p hp => h.lt p (List.mem_cons_of_mem _ hp), (List.pairwise_cons.1 h.srt).2⟩
theorem Mem.set {w v : World} {L : List (Nat × Array Value × TypeId)} {b : Nat} {cur : Array Value} {t : TypeId} (h : Mem w ((b, cur, t) :: L) v) (j : Nat) (u : Value) : Mem w ((b, cur.setIfInBounds j u, t) :: L) (v.setCell ⟨b, j, none⟩ u) := by
  have hb := h.lt _ List.mem_cons_self
  refine ⟨h.bel.setCell (p := ⟨b, j, none⟩) hb.2 _, fun p hp => ?_, fun p hp => ?_, ?_⟩
  · rcases List.mem_cons.1 hp with rfl | hp
    · exact (h.all _ List.mem_cons_self).set j u
    · have hlt : p.1 < b := (List.pairwise_cons.1 h.srt).1 p hp
      exact (h.all p (List.mem_cons_of_mem _ hp)).other _ _ (Nat.ne_of_lt hlt)
  · rw [show (v.setCell ⟨b, j, none⟩ u).heap.size = v.heap.size by simp]
    rcases List.mem_cons.1 hp with rfl | hp
    · exact hb
    · exact h.lt p (List.mem_cons_of_mem _ hp)
  · exact List.pairwise_cons.2 ⟨(List.pairwise_cons.1 h.srt).1, (List.pairwise_cons.1 h.srt).2⟩
theorem mem_tails {w v : World} {L : List (Nat × Array Value × TypeId)} {P : Int → Int → Nat × Array Value × TypeId} (h : ∃ c1 c2, Mem w (P c1 c2 :: L) v) : Mem w L v := by
  obtain ⟨c1, c2, h⟩ := h
  exact h.drop
theorem decOV_form (o : Option (Int × Nat)) : decOV o = .tuple #[.agg #[.int .i64 (o.getD (0, 0)).1, .int .i64 ((o.getD (0, 0)).2 : Int)], .bool o.isSome] := by cases o <;> rfl
theorem reckon_none {op : Int} {a b : Tm} (h : (numO a).isSome = false ∨ (numO b).isSome = false) : reckonO op a b = none := by
  unfold reckonO
  cases ha : numO a with
  | none => rfl
  | some p =>
    cases hb : numO b with
    | none => rfl
    | some q => rw [ha, hb] at h; simp at h
theorem sums_eval (op : Int) (hop : op = 11 ∨ op = 12 ∨ op = 13) (a b : Tm) (ha : a.k ≠ 4) (hb : b.k ≠ 4) : evalO 2 (.mk op zeroT [ofT a, ofT b]) [] = reckonO op a b := by
  have e : ∀ t : Tm, t.k ≠ 4 → evalO 1 (ofT t) [] = some t := fun t ht => by
    show (if fitsO 1 0 = true then (if (1 : Int) = 1 then (if t.k = 4 then getO [] t.sl else some t) else if (1 : Int) = 15 then boundO zeroE [] else none) else none) = _
    rw [if_pos (by decide), if_pos (by decide), if_neg ht]
  rcases hop with rfl | rfl | rfl
  · show (if fitsO 11 2 = true then (if (11 : Int) = 1 then (if (0 : Int) = 4 then getO [] zeroT.sl else some zeroT) else if (11 : Int) = 15 then boundO (ofT a) [] else opO 11 [evalO 1 (ofT a) [], evalO 1 (ofT b) []]) else none) = reckonO 11 a b
    rw [if_pos (by decide), if_neg (by decide), if_neg (by decide), e a ha, e b hb]
    rfl
  · show (if fitsO 12 2 = true then (if (12 : Int) = 1 then (if (0 : Int) = 4 then getO [] zeroT.sl else some zeroT) else if (12 : Int) = 15 then boundO (ofT a) [] else opO 12 [evalO 1 (ofT a) [], evalO 1 (ofT b) []]) else none) = reckonO 12 a b
    rw [if_pos (by decide), if_neg (by decide), if_neg (by decide), e a ha, e b hb]
    rfl
  · show (if fitsO 13 2 = true then (if (13 : Int) = 1 then (if (0 : Int) = 4 then getO [] zeroT.sl else some zeroT) else if (13 : Int) = 15 then boundO (ofT a) [] else opO 13 [evalO 1 (ofT a) [], evalO 1 (ofT b) []]) else none) = reckonO 13 a b
    rw [if_pos (by decide), if_neg (by decide), if_neg (by decide), e a ha, e b hb]
    rfl
theorem terms_k : ∀ i, i < 24 → (termsT.getD i zeroT).k ≠ 4 := by decide +kernel
theorem termT_k (n : Int) : (termT n).k ≠ 4 := terms_k _ (by omega)
theorem num_type {t : Tm} {p : Int × Nat} (h : numO t = some p) : t.tl = xIntL ∨ t.tl = xDecL := by
  rw [numO_eq] at h
  split at h
  · split at h
    · rename_i h1; exact .inl h1
    · split at h
      · rename_i h1; exact .inr h1
      · cases h
  · cases h
theorem num_goodD {t : Tm} {p : Int × Nat} (h : numO t = some p) : GoodD p.1 (p.2 : Int) := by
  rw [numO_eq] at h
  split at h
  · split at h
    · split at h
      · cases h
      · exact decO_good h
    · split at h
      · exact decO_good h
      · cases h
  · cases h
theorem sum_good {op : Int} {p q : Int × Nat} (h : fitsL (sumP op p q) = true) : GoodD (sumP op p q).1 ((sumP op p q).2 : Int) := by
  unfold sumP at h ⊢
  split at h
  · rename_i h1; rw [if_pos h1]; exact good_nrm h
  · rename_i h1
    rw [if_neg h1]
    split at h
    · rename_i h2; rw [if_pos h2]; exact good_nrm h
    · rename_i h2; rw [if_neg h2]; exact good_nrm h
theorem tmEq_self (t : Tm) : tmEq t t = true := by unfold tmEq; simp
theorem neg_goodD {m s : Int} (h : GoodD m s) : GoodD (-m) s := by unfold GoodD at *; omega
theorem decP_form (d : Int × Nat) : decP d = .tuple #[.agg #[.int .i64 (if fitsL d then d.1 else 0), .int .i64 (if fitsL d then (d.2 : Int) else 0)], .bool (fitsL d)] := by
  unfold decP
  by_cases h : fitsL d = true
  · rw [if_pos h, if_pos h, if_pos h, h]
  · rw [if_neg h, if_neg h, if_neg h]
    rw [show fitsL d = false by simpa using h]
theorem rest3s (a : Int) : ∃ i : Nat, a % 3 = (i : Int) ∧ (i = 0 ∨ i = 1 ∨ i = 2) := ⟨(a % 3).toNat, by omega, by omega⟩
set_option maxHeartbeats 16000000 in
theorem sums15_walk (n m op : Int) (w : World) (hn : In64 n) (hm : In64 m) (ho : In64 op) (hT : Tabs w) : Calls Tryz.prog 5 #[.int .i64 n, .int .i64 m, .int .i64 op] w fun e w' => e = .returned (.bool true) ∧ Below w.heap.size w w' := by
  obtain ⟨k, hk, rfl | rfl | rfl⟩ := rest3s op
  · obtain ⟨a, ha⟩ : ∃ a, a = termT n := ⟨_, rfl⟩
    obtain ⟨b, hb⟩ : ∃ b, b = termT m := ⟨_, rfl⟩
    have sa : a.Sm := by rw [ha]; exact termT_sm n
    have sb : b.Sm := by rw [hb]; exact termT_sm m
    have ka : a.k ≠ 4 := by rw [ha]; exact termT_k n
    have kb : b.k ≠ 4 := by rw [hb]; exact termT_k m
    have HTA := Lib.hid (fun wz => term15_any n wz hn.1 hn.2)
    have HTB := Lib.hid (fun wz => term15_any m wz hm.1 hm.2)
    rw [← ha] at HTA
    rw [← hb] at HTB
    have HKN := Lib.hid (known15_any w hT.pow)
    have HU := Lib.hid (fun s t w => num15_any s t w)
    have HI : Hid (∀ wz, Calls Tryz.prog 14 #[.int .i64 op, .int .i64 3] wz fun e w' => e = .returned (.int .i64 0) ∧ wz = w') := Lib.hid (fun wz => by
      have h := within15_any op 3 wz (by decide) (by decide) ho.1 ho.2
      rw [hk] at h
      exact h)
    obtain ⟨x1, hx1⟩ : ∃ x, x = ((numO a).getD (0, 0)).1 := ⟨_, rfl⟩
    obtain ⟨x2, hx2⟩ : ∃ x, x = (((numO a).getD (0, 0)).2 : Int) := ⟨_, rfl⟩
    obtain ⟨pa, hpa⟩ : ∃ x, x = (numO a).isSome := ⟨_, rfl⟩
    have HNA := Lib.hid (fun wz => rnumber_any a sa wz)
    rw [decOV_form, ← hx1, ← hx2, ← hpa] at HNA
    obtain ⟨y1, hy1⟩ : ∃ x, x = ((numO b).getD (0, 0)).1 := ⟨_, rfl⟩
    obtain ⟨y2, hy2⟩ : ∃ x, x = (((numO b).getD (0, 0)).2 : Int) := ⟨_, rfl⟩
    obtain ⟨pb, hpb⟩ : ∃ x, x = (numO b).isSome := ⟨_, rfl⟩
    have HNB := Lib.hid (fun wz => rnumber_any b sb wz)
    rw [decOV_form, ← hy1, ← hy2, ← hpb] at HNB
    obtain ⟨tq, htq⟩ : ∃ x, x = (reckonO 11 a b).getD zeroT := ⟨_, rfl⟩
    obtain ⟨iq, hiq⟩ : ∃ x, x = (reckonO 11 a b).isSome := ⟨_, rfl⟩
    have HE : Hid (∀ z kv, Below w.heap.size w z → KidsP z.heap.size z 1 kv [ofT a, ofT b] → Calls Tryz.prog 11 #[.agg #[.int .i64 11, .int .i64 0, .string ⟨#[]⟩, .string ⟨#[]⟩, .string ⟨#[]⟩, kv], .slice none 0 0] z fun e' w' => e' = .returned (.tuple #[.agg #[.int .i64 tq.k, .string tq.s, .string tq.l, .string tq.t], .bool iq]) ∧ Below z.heap.size z w') := Lib.hid (fun z kv hz hkv => by
      refine (eval_any 1 (.mk 11 zeroT [ofT a, ofT b]) kv (.slice none 0 0) [] z hkv (show opIn 11 from by unfold opIn; decide) zeroT_sm (sol_nil _ _) (by decide) (fun w1 h1 => (hT.below hz).below h1)).mono ?_
      rintro e' w' ⟨rfl, hbb, -⟩
      rw [sums_eval 11 (by decide) a b ka kb, ← htq, ← hiq]
      exact ⟨rfl, hbb⟩)
    have HKK := Lib.hid (fun v => kids_two v a b sa sb 28)
    have HALL := Lib.hid (And.intro (And.intro hx1 (And.intro hx2 hpa)) (And.intro (And.intro hy1 (And.intro hy2 hpb)) (And.intro htq hiq)))
    clear hk hx1 hx2 hpa hy1 hy2 hpb htq hiq ha hb sa sb ka kb hn hm ho
    have HTT := Lib.hid hT
    clear hT
    unfold Tm.val at HTA HTB HNA HNB
    go_enter Tryz.func5, Tryz.ntmps5
    go_wp2_with fail
    refine HKN.out.mono ?_
    rintro e w1 ⟨rfl, hb1⟩
    have HB1 := Lib.hid hb1
    clear hb1
    go_wp2_with fail
    refine (HTA.out _).mono ?_
    rintro e w2 ⟨rfl, hb2⟩
    have HB2 := Lib.hid (HB1.out.trans (hb2.mono HB1.out.size))
    clear hb2
    go_wp2_with fail
    refine (HTB.out _).mono ?_
    rintro e w3 ⟨rfl, hb3⟩
    have HB3 := Lib.hid (HB2.out.trans (hb3.mono HB2.out.size))
    clear hb3
    go_upto_region 4 with fail
    have hmm := ((Mem.nil HB3.out).alloc w3.heap.size rfl #[.int .i64 a.k, .string a.s, .string a.l, .string a.t] 25).alloc (w3.heap.size + 1) (by simp) #[.int .i64 b.k, .string b.s, .string b.l, .string b.t] 25
    generalize World.alloc (World.alloc w3 _) _ = v1 at hmm ⊢
    generalize w3.heap.size = g at hmm ⊢
    have HM1 := Lib.hid hmm
    clear hmm
    have xba := HM1.out.at_ 1 rfl
    have qa0 := xba.cell 0
    have qa1 := xba.cell 1
    have qa2 := xba.cell 2
    have qa3 := xba.cell 3
    simp only [List.getElem?_toArray, List.getElem?_cons_zero, List.getElem?_cons_succ] at qa0 qa1 qa2 qa3
    clear xba
    go_wp2_with fail
    refine (HNA.out _).mono ?_
    rintro e v2 ⟨rfl, hbb⟩
    have HM2 := Lib.hid (HM1.out.below hbb)
    clear hbb
    clear qa0 qa1 qa2 qa3
    go_upto_region 5 with fail
    have hmm := HM2.out.alloc v2.heap.size rfl #[.int .i64 x1, .int .i64 x2] 44
    generalize World.alloc v2 _ = v3 at hmm ⊢
    generalize v2.heap.size = gx at hmm ⊢
    have HM3 := Lib.hid hmm
    clear hmm
    have xbb := HM3.out.at_ 1 rfl
    have qb0 := xbb.cell 0
    have qb1 := xbb.cell 1
    have qb2 := xbb.cell 2
    have qb3 := xbb.cell 3
    simp only [List.getElem?_toArray, List.getElem?_cons_zero, List.getElem?_cons_succ] at qb0 qb1 qb2 qb3
    clear xbb
    go_wp2_with fail
    refine (HNB.out _).mono ?_
    rintro e v4 ⟨rfl, hbb⟩
    have HM4 := Lib.hid (HM3.out.below hbb)
    clear hbb
    clear qb0 qb1 qb2 qb3
    go_upto_region 6 with fail
    have hmm := HM4.out.alloc v4.heap.size rfl #[.int .i64 y1, .int .i64 y2] 44
    generalize World.alloc v4 _ = v5 at hmm ⊢
    generalize v4.heap.size = gy at hmm ⊢
    have HM5 := Lib.hid hmm
    clear hmm
    go_wp2_with fail
    refine (HI.out _).mono ?_
    rintro e wz ⟨rfl, rfl⟩
    have xba := HM5.out.at_ 3 rfl
    have qa0 := xba.cell 0
    have qa1 := xba.cell 1
    have qa2 := xba.cell 2
    have qa3 := xba.cell 3
    simp only [List.getElem?_toArray, List.getElem?_cons_zero, List.getElem?_cons_succ] at qa0 qa1 qa2 qa3
    clear xba
    have xbb := HM5.out.at_ 2 rfl
    have qb0 := xbb.cell 0
    have qb1 := xbb.cell 1
    have qb2 := xbb.cell 2
    have qb3 := xbb.cell 3
    simp only [List.getElem?_toArray, List.getElem?_cons_zero, List.getElem?_cons_succ] at qb0 qb1 qb2 qb3
    clear xbb
    go_wp2_with fail
    have hkk := HKK.out v5
    have hmm := HM5.out.below ((Below.refl _ _).alloc (Nat.le_refl _) (.cells #[.int .i64 1, .int .i64 a.k, .string a.s, .string a.l, .string a.t, .slice none 0 0, .int .i64 1, .int .i64 b.k, .string b.s, .string b.l, .string b.t, .slice none 0 0] 28))
    generalize World.alloc v5 _ = v6 at hkk hmm ⊢
    have HM6 := Lib.hid hmm
    clear hmm
    refine (HE.out _ _ HM6.out.bel hkk).mono ?_
    rintro e v7 ⟨rfl, hbb⟩
    have HM7 := Lib.hid (HM6.out.below hbb)
    clear hbb hkk
    clear qa0 qa1 qa2 qa3 qb0 qb1 qb2 qb3
    go_upto_region 8 with fail
    have hmm := HM7.out.alloc v7.heap.size rfl #[.int .i64 tq.k, .string tq.s, .string tq.l, .string tq.t] 25
    generalize World.alloc v7 _ = v8 at hmm ⊢
    generalize v7.heap.size = gt at hmm ⊢
    have HM8 := Lib.hid hmm
    clear hmm
    cases pa
    · obtain ⟨⟨-, -, hpa⟩, ⟨-, -, hpb⟩, htq, hiq⟩ := HALL.out
      rw [reckon_none (.inl hpa.symm)] at htq hiq
      subst htq
      subst hiq
      clear hpa hpb
      have HM9 : Hid (Mem w [(gt, #[.int .i64 0, .string ⟨#[]⟩, .string ⟨#[]⟩, .string ⟨#[]⟩], 25), (gy, #[.int .i64 y1, .int .i64 y2], 44), (gx, #[.int .i64 x1, .int .i64 x2], 44), (g + 1, #[.int .i64 b.k, .string b.s, .string b.l, .string b.t], 25), (g, #[.int .i64 a.k, .string a.s, .string a.l, .string a.t], 25)] v8) := HM8
      clear HM8
      have xbt := HM9.out.at_ 0 rfl
      have qt0 := xbt.cell 0
      have qt1 := xbt.cell 1
      have qt2 := xbt.cell 2
      have qt3 := xbt.cell 3
      simp only [List.getElem?_toArray, List.getElem?_cons_zero, List.getElem?_cons_succ] at qt0 qt1 qt2 qt3
      clear xbt
      have hq0 : ∀ w, (Op.equalIn 10000 25 (.agg #[.int .i64 0, .string ⟨#[]⟩, .string ⟨#[]⟩, .string ⟨#[]⟩]) (.agg #[.int .i64 0, .string ⟨#[]⟩, .string ⟨#[]⟩, .string ⟨#[]⟩])).run Tryz.prog w = .ok true w := fun w => equal_bool zeroT zeroT w
      have hif : (none : Option Tm).isSome = false := rfl
      go_wp2_with fail
      go_ret
      exact ⟨rfl, HM9.out.bel⟩
    · cases pb
      · obtain ⟨⟨-, -, hpa⟩, ⟨-, -, hpb⟩, htq, hiq⟩ := HALL.out
        rw [reckon_none (.inr hpb.symm)] at htq hiq
        subst htq
        subst hiq
        clear hpa hpb
        have HM9 : Hid (Mem w [(gt, #[.int .i64 0, .string ⟨#[]⟩, .string ⟨#[]⟩, .string ⟨#[]⟩], 25), (gy, #[.int .i64 y1, .int .i64 y2], 44), (gx, #[.int .i64 x1, .int .i64 x2], 44), (g + 1, #[.int .i64 b.k, .string b.s, .string b.l, .string b.t], 25), (g, #[.int .i64 a.k, .string a.s, .string a.l, .string a.t], 25)] v8) := HM8
        clear HM8
        have xbt := HM9.out.at_ 0 rfl
        have qt0 := xbt.cell 0
        have qt1 := xbt.cell 1
        have qt2 := xbt.cell 2
        have qt3 := xbt.cell 3
        simp only [List.getElem?_toArray, List.getElem?_cons_zero, List.getElem?_cons_succ] at qt0 qt1 qt2 qt3
        clear xbt
        have hq0 : ∀ w, (Op.equalIn 10000 25 (.agg #[.int .i64 0, .string ⟨#[]⟩, .string ⟨#[]⟩, .string ⟨#[]⟩]) (.agg #[.int .i64 0, .string ⟨#[]⟩, .string ⟨#[]⟩, .string ⟨#[]⟩])).run Tryz.prog w = .ok true w := fun w => equal_bool zeroT zeroT w
        have hif : (none : Option Tm).isSome = false := rfl
        go_wp2_with fail
        go_ret
        exact ⟨rfl, HM9.out.bel⟩
      · obtain ⟨⟨hx1, hx2, hpa⟩, ⟨hy1, hy2, hpb⟩, htq, hiq⟩ := HALL.out
        obtain ⟨p, hp⟩ := Option.isSome_iff_exists.1 hpa.symm
        obtain ⟨r, hr⟩ := Option.isSome_iff_exists.1 hpb.symm
        rw [hp] at hx1 hx2
        rw [hr] at hy1 hy2
        have hx1' : x1 = p.1 := hx1
        have hx2' : x2 = (p.2 : Int) := hx2
        have hy1' : y1 = r.1 := hy1
        have hy2' : y2 = (r.2 : Int) := hy2
        obtain ⟨fi, hfi⟩ : ∃ f, f = fitsL (sumP 11 p r) := ⟨_, rfl⟩
        obtain ⟨d1, hd1⟩ : ∃ d : Int, d = if fitsL (sumP 11 p r) then (sumP 11 p r).1 else 0 := ⟨_, rfl⟩
        obtain ⟨d2, hd2⟩ : ∃ d : Int, d = if fitsL (sumP 11 p r) then ((sumP 11 p r).2 : Int) else 0 := ⟨_, rfl⟩
        have hreck : reckonO 11 a b = if fi then some (numeralT (sumP 11 p r) (if a.tl = b.tl then a.tl else xDecL)) else none := by
          unfold reckonO
          rw [hp, hr, hfi]
        rw [hreck] at htq hiq
        have HADD : Hid (∀ wz, Calls Tryz.prog 18 #[.agg #[.int .i64 x1, .int .i64 x2], .agg #[.int .i64 y1, .int .i64 y2]] wz fun e w' => e = .returned (.tuple #[.agg #[.int .i64 d1, .int .i64 d2], .bool fi]) ∧ Below wz.heap.size wz w') := Lib.hid (fun wz => by
          have h := radd_any wz p.1 (p.2 : Int) r.1 (r.2 : Int) (num_goodD hp) (num_goodD hr)
          rw [hd1, hd2, hfi, ← decP_form, hx1', hx2', hy1', hy2']
          exact h)
        have HF := Lib.hid (And.intro hfi (And.intro hd1 (And.intro hd2 (And.intro htq (And.intro hiq (And.intro (num_type hp) (num_type hr)))))))
        clear hx1 hx2 hpa hy1 hy2 hpb htq hiq hp hr hx1' hx2' hy1' hy2' hfi hd1 hd2 hreck
        go_upto_region 12 with fail
        have hmm := HM8.out.alloc v8.heap.size rfl #[.int .i64 0, .int .i64 0] 44
        generalize World.alloc v8 _ = v9 at hmm ⊢
        generalize v8.heap.size = gd at hmm ⊢
        have HM9 := Lib.hid hmm
        clear hmm
        have xbx := HM9.out.at_ 3 rfl
        have qx0 := xbx.cell 0
        have qx1 := xbx.cell 1
        simp only [List.getElem?_toArray, List.getElem?_cons_zero, List.getElem?_cons_succ] at qx0 qx1
        clear xbx
        have xby := HM9.out.at_ 2 rfl
        have qy0 := xby.cell 0
        have qy1 := xby.cell 1
        simp only [List.getElem?_toArray, List.getElem?_cons_zero, List.getElem?_cons_succ] at qy0 qy1
        clear xby
        have xbd := HM9.out.at_ 0 rfl
        have qd0 := xbd.cell 0
        have qd1 := xbd.cell 1
        simp only [List.getElem?_toArray, List.getElem?_cons_zero, List.getElem?_cons_succ] at qd0 qd1
        have qdf0 := xbd.frozen 0
        have qdf1 := xbd.frozen 1
        clear xbd
        clear qd0 qd1
        clear qdf0 qdf1
        go_wp2_with fail
        refine (HADD.out _).mono ?_
        rintro e v10 ⟨rfl, hbb⟩
        have HM10 := Lib.hid (HM9.out.below hbb)
        clear hbb
        clear qx0 qx1 qy0 qy1
        have xbd := HM10.out.at_ 0 rfl
        have qd0 := xbd.cell 0
        have qd1 := xbd.cell 1
        simp only [List.getElem?_toArray, List.getElem?_cons_zero, List.getElem?_cons_succ] at qd0 qd1
        have qdf0 := xbd.frozen 0
        have qdf1 := xbd.frozen 1
        clear xbd
        go_upto_region 19 with fail
        have hmm : Mem w [(gd, #[.int .i64 d1, .int .i64 d2], 44), (gt, #[.int .i64 tq.k, .string tq.s, .string tq.l, .string tq.t], 25), (gy, #[.int .i64 y1, .int .i64 y2], 44), (gx, #[.int .i64 x1, .int .i64 x2], 44), (g + 1, #[.int .i64 b.k, .string b.s, .string b.l, .string b.t], 25), (g, #[.int .i64 a.k, .string a.s, .string a.l, .string a.t], 25)] _ := (HM10.out.set 0 (.int .i64 d1)).set 1 (.int .i64 d2)
        generalize World.setCell (World.setCell v10 _ _) _ _ = v11 at hmm ⊢
        have HM11 := Lib.hid hmm
        clear hmm
        clear qd0 qd1
        clear qdf0 qdf1
        cases fi
        · obtain ⟨hfi, -, -, htq, hiq, -⟩ := HF.out
          have hiq' : iq = false := hiq
          subst hiq'
          clear hfi htq hiq
          go_wp2_with fail
          go_ret
          exact ⟨rfl, HM11.out.bel⟩
        · obtain ⟨hfi, hd1, hd2, htq, hiq, hta, htb⟩ := HF.out
          have hiq' : iq = true := hiq
          subst hiq'
          rw [if_pos hfi.symm] at hd1 hd2
          have hG := sum_good hfi.symm
          obtain ⟨PS, hPS⟩ : ∃ s : ByteArray, s = ⟨(printF (sumP 11 p r).1 (sumP 11 p r).2).toArray⟩ := ⟨_, rfl⟩
          have HPR : Hid (∀ wz, Calls Tryz.prog 21 #[.agg #[.int .i64 d1, .int .i64 d2]] wz fun e w' => e = .returned (.string PS) ∧ Below wz.heap.size wz w') := Lib.hid (fun wz => by
            rw [hPS, hd1, hd2, printF_eq _ _ (by have := hG.1; have := hG.2.1; omega)]
            exact rprint_any _ _ wz hG)
          have hta' : a.t.data.toList = xIntL ∨ a.t.data.toList = xDecL := hta
          have htb' : b.t.data.toList = xIntL ∨ b.t.data.toList = xDecL := htb
          have htq' : tq = numeralT (sumP 11 p r) (if a.tl = b.tl then a.tl else xDecL) := htq
          have HQ2 := Lib.hid (And.intro htq' hPS)
          clear hd1 hd2 hG hfi hiq htq htq' hPS hta htb
          have xbd := HM11.out.at_ 0 rfl
          have qd0 := xbd.cell 0
          have qd1 := xbd.cell 1
          simp only [List.getElem?_toArray, List.getElem?_cons_zero, List.getElem?_cons_succ] at qd0 qd1
          clear xbd
          go_wp2_with fail
          refine (HPR.out _).mono ?_
          rintro e v12 ⟨rfl, hbb⟩
          have HM12 := Lib.hid (HM11.out.below hbb)
          clear hbb
          clear qd0 qd1
          go_wp2_with fail
          refine (HU.out _ _ _).mono ?_
          rintro e v13 ⟨rfl, hbb⟩
          have HM13 := Lib.hid (HM12.out.below hbb)
          clear hbb
          go_upto_region 22 with fail
          have hmm := HM13.out.alloc v13.heap.size rfl #[.int .i64 3, .string PS, .string ⟨#[]⟩, .string ⟨#[104, 116, 116, 112, 58, 47, 47, 119, 119, 119, 46, 119, 51, 46, 111, 114, 103, 47, 50, 48, 48, 49, 47, 88, 77, 76, 83, 99, 104, 101, 109, 97, 35, 100, 101, 99, 105, 109, 97, 108]⟩] 25
          generalize World.alloc v13 _ = v14 at hmm ⊢
          generalize v13.heap.size = gw at hmm ⊢
          have HM14 := Lib.hid hmm
          clear hmm
          have xba := HM14.out.at_ 6 rfl
          have qa3 := xba.cell 3
          simp only [List.getElem?_toArray, List.getElem?_cons_zero, List.getElem?_cons_succ] at qa3
          clear xba
          have xbb := HM14.out.at_ 5 rfl
          have qb3 := xbb.cell 3
          simp only [List.getElem?_toArray, List.getElem?_cons_zero, List.getElem?_cons_succ] at qb3
          clear xbb
          rcases hta' with ha2 | ha2 <;> rcases htb' with hb2 | hb2
          · have htt : tq = ⟨3, PS, ⟨#[]⟩, ⟨#[104, 116, 116, 112, 58, 47, 47, 119, 119, 119, 46, 119, 51, 46, 111, 114, 103, 47, 50, 48, 48, 49, 47, 88, 77, 76, 83, 99, 104, 101, 109, 97, 35, 105, 110, 116, 101, 103, 101, 114]⟩⟩ := by
              obtain ⟨h1, h2⟩ := HQ2.out
              rw [h1, h2, show (if a.tl = b.tl then a.tl else xDecL) = xIntL from (if_pos (ha2.trans hb2.symm)).trans ha2]
              rfl
            clear HQ2 HF HALL
            subst htt
            have ha3 : a.t.toList = [104, 116, 116, 112, 58, 47, 47, 119, 119, 119, 46, 119, 51, 46, 111, 114, 103, 47, 50, 48, 48, 49, 47, 88, 77, 76, 83, 99, 104, 101, 109, 97, 35, 105, 110, 116, 101, 103, 101, 114] := by rw [Lib.toList_data]; exact ha2
            have hb3 : b.t.toList = [104, 116, 116, 112, 58, 47, 47, 119, 119, 119, 46, 119, 51, 46, 111, 114, 103, 47, 50, 48, 48, 49, 47, 88, 77, 76, 83, 99, 104, 101, 109, 97, 35, 105, 110, 116, 101, 103, 101, 114] := by rw [Lib.toList_data]; exact hb2
            clear ha2 hb2
            go_upto_region 23 with fail
            have xbw := HM14.out.at_ 0 rfl
            have qw3 := xbw.cell 3
            simp only [List.getElem?_toArray, List.getElem?_cons_zero, List.getElem?_cons_succ] at qw3
            have qwf3 := xbw.frozen 3
            clear xbw
            go_upto_region 24 with fail
            clear qa3 qb3 qw3 qwf3 ha3 hb3
            have hmm : Mem w [(gw, #[.int .i64 3, .string PS, .string ⟨#[]⟩, .string ⟨#[104, 116, 116, 112, 58, 47, 47, 119, 119, 119, 46, 119, 51, 46, 111, 114, 103, 47, 50, 48, 48, 49, 47, 88, 77, 76, 83, 99, 104, 101, 109, 97, 35, 105, 110, 116, 101, 103, 101, 114]⟩], 25), (gd, #[.int .i64 d1, .int .i64 d2], 44), (gt, #[.int .i64 3, .string PS, .string ⟨#[]⟩, .string ⟨#[104, 116, 116, 112, 58, 47, 47, 119, 119, 119, 46, 119, 51, 46, 111, 114, 103, 47, 50, 48, 48, 49, 47, 88, 77, 76, 83, 99, 104, 101, 109, 97, 35, 105, 110, 116, 101, 103, 101, 114]⟩], 25), (gy, #[.int .i64 y1, .int .i64 y2], 44), (gx, #[.int .i64 x1, .int .i64 x2], 44), (g + 1, #[.int .i64 b.k, .string b.s, .string b.l, .string b.t], 25), (g, #[.int .i64 a.k, .string a.s, .string a.l, .string a.t], 25)] _ := HM14.out.set 3 (.string ⟨#[104, 116, 116, 112, 58, 47, 47, 119, 119, 119, 46, 119, 51, 46, 111, 114, 103, 47, 50, 48, 48, 49, 47, 88, 77, 76, 83, 99, 104, 101, 109, 97, 35, 105, 110, 116, 101, 103, 101, 114]⟩)
            generalize World.setCell v14 _ _ = v15 at hmm ⊢
            have HM15 := Lib.hid hmm
            clear hmm
            have hq0 : ∀ w, (Op.equalIn 10000 25 (.agg #[.int .i64 3, .string PS, .string ⟨#[]⟩, .string ⟨#[104, 116, 116, 112, 58, 47, 47, 119, 119, 119, 46, 119, 51, 46, 111, 114, 103, 47, 50, 48, 48, 49, 47, 88, 77, 76, 83, 99, 104, 101, 109, 97, 35, 105, 110, 116, 101, 103, 101, 114]⟩]) (.agg #[.int .i64 3, .string PS, .string ⟨#[]⟩, .string ⟨#[104, 116, 116, 112, 58, 47, 47, 119, 119, 119, 46, 119, 51, 46, 111, 114, 103, 47, 50, 48, 48, 49, 47, 88, 77, 76, 83, 99, 104, 101, 109, 97, 35, 105, 110, 116, 101, 103, 101, 114]⟩])).run Tryz.prog w = .ok true w := fun w => (equal_bool ⟨3, PS, ⟨#[]⟩, ⟨#[104, 116, 116, 112, 58, 47, 47, 119, 119, 119, 46, 119, 51, 46, 111, 114, 103, 47, 50, 48, 48, 49, 47, 88, 77, 76, 83, 99, 104, 101, 109, 97, 35, 105, 110, 116, 101, 103, 101, 114]⟩⟩ ⟨3, PS, ⟨#[]⟩, ⟨#[104, 116, 116, 112, 58, 47, 47, 119, 119, 119, 46, 119, 51, 46, 111, 114, 103, 47, 50, 48, 48, 49, 47, 88, 77, 76, 83, 99, 104, 101, 109, 97, 35, 105, 110, 116, 101, 103, 101, 114]⟩⟩ w).trans (by rw [tmEq_self])
            have xbt := HM15.out.at_ 2 rfl
            have qt0 := xbt.cell 0
            have qt1 := xbt.cell 1
            have qt2 := xbt.cell 2
            have qt3 := xbt.cell 3
            simp only [List.getElem?_toArray, List.getElem?_cons_zero, List.getElem?_cons_succ] at qt0 qt1 qt2 qt3
            clear xbt
            have xbw := HM15.out.at_ 0 rfl
            have qw0 := xbw.cell 0
            have qw1 := xbw.cell 1
            have qw2 := xbw.cell 2
            have qw3 := xbw.cell 3
            simp only [List.getElem?_toArray, List.getElem?_cons_zero, List.getElem?_cons_succ] at qw0 qw1 qw2 qw3
            clear xbw
            go_wp2_with fail
            go_ret
            exact ⟨rfl, HM15.out.bel⟩
          · have htt : tq = ⟨3, PS, ⟨#[]⟩, ⟨#[104, 116, 116, 112, 58, 47, 47, 119, 119, 119, 46, 119, 51, 46, 111, 114, 103, 47, 50, 48, 48, 49, 47, 88, 77, 76, 83, 99, 104, 101, 109, 97, 35, 100, 101, 99, 105, 109, 97, 108]⟩⟩ := by
              obtain ⟨h1, h2⟩ := HQ2.out
              rw [h1, h2, show (if a.tl = b.tl then a.tl else xDecL) = xDecL from if_neg (fun h => absurd ((ha2.symm.trans h).trans hb2) (by decide))]
              rfl
            clear HQ2 HF HALL
            subst htt
            have ha3 : a.t.toList = [104, 116, 116, 112, 58, 47, 47, 119, 119, 119, 46, 119, 51, 46, 111, 114, 103, 47, 50, 48, 48, 49, 47, 88, 77, 76, 83, 99, 104, 101, 109, 97, 35, 105, 110, 116, 101, 103, 101, 114] := by rw [Lib.toList_data]; exact ha2
            have hb3 : b.t.toList = [104, 116, 116, 112, 58, 47, 47, 119, 119, 119, 46, 119, 51, 46, 111, 114, 103, 47, 50, 48, 48, 49, 47, 88, 77, 76, 83, 99, 104, 101, 109, 97, 35, 100, 101, 99, 105, 109, 97, 108] := by rw [Lib.toList_data]; exact hb2
            have hb4 : (b.t.toList == [104, 116, 116, 112, 58, 47, 47, 119, 119, 119, 46, 119, 51, 46, 111, 114, 103, 47, 50, 48, 48, 49, 47, 88, 77, 76, 83, 99, 104, 101, 109, 97, 35, 105, 110, 116, 101, 103, 101, 114]) = false := by rw [hb3]; decide
            clear ha2 hb2
            go_upto_region 24 with fail
            clear qa3 qb3
            have HM15 : Hid (Mem w [(gw, #[.int .i64 3, .string PS, .string ⟨#[]⟩, .string ⟨#[104, 116, 116, 112, 58, 47, 47, 119, 119, 119, 46, 119, 51, 46, 111, 114, 103, 47, 50, 48, 48, 49, 47, 88, 77, 76, 83, 99, 104, 101, 109, 97, 35, 100, 101, 99, 105, 109, 97, 108]⟩], 25), (gd, #[.int .i64 d1, .int .i64 d2], 44), (gt, #[.int .i64 3, .string PS, .string ⟨#[]⟩, .string ⟨#[104, 116, 116, 112, 58, 47, 47, 119, 119, 119, 46, 119, 51, 46, 111, 114, 103, 47, 50, 48, 48, 49, 47, 88, 77, 76, 83, 99, 104, 101, 109, 97, 35, 100, 101, 99, 105, 109, 97, 108]⟩], 25), (gy, #[.int .i64 y1, .int .i64 y2], 44), (gx, #[.int .i64 x1, .int .i64 x2], 44), (g + 1, #[.int .i64 b.k, .string b.s, .string b.l, .string b.t], 25), (g, #[.int .i64 a.k, .string a.s, .string a.l, .string a.t], 25)] v14) := HM14
            have hq0 : ∀ w, (Op.equalIn 10000 25 (.agg #[.int .i64 3, .string PS, .string ⟨#[]⟩, .string ⟨#[104, 116, 116, 112, 58, 47, 47, 119, 119, 119, 46, 119, 51, 46, 111, 114, 103, 47, 50, 48, 48, 49, 47, 88, 77, 76, 83, 99, 104, 101, 109, 97, 35, 100, 101, 99, 105, 109, 97, 108]⟩]) (.agg #[.int .i64 3, .string PS, .string ⟨#[]⟩, .string ⟨#[104, 116, 116, 112, 58, 47, 47, 119, 119, 119, 46, 119, 51, 46, 111, 114, 103, 47, 50, 48, 48, 49, 47, 88, 77, 76, 83, 99, 104, 101, 109, 97, 35, 100, 101, 99, 105, 109, 97, 108]⟩])).run Tryz.prog w = .ok true w := fun w => (equal_bool ⟨3, PS, ⟨#[]⟩, ⟨#[104, 116, 116, 112, 58, 47, 47, 119, 119, 119, 46, 119, 51, 46, 111, 114, 103, 47, 50, 48, 48, 49, 47, 88, 77, 76, 83, 99, 104, 101, 109, 97, 35, 100, 101, 99, 105, 109, 97, 108]⟩⟩ ⟨3, PS, ⟨#[]⟩, ⟨#[104, 116, 116, 112, 58, 47, 47, 119, 119, 119, 46, 119, 51, 46, 111, 114, 103, 47, 50, 48, 48, 49, 47, 88, 77, 76, 83, 99, 104, 101, 109, 97, 35, 100, 101, 99, 105, 109, 97, 108]⟩⟩ w).trans (by rw [tmEq_self])
            have xbt := HM15.out.at_ 2 rfl
            have qt0 := xbt.cell 0
            have qt1 := xbt.cell 1
            have qt2 := xbt.cell 2
            have qt3 := xbt.cell 3
            simp only [List.getElem?_toArray, List.getElem?_cons_zero, List.getElem?_cons_succ] at qt0 qt1 qt2 qt3
            clear xbt
            have xbw := HM15.out.at_ 0 rfl
            have qw0 := xbw.cell 0
            have qw1 := xbw.cell 1
            have qw2 := xbw.cell 2
            have qw3 := xbw.cell 3
            simp only [List.getElem?_toArray, List.getElem?_cons_zero, List.getElem?_cons_succ] at qw0 qw1 qw2 qw3
            clear xbw
            go_wp2_with fail
            go_ret
            exact ⟨rfl, HM15.out.bel⟩
          · have htt : tq = ⟨3, PS, ⟨#[]⟩, ⟨#[104, 116, 116, 112, 58, 47, 47, 119, 119, 119, 46, 119, 51, 46, 111, 114, 103, 47, 50, 48, 48, 49, 47, 88, 77, 76, 83, 99, 104, 101, 109, 97, 35, 100, 101, 99, 105, 109, 97, 108]⟩⟩ := by
              obtain ⟨h1, h2⟩ := HQ2.out
              rw [h1, h2, show (if a.tl = b.tl then a.tl else xDecL) = xDecL from if_neg (fun h => absurd ((ha2.symm.trans h).trans hb2) (by decide))]
              rfl
            clear HQ2 HF HALL
            subst htt
            have ha3 : a.t.toList = [104, 116, 116, 112, 58, 47, 47, 119, 119, 119, 46, 119, 51, 46, 111, 114, 103, 47, 50, 48, 48, 49, 47, 88, 77, 76, 83, 99, 104, 101, 109, 97, 35, 100, 101, 99, 105, 109, 97, 108] := by rw [Lib.toList_data]; exact ha2
            have hb3 : b.t.toList = [104, 116, 116, 112, 58, 47, 47, 119, 119, 119, 46, 119, 51, 46, 111, 114, 103, 47, 50, 48, 48, 49, 47, 88, 77, 76, 83, 99, 104, 101, 109, 97, 35, 105, 110, 116, 101, 103, 101, 114] := by rw [Lib.toList_data]; exact hb2
            have ha4 : (a.t.toList == [104, 116, 116, 112, 58, 47, 47, 119, 119, 119, 46, 119, 51, 46, 111, 114, 103, 47, 50, 48, 48, 49, 47, 88, 77, 76, 83, 99, 104, 101, 109, 97, 35, 105, 110, 116, 101, 103, 101, 114]) = false := by rw [ha3]; decide
            clear ha2 hb2
            go_upto_region 24 with fail
            clear qa3 qb3
            have HM15 : Hid (Mem w [(gw, #[.int .i64 3, .string PS, .string ⟨#[]⟩, .string ⟨#[104, 116, 116, 112, 58, 47, 47, 119, 119, 119, 46, 119, 51, 46, 111, 114, 103, 47, 50, 48, 48, 49, 47, 88, 77, 76, 83, 99, 104, 101, 109, 97, 35, 100, 101, 99, 105, 109, 97, 108]⟩], 25), (gd, #[.int .i64 d1, .int .i64 d2], 44), (gt, #[.int .i64 3, .string PS, .string ⟨#[]⟩, .string ⟨#[104, 116, 116, 112, 58, 47, 47, 119, 119, 119, 46, 119, 51, 46, 111, 114, 103, 47, 50, 48, 48, 49, 47, 88, 77, 76, 83, 99, 104, 101, 109, 97, 35, 100, 101, 99, 105, 109, 97, 108]⟩], 25), (gy, #[.int .i64 y1, .int .i64 y2], 44), (gx, #[.int .i64 x1, .int .i64 x2], 44), (g + 1, #[.int .i64 b.k, .string b.s, .string b.l, .string b.t], 25), (g, #[.int .i64 a.k, .string a.s, .string a.l, .string a.t], 25)] v14) := HM14
            have hq0 : ∀ w, (Op.equalIn 10000 25 (.agg #[.int .i64 3, .string PS, .string ⟨#[]⟩, .string ⟨#[104, 116, 116, 112, 58, 47, 47, 119, 119, 119, 46, 119, 51, 46, 111, 114, 103, 47, 50, 48, 48, 49, 47, 88, 77, 76, 83, 99, 104, 101, 109, 97, 35, 100, 101, 99, 105, 109, 97, 108]⟩]) (.agg #[.int .i64 3, .string PS, .string ⟨#[]⟩, .string ⟨#[104, 116, 116, 112, 58, 47, 47, 119, 119, 119, 46, 119, 51, 46, 111, 114, 103, 47, 50, 48, 48, 49, 47, 88, 77, 76, 83, 99, 104, 101, 109, 97, 35, 100, 101, 99, 105, 109, 97, 108]⟩])).run Tryz.prog w = .ok true w := fun w => (equal_bool ⟨3, PS, ⟨#[]⟩, ⟨#[104, 116, 116, 112, 58, 47, 47, 119, 119, 119, 46, 119, 51, 46, 111, 114, 103, 47, 50, 48, 48, 49, 47, 88, 77, 76, 83, 99, 104, 101, 109, 97, 35, 100, 101, 99, 105, 109, 97, 108]⟩⟩ ⟨3, PS, ⟨#[]⟩, ⟨#[104, 116, 116, 112, 58, 47, 47, 119, 119, 119, 46, 119, 51, 46, 111, 114, 103, 47, 50, 48, 48, 49, 47, 88, 77, 76, 83, 99, 104, 101, 109, 97, 35, 100, 101, 99, 105, 109, 97, 108]⟩⟩ w).trans (by rw [tmEq_self])
            have xbt := HM15.out.at_ 2 rfl
            have qt0 := xbt.cell 0
            have qt1 := xbt.cell 1
            have qt2 := xbt.cell 2
            have qt3 := xbt.cell 3
            simp only [List.getElem?_toArray, List.getElem?_cons_zero, List.getElem?_cons_succ] at qt0 qt1 qt2 qt3
            clear xbt
            have xbw := HM15.out.at_ 0 rfl
            have qw0 := xbw.cell 0
            have qw1 := xbw.cell 1
            have qw2 := xbw.cell 2
            have qw3 := xbw.cell 3
            simp only [List.getElem?_toArray, List.getElem?_cons_zero, List.getElem?_cons_succ] at qw0 qw1 qw2 qw3
            clear xbw
            go_wp2_with fail
            go_ret
            exact ⟨rfl, HM15.out.bel⟩
          · have htt : tq = ⟨3, PS, ⟨#[]⟩, ⟨#[104, 116, 116, 112, 58, 47, 47, 119, 119, 119, 46, 119, 51, 46, 111, 114, 103, 47, 50, 48, 48, 49, 47, 88, 77, 76, 83, 99, 104, 101, 109, 97, 35, 100, 101, 99, 105, 109, 97, 108]⟩⟩ := by
              obtain ⟨h1, h2⟩ := HQ2.out
              rw [h1, h2, show (if a.tl = b.tl then a.tl else xDecL) = xDecL from (if_pos (ha2.trans hb2.symm)).trans ha2]
              rfl
            clear HQ2 HF HALL
            subst htt
            have ha3 : a.t.toList = [104, 116, 116, 112, 58, 47, 47, 119, 119, 119, 46, 119, 51, 46, 111, 114, 103, 47, 50, 48, 48, 49, 47, 88, 77, 76, 83, 99, 104, 101, 109, 97, 35, 100, 101, 99, 105, 109, 97, 108] := by rw [Lib.toList_data]; exact ha2
            have hb3 : b.t.toList = [104, 116, 116, 112, 58, 47, 47, 119, 119, 119, 46, 119, 51, 46, 111, 114, 103, 47, 50, 48, 48, 49, 47, 88, 77, 76, 83, 99, 104, 101, 109, 97, 35, 100, 101, 99, 105, 109, 97, 108] := by rw [Lib.toList_data]; exact hb2
            have ha4 : (a.t.toList == [104, 116, 116, 112, 58, 47, 47, 119, 119, 119, 46, 119, 51, 46, 111, 114, 103, 47, 50, 48, 48, 49, 47, 88, 77, 76, 83, 99, 104, 101, 109, 97, 35, 105, 110, 116, 101, 103, 101, 114]) = false := by rw [ha3]; decide
            have hb4 : (b.t.toList == [104, 116, 116, 112, 58, 47, 47, 119, 119, 119, 46, 119, 51, 46, 111, 114, 103, 47, 50, 48, 48, 49, 47, 88, 77, 76, 83, 99, 104, 101, 109, 97, 35, 105, 110, 116, 101, 103, 101, 114]) = false := by rw [hb3]; decide
            clear ha2 hb2
            go_upto_region 24 with fail
            clear qa3 qb3
            have HM15 : Hid (Mem w [(gw, #[.int .i64 3, .string PS, .string ⟨#[]⟩, .string ⟨#[104, 116, 116, 112, 58, 47, 47, 119, 119, 119, 46, 119, 51, 46, 111, 114, 103, 47, 50, 48, 48, 49, 47, 88, 77, 76, 83, 99, 104, 101, 109, 97, 35, 100, 101, 99, 105, 109, 97, 108]⟩], 25), (gd, #[.int .i64 d1, .int .i64 d2], 44), (gt, #[.int .i64 3, .string PS, .string ⟨#[]⟩, .string ⟨#[104, 116, 116, 112, 58, 47, 47, 119, 119, 119, 46, 119, 51, 46, 111, 114, 103, 47, 50, 48, 48, 49, 47, 88, 77, 76, 83, 99, 104, 101, 109, 97, 35, 100, 101, 99, 105, 109, 97, 108]⟩], 25), (gy, #[.int .i64 y1, .int .i64 y2], 44), (gx, #[.int .i64 x1, .int .i64 x2], 44), (g + 1, #[.int .i64 b.k, .string b.s, .string b.l, .string b.t], 25), (g, #[.int .i64 a.k, .string a.s, .string a.l, .string a.t], 25)] v14) := HM14
            have hq0 : ∀ w, (Op.equalIn 10000 25 (.agg #[.int .i64 3, .string PS, .string ⟨#[]⟩, .string ⟨#[104, 116, 116, 112, 58, 47, 47, 119, 119, 119, 46, 119, 51, 46, 111, 114, 103, 47, 50, 48, 48, 49, 47, 88, 77, 76, 83, 99, 104, 101, 109, 97, 35, 100, 101, 99, 105, 109, 97, 108]⟩]) (.agg #[.int .i64 3, .string PS, .string ⟨#[]⟩, .string ⟨#[104, 116, 116, 112, 58, 47, 47, 119, 119, 119, 46, 119, 51, 46, 111, 114, 103, 47, 50, 48, 48, 49, 47, 88, 77, 76, 83, 99, 104, 101, 109, 97, 35, 100, 101, 99, 105, 109, 97, 108]⟩])).run Tryz.prog w = .ok true w := fun w => (equal_bool ⟨3, PS, ⟨#[]⟩, ⟨#[104, 116, 116, 112, 58, 47, 47, 119, 119, 119, 46, 119, 51, 46, 111, 114, 103, 47, 50, 48, 48, 49, 47, 88, 77, 76, 83, 99, 104, 101, 109, 97, 35, 100, 101, 99, 105, 109, 97, 108]⟩⟩ ⟨3, PS, ⟨#[]⟩, ⟨#[104, 116, 116, 112, 58, 47, 47, 119, 119, 119, 46, 119, 51, 46, 111, 114, 103, 47, 50, 48, 48, 49, 47, 88, 77, 76, 83, 99, 104, 101, 109, 97, 35, 100, 101, 99, 105, 109, 97, 108]⟩⟩ w).trans (by rw [tmEq_self])
            have xbt := HM15.out.at_ 2 rfl
            have qt0 := xbt.cell 0
            have qt1 := xbt.cell 1
            have qt2 := xbt.cell 2
            have qt3 := xbt.cell 3
            simp only [List.getElem?_toArray, List.getElem?_cons_zero, List.getElem?_cons_succ] at qt0 qt1 qt2 qt3
            clear xbt
            have xbw := HM15.out.at_ 0 rfl
            have qw0 := xbw.cell 0
            have qw1 := xbw.cell 1
            have qw2 := xbw.cell 2
            have qw3 := xbw.cell 3
            simp only [List.getElem?_toArray, List.getElem?_cons_zero, List.getElem?_cons_succ] at qw0 qw1 qw2 qw3
            clear xbw
            go_wp2_with fail
            go_ret
            exact ⟨rfl, HM15.out.bel⟩
  · obtain ⟨a, ha⟩ : ∃ a, a = termT n := ⟨_, rfl⟩
    obtain ⟨b, hb⟩ : ∃ b, b = termT m := ⟨_, rfl⟩
    have sa : a.Sm := by rw [ha]; exact termT_sm n
    have sb : b.Sm := by rw [hb]; exact termT_sm m
    have ka : a.k ≠ 4 := by rw [ha]; exact termT_k n
    have kb : b.k ≠ 4 := by rw [hb]; exact termT_k m
    have HTA := Lib.hid (fun wz => term15_any n wz hn.1 hn.2)
    have HTB := Lib.hid (fun wz => term15_any m wz hm.1 hm.2)
    rw [← ha] at HTA
    rw [← hb] at HTB
    have HKN := Lib.hid (known15_any w hT.pow)
    have HU := Lib.hid (fun s t w => num15_any s t w)
    have HI : Hid (∀ wz, Calls Tryz.prog 14 #[.int .i64 op, .int .i64 3] wz fun e w' => e = .returned (.int .i64 1) ∧ wz = w') := Lib.hid (fun wz => by
      have h := within15_any op 3 wz (by decide) (by decide) ho.1 ho.2
      rw [hk] at h
      exact h)
    obtain ⟨x1, hx1⟩ : ∃ x, x = ((numO a).getD (0, 0)).1 := ⟨_, rfl⟩
    obtain ⟨x2, hx2⟩ : ∃ x, x = (((numO a).getD (0, 0)).2 : Int) := ⟨_, rfl⟩
    obtain ⟨pa, hpa⟩ : ∃ x, x = (numO a).isSome := ⟨_, rfl⟩
    have HNA := Lib.hid (fun wz => rnumber_any a sa wz)
    rw [decOV_form, ← hx1, ← hx2, ← hpa] at HNA
    obtain ⟨y1, hy1⟩ : ∃ x, x = ((numO b).getD (0, 0)).1 := ⟨_, rfl⟩
    obtain ⟨y2, hy2⟩ : ∃ x, x = (((numO b).getD (0, 0)).2 : Int) := ⟨_, rfl⟩
    obtain ⟨pb, hpb⟩ : ∃ x, x = (numO b).isSome := ⟨_, rfl⟩
    have HNB := Lib.hid (fun wz => rnumber_any b sb wz)
    rw [decOV_form, ← hy1, ← hy2, ← hpb] at HNB
    obtain ⟨tq, htq⟩ : ∃ x, x = (reckonO 12 a b).getD zeroT := ⟨_, rfl⟩
    obtain ⟨iq, hiq⟩ : ∃ x, x = (reckonO 12 a b).isSome := ⟨_, rfl⟩
    have HE : Hid (∀ z kv, Below w.heap.size w z → KidsP z.heap.size z 1 kv [ofT a, ofT b] → Calls Tryz.prog 11 #[.agg #[.int .i64 12, .int .i64 0, .string ⟨#[]⟩, .string ⟨#[]⟩, .string ⟨#[]⟩, kv], .slice none 0 0] z fun e' w' => e' = .returned (.tuple #[.agg #[.int .i64 tq.k, .string tq.s, .string tq.l, .string tq.t], .bool iq]) ∧ Below z.heap.size z w') := Lib.hid (fun z kv hz hkv => by
      refine (eval_any 1 (.mk 12 zeroT [ofT a, ofT b]) kv (.slice none 0 0) [] z hkv (show opIn 12 from by unfold opIn; decide) zeroT_sm (sol_nil _ _) (by decide) (fun w1 h1 => (hT.below hz).below h1)).mono ?_
      rintro e' w' ⟨rfl, hbb, -⟩
      rw [sums_eval 12 (by decide) a b ka kb, ← htq, ← hiq]
      exact ⟨rfl, hbb⟩)
    have HKK := Lib.hid (fun v => kids_two v a b sa sb 28)
    have HALL := Lib.hid (And.intro (And.intro hx1 (And.intro hx2 hpa)) (And.intro (And.intro hy1 (And.intro hy2 hpb)) (And.intro htq hiq)))
    clear hk hx1 hx2 hpa hy1 hy2 hpb htq hiq ha hb sa sb ka kb hn hm ho
    have HTT := Lib.hid hT
    clear hT
    unfold Tm.val at HTA HTB HNA HNB
    go_enter Tryz.func5, Tryz.ntmps5
    go_wp2_with fail
    refine HKN.out.mono ?_
    rintro e w1 ⟨rfl, hb1⟩
    have HB1 := Lib.hid hb1
    clear hb1
    go_wp2_with fail
    refine (HTA.out _).mono ?_
    rintro e w2 ⟨rfl, hb2⟩
    have HB2 := Lib.hid (HB1.out.trans (hb2.mono HB1.out.size))
    clear hb2
    go_wp2_with fail
    refine (HTB.out _).mono ?_
    rintro e w3 ⟨rfl, hb3⟩
    have HB3 := Lib.hid (HB2.out.trans (hb3.mono HB2.out.size))
    clear hb3
    go_upto_region 4 with fail
    have hmm := ((Mem.nil HB3.out).alloc w3.heap.size rfl #[.int .i64 a.k, .string a.s, .string a.l, .string a.t] 25).alloc (w3.heap.size + 1) (by simp) #[.int .i64 b.k, .string b.s, .string b.l, .string b.t] 25
    generalize World.alloc (World.alloc w3 _) _ = v1 at hmm ⊢
    generalize w3.heap.size = g at hmm ⊢
    have HM1 := Lib.hid hmm
    clear hmm
    have xba := HM1.out.at_ 1 rfl
    have qa0 := xba.cell 0
    have qa1 := xba.cell 1
    have qa2 := xba.cell 2
    have qa3 := xba.cell 3
    simp only [List.getElem?_toArray, List.getElem?_cons_zero, List.getElem?_cons_succ] at qa0 qa1 qa2 qa3
    clear xba
    go_wp2_with fail
    refine (HNA.out _).mono ?_
    rintro e v2 ⟨rfl, hbb⟩
    have HM2 := Lib.hid (HM1.out.below hbb)
    clear hbb
    clear qa0 qa1 qa2 qa3
    go_upto_region 5 with fail
    have hmm := HM2.out.alloc v2.heap.size rfl #[.int .i64 x1, .int .i64 x2] 44
    generalize World.alloc v2 _ = v3 at hmm ⊢
    generalize v2.heap.size = gx at hmm ⊢
    have HM3 := Lib.hid hmm
    clear hmm
    have xbb := HM3.out.at_ 1 rfl
    have qb0 := xbb.cell 0
    have qb1 := xbb.cell 1
    have qb2 := xbb.cell 2
    have qb3 := xbb.cell 3
    simp only [List.getElem?_toArray, List.getElem?_cons_zero, List.getElem?_cons_succ] at qb0 qb1 qb2 qb3
    clear xbb
    go_wp2_with fail
    refine (HNB.out _).mono ?_
    rintro e v4 ⟨rfl, hbb⟩
    have HM4 := Lib.hid (HM3.out.below hbb)
    clear hbb
    clear qb0 qb1 qb2 qb3
    go_upto_region 6 with fail
    have hmm := HM4.out.alloc v4.heap.size rfl #[.int .i64 y1, .int .i64 y2] 44
    generalize World.alloc v4 _ = v5 at hmm ⊢
    generalize v4.heap.size = gy at hmm ⊢
    have HM5 := Lib.hid hmm
    clear hmm
    go_wp2_with fail
    refine (HI.out _).mono ?_
    rintro e wz ⟨rfl, rfl⟩
    have xba := HM5.out.at_ 3 rfl
    have qa0 := xba.cell 0
    have qa1 := xba.cell 1
    have qa2 := xba.cell 2
    have qa3 := xba.cell 3
    simp only [List.getElem?_toArray, List.getElem?_cons_zero, List.getElem?_cons_succ] at qa0 qa1 qa2 qa3
    clear xba
    have xbb := HM5.out.at_ 2 rfl
    have qb0 := xbb.cell 0
    have qb1 := xbb.cell 1
    have qb2 := xbb.cell 2
    have qb3 := xbb.cell 3
    simp only [List.getElem?_toArray, List.getElem?_cons_zero, List.getElem?_cons_succ] at qb0 qb1 qb2 qb3
    clear xbb
    go_wp2_with fail
    have hkk := HKK.out v5
    have hmm := HM5.out.below ((Below.refl _ _).alloc (Nat.le_refl _) (.cells #[.int .i64 1, .int .i64 a.k, .string a.s, .string a.l, .string a.t, .slice none 0 0, .int .i64 1, .int .i64 b.k, .string b.s, .string b.l, .string b.t, .slice none 0 0] 28))
    generalize World.alloc v5 _ = v6 at hkk hmm ⊢
    have HM6 := Lib.hid hmm
    clear hmm
    refine (HE.out _ _ HM6.out.bel hkk).mono ?_
    rintro e v7 ⟨rfl, hbb⟩
    have HM7 := Lib.hid (HM6.out.below hbb)
    clear hbb hkk
    clear qa0 qa1 qa2 qa3 qb0 qb1 qb2 qb3
    go_upto_region 8 with fail
    have hmm := HM7.out.alloc v7.heap.size rfl #[.int .i64 tq.k, .string tq.s, .string tq.l, .string tq.t] 25
    generalize World.alloc v7 _ = v8 at hmm ⊢
    generalize v7.heap.size = gt at hmm ⊢
    have HM8 := Lib.hid hmm
    clear hmm
    cases pa
    · obtain ⟨⟨-, -, hpa⟩, ⟨-, -, hpb⟩, htq, hiq⟩ := HALL.out
      rw [reckon_none (.inl hpa.symm)] at htq hiq
      subst htq
      subst hiq
      clear hpa hpb
      have HM9 : Hid (Mem w [(gt, #[.int .i64 0, .string ⟨#[]⟩, .string ⟨#[]⟩, .string ⟨#[]⟩], 25), (gy, #[.int .i64 y1, .int .i64 y2], 44), (gx, #[.int .i64 x1, .int .i64 x2], 44), (g + 1, #[.int .i64 b.k, .string b.s, .string b.l, .string b.t], 25), (g, #[.int .i64 a.k, .string a.s, .string a.l, .string a.t], 25)] v8) := HM8
      clear HM8
      have xbt := HM9.out.at_ 0 rfl
      have qt0 := xbt.cell 0
      have qt1 := xbt.cell 1
      have qt2 := xbt.cell 2
      have qt3 := xbt.cell 3
      simp only [List.getElem?_toArray, List.getElem?_cons_zero, List.getElem?_cons_succ] at qt0 qt1 qt2 qt3
      clear xbt
      have hq0 : ∀ w, (Op.equalIn 10000 25 (.agg #[.int .i64 0, .string ⟨#[]⟩, .string ⟨#[]⟩, .string ⟨#[]⟩]) (.agg #[.int .i64 0, .string ⟨#[]⟩, .string ⟨#[]⟩, .string ⟨#[]⟩])).run Tryz.prog w = .ok true w := fun w => equal_bool zeroT zeroT w
      have hif : (none : Option Tm).isSome = false := rfl
      go_wp2_with fail
      go_ret
      exact ⟨rfl, HM9.out.bel⟩
    · cases pb
      · obtain ⟨⟨-, -, hpa⟩, ⟨-, -, hpb⟩, htq, hiq⟩ := HALL.out
        rw [reckon_none (.inr hpb.symm)] at htq hiq
        subst htq
        subst hiq
        clear hpa hpb
        have HM9 : Hid (Mem w [(gt, #[.int .i64 0, .string ⟨#[]⟩, .string ⟨#[]⟩, .string ⟨#[]⟩], 25), (gy, #[.int .i64 y1, .int .i64 y2], 44), (gx, #[.int .i64 x1, .int .i64 x2], 44), (g + 1, #[.int .i64 b.k, .string b.s, .string b.l, .string b.t], 25), (g, #[.int .i64 a.k, .string a.s, .string a.l, .string a.t], 25)] v8) := HM8
        clear HM8
        have xbt := HM9.out.at_ 0 rfl
        have qt0 := xbt.cell 0
        have qt1 := xbt.cell 1
        have qt2 := xbt.cell 2
        have qt3 := xbt.cell 3
        simp only [List.getElem?_toArray, List.getElem?_cons_zero, List.getElem?_cons_succ] at qt0 qt1 qt2 qt3
        clear xbt
        have hq0 : ∀ w, (Op.equalIn 10000 25 (.agg #[.int .i64 0, .string ⟨#[]⟩, .string ⟨#[]⟩, .string ⟨#[]⟩]) (.agg #[.int .i64 0, .string ⟨#[]⟩, .string ⟨#[]⟩, .string ⟨#[]⟩])).run Tryz.prog w = .ok true w := fun w => equal_bool zeroT zeroT w
        have hif : (none : Option Tm).isSome = false := rfl
        go_wp2_with fail
        go_ret
        exact ⟨rfl, HM9.out.bel⟩
      · obtain ⟨⟨hx1, hx2, hpa⟩, ⟨hy1, hy2, hpb⟩, htq, hiq⟩ := HALL.out
        obtain ⟨p, hp⟩ := Option.isSome_iff_exists.1 hpa.symm
        obtain ⟨r, hr⟩ := Option.isSome_iff_exists.1 hpb.symm
        rw [hp] at hx1 hx2
        rw [hr] at hy1 hy2
        have hx1' : x1 = p.1 := hx1
        have hx2' : x2 = (p.2 : Int) := hx2
        have hy1' : y1 = r.1 := hy1
        have hy2' : y2 = (r.2 : Int) := hy2
        obtain ⟨fi, hfi⟩ : ∃ f, f = fitsL (sumP 12 p r) := ⟨_, rfl⟩
        obtain ⟨d1, hd1⟩ : ∃ d : Int, d = if fitsL (sumP 12 p r) then (sumP 12 p r).1 else 0 := ⟨_, rfl⟩
        obtain ⟨d2, hd2⟩ : ∃ d : Int, d = if fitsL (sumP 12 p r) then ((sumP 12 p r).2 : Int) else 0 := ⟨_, rfl⟩
        have hreck : reckonO 12 a b = if fi then some (numeralT (sumP 12 p r) (if a.tl = b.tl then a.tl else xDecL)) else none := by
          unfold reckonO
          rw [hp, hr, hfi]
        rw [hreck] at htq hiq
        have HADD : Hid (∀ wz, Calls Tryz.prog 18 #[.agg #[.int .i64 x1, .int .i64 x2], .agg #[.int .i64 (-y1), .int .i64 y2]] wz fun e w' => e = .returned (.tuple #[.agg #[.int .i64 d1, .int .i64 d2], .bool fi]) ∧ Below wz.heap.size wz w') := Lib.hid (fun wz => by
          have h := radd_any wz p.1 (p.2 : Int) (-r.1) (r.2 : Int) (num_goodD hp) (neg_goodD (num_goodD hr))
          rw [hd1, hd2, hfi, ← decP_form, hx1', hx2', hy1', hy2']
          exact h)
        have HNEG : Hid (∀ wz, Calls Tryz.prog 19 #[.agg #[.int .i64 y1, .int .i64 y2]] wz fun e w' => e = .returned (.agg #[.int .i64 (-y1), .int .i64 y2]) ∧ Below wz.heap.size wz w') := Lib.hid (fun wz => by
          rw [hy1', hy2']
          exact rneg_any wz r.1 (r.2 : Int) (num_goodD hr))
        have HF := Lib.hid (And.intro hfi (And.intro hd1 (And.intro hd2 (And.intro htq (And.intro hiq (And.intro (num_type hp) (num_type hr)))))))
        clear hx1 hx2 hpa hy1 hy2 hpb htq hiq hp hr hx1' hx2' hy1' hy2' hfi hd1 hd2 hreck
        go_upto_region 12 with fail
        have hmm := HM8.out.alloc v8.heap.size rfl #[.int .i64 0, .int .i64 0] 44
        generalize World.alloc v8 _ = v9 at hmm ⊢
        generalize v8.heap.size = gd at hmm ⊢
        have HM9 := Lib.hid hmm
        clear hmm
        go_upto_region 16 with fail
        refine wp_region_any (by kernel_rfl) ?_
        change wpAny _ _ _ _ _ _ _ (World.drew _)
        refine wpAny_of_held (S := fun z => ∃ c1 c2, Mem w [(gd, #[.int .i64 c1, .int .i64 c2], 44), (gt, #[.int .i64 tq.k, .string tq.s, .string tq.l, .string tq.t], 25), (gy, #[.int .i64 y1, .int .i64 y2], 44), (gx, #[.int .i64 x1, .int .i64 x2], 44), (g + 1, #[.int .i64 b.k, .string b.s, .string b.l, .string b.t], 25), (g, #[.int .i64 a.k, .string a.s, .string a.l, .string a.t], 25)] z) _ _ _ _ ?_
        have hS : (fun z => ∃ c1 c2, Mem w [(gd, #[.int .i64 c1, .int .i64 c2], 44), (gt, #[.int .i64 tq.k, .string tq.s, .string tq.l, .string tq.t], 25), (gy, #[.int .i64 y1, .int .i64 y2], 44), (gx, #[.int .i64 x1, .int .i64 x2], 44), (g + 1, #[.int .i64 b.k, .string b.s, .string b.l, .string b.t], 25), (g, #[.int .i64 a.k, .string a.s, .string a.l, .string a.t], 25)] z) _ := ⟨0, 0, HM9.out.below (below_drew15 _)⟩
        refine wpAnyH_take (i := 0) (oi := ⟨some 74, _, _, _, _, _⟩) (v := ?_) rfl (by kernel_rfl) (by kernel_rfl) (by kernel_rfl) (fun _ _ _ h => h) (Or.inl ⟨by simp only [Region.wanted], ?_⟩) hS ?_
        rotate_left
        · intro wz hSw; have xb := (mem_tails hSw).at_ 2 rfl; have x0 := xb.cell 0; have x1q := xb.cell 1; simp only [List.getElem?_toArray, List.getElem?_cons_zero, List.getElem?_cons_succ] at x0 x1q; clear xb
          clear hSw
          go_simp
          first | done | with_reducible rfl
        try simp only [Act.put, List.setIfInBounds_toArray, List.set_cons_zero, List.set_cons_succ]
        refine wpAnyH_take (i := 1) (oi := ⟨some 75, _, _, _, _, _⟩) (v := ?_) rfl (by kernel_rfl) (by kernel_rfl) (by kernel_rfl) (fun _ _ _ h => h) (Or.inl ⟨by simp only [Region.wanted], ?_⟩) hS ?_
        rotate_left
        · intro wz hSw; have xb := (mem_tails hSw).at_ 1 rfl; have x0 := xb.cell 0; have x1q := xb.cell 1; simp only [List.getElem?_toArray, List.getElem?_cons_zero, List.getElem?_cons_succ] at x0 x1q; clear xb
          clear hSw
          go_simp
          first | done | with_reducible rfl
        try simp only [Act.put, List.setIfInBounds_toArray, List.set_cons_zero, List.set_cons_succ]
        refine wpAnyH_ready (rs := [2]) (by kernel_rfl) (by simp) ?_
        refine AllReadyH.cons (o := ⟨some 76, _, _, _, _, _⟩) rfl (fun K hK => ?_) AllReadyH.nil
        go_simp
        refine (HNEG.out _).mono ?_
        rintro e wn ⟨rfl, hbn⟩
        obtain ⟨c1, c2, hmn⟩ := hS
        have hSn := hmn.below hbn
        clear hbn hmn
        go_wp2_with fail
        refine hK.out _ _ (⟨c1, c2, hSn⟩) (fun hS => ?_)
        clear hK K
        try simp only [Act.put, List.setIfInBounds_toArray, List.set_cons_zero, List.set_cons_succ]
        refine wpAnyH_ready (rs := [3]) (by kernel_rfl) (by simp) ?_
        refine AllReadyH.cons (o := ⟨some 77, _, _, _, _, _⟩) rfl (fun K hK => ?_) AllReadyH.nil
        go_simp
        refine (HADD.out _).mono ?_
        rintro e wn ⟨rfl, hbn⟩
        obtain ⟨c1, c2, hmn⟩ := hS
        have hSn := hmn.below hbn
        clear hbn hmn
        go_wp2_with fail
        refine hK.out _ _ (⟨c1, c2, hSn⟩) (fun hS => ?_)
        clear hK K
        try simp only [Act.put, List.setIfInBounds_toArray, List.set_cons_zero, List.set_cons_succ]
        refine wpAnyH_take (i := 4) (oi := ⟨some 73, _, _, _, _, _⟩) (v := ?_) rfl (by kernel_rfl) (by kernel_rfl) (by kernel_rfl) (fun _ _ _ h => h) (Or.inl ⟨by simp only [Region.wanted], ?_⟩) hS ?_
        rotate_left
        · intro wz hSw
          clear hSw
          go_simp
          first | done | with_reducible rfl
        try simp only [Act.put, List.setIfInBounds_toArray, List.set_cons_zero, List.set_cons_succ]
        refine wpAnyH_take (i := 5) (oi := ⟨some 78, _, _, _, _, _⟩) (v := ?_) rfl (by kernel_rfl) (by kernel_rfl) (by kernel_rfl) (fun _ _ _ h => h) (Or.inl ⟨by simp only [Region.wanted], ?_⟩) hS ?_
        rotate_left
        · intro wz hSw
          clear hSw
          go_simp
          first | done | with_reducible rfl
        try simp only [Act.put, List.setIfInBounds_toArray, List.set_cons_zero, List.set_cons_succ]
        refine wpAnyH_take (i := 6) (oi := ⟨some 79, _, _, _, _, _⟩) (v := ?_) rfl (by kernel_rfl) (by kernel_rfl) (by kernel_rfl) (fun _ _ _ h => h) (Or.inl ⟨by simp only [Region.wanted], ?_⟩) hS ?_
        rotate_left
        · intro wz hSw
          clear hSw
          go_simp
          first | done | with_reducible rfl
        try simp only [Act.put, List.setIfInBounds_toArray, List.set_cons_zero, List.set_cons_succ]
        refine wpAnyH_ready (rs := [7]) (by kernel_rfl) (by simp) ?_
        refine AllReadyH.cons (o := ⟨none, _, _, _, _, _⟩) rfl (fun K hK => ?_) AllReadyH.nil
        go_simp
        obtain ⟨c1, c2, hmn⟩ := hS
        have xbd := hmn.at_ 0 rfl
        have qd0 := xbd.cell 0
        have qd1 := xbd.cell 1
        simp only [List.getElem?_toArray, List.getElem?_cons_zero, List.getElem?_cons_succ] at qd0 qd1
        have qdf0 := xbd.frozen 0
        have qdf1 := xbd.frozen 1
        clear xbd
        have HM10 := Lib.hid ((hmn.set 0 (.int .i64 d1)).set 1 (.int .i64 d2))
        go_simp
        refine hK.out _ _ (⟨d1, d2, HM10.out⟩) (fun hS => ?_)
        clear hK K
        try simp only [Act.put, List.setIfInBounds_toArray, List.set_cons_zero, List.set_cons_succ]
        refine wpAnyH_take (i := 8) (oi := ⟨some 17, _, _, _, _, _⟩) (v := ?_) rfl (by kernel_rfl) (by kernel_rfl) (by kernel_rfl) (fun _ _ _ h => h) (Or.inl ⟨by simp only [Region.wanted], ?_⟩) hS ?_
        rotate_left
        · intro wz hSw
          clear hSw
          go_simp
          first | done | with_reducible rfl
        try simp only [Act.put, List.setIfInBounds_toArray, List.set_cons_zero, List.set_cons_succ]
        refine wpAnyH_done (by kernel_rfl) ?_ _
        clear hS
        go_upto_region 19 with fail
        have hmm : Mem w [(gd, #[.int .i64 d1, .int .i64 d2], 44), (gt, #[.int .i64 tq.k, .string tq.s, .string tq.l, .string tq.t], 25), (gy, #[.int .i64 y1, .int .i64 y2], 44), (gx, #[.int .i64 x1, .int .i64 x2], 44), (g + 1, #[.int .i64 b.k, .string b.s, .string b.l, .string b.t], 25), (g, #[.int .i64 a.k, .string a.s, .string a.l, .string a.t], 25)] _ := HM10.out
        generalize World.setCell (World.setCell _ _ _) _ _ = v11 at hmm ⊢
        clear qd0 qd1 qdf0 qdf1
        have HM11 := Lib.hid hmm
        clear hmm
        cases fi
        · obtain ⟨hfi, -, -, htq, hiq, -⟩ := HF.out
          have hiq' : iq = false := hiq
          subst hiq'
          clear hfi htq hiq
          go_wp2_with fail
          go_ret
          exact ⟨rfl, HM11.out.bel⟩
        · obtain ⟨hfi, hd1, hd2, htq, hiq, hta, htb⟩ := HF.out
          have hiq' : iq = true := hiq
          subst hiq'
          rw [if_pos hfi.symm] at hd1 hd2
          have hG := sum_good hfi.symm
          obtain ⟨PS, hPS⟩ : ∃ s : ByteArray, s = ⟨(printF (sumP 12 p r).1 (sumP 12 p r).2).toArray⟩ := ⟨_, rfl⟩
          have HPR : Hid (∀ wz, Calls Tryz.prog 21 #[.agg #[.int .i64 d1, .int .i64 d2]] wz fun e w' => e = .returned (.string PS) ∧ Below wz.heap.size wz w') := Lib.hid (fun wz => by
            rw [hPS, hd1, hd2, printF_eq _ _ (by have := hG.1; have := hG.2.1; omega)]
            exact rprint_any _ _ wz hG)
          have hta' : a.t.data.toList = xIntL ∨ a.t.data.toList = xDecL := hta
          have htb' : b.t.data.toList = xIntL ∨ b.t.data.toList = xDecL := htb
          have htq' : tq = numeralT (sumP 12 p r) (if a.tl = b.tl then a.tl else xDecL) := htq
          have HQ2 := Lib.hid (And.intro htq' hPS)
          clear hd1 hd2 hG hfi hiq htq htq' hPS hta htb
          have xbd := HM11.out.at_ 0 rfl
          have qd0 := xbd.cell 0
          have qd1 := xbd.cell 1
          simp only [List.getElem?_toArray, List.getElem?_cons_zero, List.getElem?_cons_succ] at qd0 qd1
          clear xbd
          go_wp2_with fail
          refine (HPR.out _).mono ?_
          rintro e v12 ⟨rfl, hbb⟩
          have HM12 := Lib.hid (HM11.out.below hbb)
          clear hbb
          clear qd0 qd1
          go_wp2_with fail
          refine (HU.out _ _ _).mono ?_
          rintro e v13 ⟨rfl, hbb⟩
          have HM13 := Lib.hid (HM12.out.below hbb)
          clear hbb
          go_upto_region 22 with fail
          have hmm := HM13.out.alloc v13.heap.size rfl #[.int .i64 3, .string PS, .string ⟨#[]⟩, .string ⟨#[104, 116, 116, 112, 58, 47, 47, 119, 119, 119, 46, 119, 51, 46, 111, 114, 103, 47, 50, 48, 48, 49, 47, 88, 77, 76, 83, 99, 104, 101, 109, 97, 35, 100, 101, 99, 105, 109, 97, 108]⟩] 25
          generalize World.alloc v13 _ = v14 at hmm ⊢
          generalize v13.heap.size = gw at hmm ⊢
          have HM14 := Lib.hid hmm
          clear hmm
          have xba := HM14.out.at_ 6 rfl
          have qa3 := xba.cell 3
          simp only [List.getElem?_toArray, List.getElem?_cons_zero, List.getElem?_cons_succ] at qa3
          clear xba
          have xbb := HM14.out.at_ 5 rfl
          have qb3 := xbb.cell 3
          simp only [List.getElem?_toArray, List.getElem?_cons_zero, List.getElem?_cons_succ] at qb3
          clear xbb
          rcases hta' with ha2 | ha2 <;> rcases htb' with hb2 | hb2
          · have htt : tq = ⟨3, PS, ⟨#[]⟩, ⟨#[104, 116, 116, 112, 58, 47, 47, 119, 119, 119, 46, 119, 51, 46, 111, 114, 103, 47, 50, 48, 48, 49, 47, 88, 77, 76, 83, 99, 104, 101, 109, 97, 35, 105, 110, 116, 101, 103, 101, 114]⟩⟩ := by
              obtain ⟨h1, h2⟩ := HQ2.out
              rw [h1, h2, show (if a.tl = b.tl then a.tl else xDecL) = xIntL from (if_pos (ha2.trans hb2.symm)).trans ha2]
              rfl
            clear HQ2 HF HALL
            subst htt
            have ha3 : a.t.toList = [104, 116, 116, 112, 58, 47, 47, 119, 119, 119, 46, 119, 51, 46, 111, 114, 103, 47, 50, 48, 48, 49, 47, 88, 77, 76, 83, 99, 104, 101, 109, 97, 35, 105, 110, 116, 101, 103, 101, 114] := by rw [Lib.toList_data]; exact ha2
            have hb3 : b.t.toList = [104, 116, 116, 112, 58, 47, 47, 119, 119, 119, 46, 119, 51, 46, 111, 114, 103, 47, 50, 48, 48, 49, 47, 88, 77, 76, 83, 99, 104, 101, 109, 97, 35, 105, 110, 116, 101, 103, 101, 114] := by rw [Lib.toList_data]; exact hb2
            clear ha2 hb2
            go_upto_region 23 with fail
            have xbw := HM14.out.at_ 0 rfl
            have qw3 := xbw.cell 3
            simp only [List.getElem?_toArray, List.getElem?_cons_zero, List.getElem?_cons_succ] at qw3
            have qwf3 := xbw.frozen 3
            clear xbw
            go_upto_region 24 with fail
            clear qa3 qb3 qw3 qwf3 ha3 hb3
            have hmm : Mem w [(gw, #[.int .i64 3, .string PS, .string ⟨#[]⟩, .string ⟨#[104, 116, 116, 112, 58, 47, 47, 119, 119, 119, 46, 119, 51, 46, 111, 114, 103, 47, 50, 48, 48, 49, 47, 88, 77, 76, 83, 99, 104, 101, 109, 97, 35, 105, 110, 116, 101, 103, 101, 114]⟩], 25), (gd, #[.int .i64 d1, .int .i64 d2], 44), (gt, #[.int .i64 3, .string PS, .string ⟨#[]⟩, .string ⟨#[104, 116, 116, 112, 58, 47, 47, 119, 119, 119, 46, 119, 51, 46, 111, 114, 103, 47, 50, 48, 48, 49, 47, 88, 77, 76, 83, 99, 104, 101, 109, 97, 35, 105, 110, 116, 101, 103, 101, 114]⟩], 25), (gy, #[.int .i64 y1, .int .i64 y2], 44), (gx, #[.int .i64 x1, .int .i64 x2], 44), (g + 1, #[.int .i64 b.k, .string b.s, .string b.l, .string b.t], 25), (g, #[.int .i64 a.k, .string a.s, .string a.l, .string a.t], 25)] _ := HM14.out.set 3 (.string ⟨#[104, 116, 116, 112, 58, 47, 47, 119, 119, 119, 46, 119, 51, 46, 111, 114, 103, 47, 50, 48, 48, 49, 47, 88, 77, 76, 83, 99, 104, 101, 109, 97, 35, 105, 110, 116, 101, 103, 101, 114]⟩)
            generalize World.setCell v14 _ _ = v15 at hmm ⊢
            have HM15 := Lib.hid hmm
            clear hmm
            have hq0 : ∀ w, (Op.equalIn 10000 25 (.agg #[.int .i64 3, .string PS, .string ⟨#[]⟩, .string ⟨#[104, 116, 116, 112, 58, 47, 47, 119, 119, 119, 46, 119, 51, 46, 111, 114, 103, 47, 50, 48, 48, 49, 47, 88, 77, 76, 83, 99, 104, 101, 109, 97, 35, 105, 110, 116, 101, 103, 101, 114]⟩]) (.agg #[.int .i64 3, .string PS, .string ⟨#[]⟩, .string ⟨#[104, 116, 116, 112, 58, 47, 47, 119, 119, 119, 46, 119, 51, 46, 111, 114, 103, 47, 50, 48, 48, 49, 47, 88, 77, 76, 83, 99, 104, 101, 109, 97, 35, 105, 110, 116, 101, 103, 101, 114]⟩])).run Tryz.prog w = .ok true w := fun w => (equal_bool ⟨3, PS, ⟨#[]⟩, ⟨#[104, 116, 116, 112, 58, 47, 47, 119, 119, 119, 46, 119, 51, 46, 111, 114, 103, 47, 50, 48, 48, 49, 47, 88, 77, 76, 83, 99, 104, 101, 109, 97, 35, 105, 110, 116, 101, 103, 101, 114]⟩⟩ ⟨3, PS, ⟨#[]⟩, ⟨#[104, 116, 116, 112, 58, 47, 47, 119, 119, 119, 46, 119, 51, 46, 111, 114, 103, 47, 50, 48, 48, 49, 47, 88, 77, 76, 83, 99, 104, 101, 109, 97, 35, 105, 110, 116, 101, 103, 101, 114]⟩⟩ w).trans (by rw [tmEq_self])
            have xbt := HM15.out.at_ 2 rfl
            have qt0 := xbt.cell 0
            have qt1 := xbt.cell 1
            have qt2 := xbt.cell 2
            have qt3 := xbt.cell 3
            simp only [List.getElem?_toArray, List.getElem?_cons_zero, List.getElem?_cons_succ] at qt0 qt1 qt2 qt3
            clear xbt
            have xbw := HM15.out.at_ 0 rfl
            have qw0 := xbw.cell 0
            have qw1 := xbw.cell 1
            have qw2 := xbw.cell 2
            have qw3 := xbw.cell 3
            simp only [List.getElem?_toArray, List.getElem?_cons_zero, List.getElem?_cons_succ] at qw0 qw1 qw2 qw3
            clear xbw
            go_wp2_with fail
            go_ret
            exact ⟨rfl, HM15.out.bel⟩
          · have htt : tq = ⟨3, PS, ⟨#[]⟩, ⟨#[104, 116, 116, 112, 58, 47, 47, 119, 119, 119, 46, 119, 51, 46, 111, 114, 103, 47, 50, 48, 48, 49, 47, 88, 77, 76, 83, 99, 104, 101, 109, 97, 35, 100, 101, 99, 105, 109, 97, 108]⟩⟩ := by
              obtain ⟨h1, h2⟩ := HQ2.out
              rw [h1, h2, show (if a.tl = b.tl then a.tl else xDecL) = xDecL from if_neg (fun h => absurd ((ha2.symm.trans h).trans hb2) (by decide))]
              rfl
            clear HQ2 HF HALL
            subst htt
            have ha3 : a.t.toList = [104, 116, 116, 112, 58, 47, 47, 119, 119, 119, 46, 119, 51, 46, 111, 114, 103, 47, 50, 48, 48, 49, 47, 88, 77, 76, 83, 99, 104, 101, 109, 97, 35, 105, 110, 116, 101, 103, 101, 114] := by rw [Lib.toList_data]; exact ha2
            have hb3 : b.t.toList = [104, 116, 116, 112, 58, 47, 47, 119, 119, 119, 46, 119, 51, 46, 111, 114, 103, 47, 50, 48, 48, 49, 47, 88, 77, 76, 83, 99, 104, 101, 109, 97, 35, 100, 101, 99, 105, 109, 97, 108] := by rw [Lib.toList_data]; exact hb2
            have hb4 : (b.t.toList == [104, 116, 116, 112, 58, 47, 47, 119, 119, 119, 46, 119, 51, 46, 111, 114, 103, 47, 50, 48, 48, 49, 47, 88, 77, 76, 83, 99, 104, 101, 109, 97, 35, 105, 110, 116, 101, 103, 101, 114]) = false := by rw [hb3]; decide
            clear ha2 hb2
            go_upto_region 24 with fail
            clear qa3 qb3
            have HM15 : Hid (Mem w [(gw, #[.int .i64 3, .string PS, .string ⟨#[]⟩, .string ⟨#[104, 116, 116, 112, 58, 47, 47, 119, 119, 119, 46, 119, 51, 46, 111, 114, 103, 47, 50, 48, 48, 49, 47, 88, 77, 76, 83, 99, 104, 101, 109, 97, 35, 100, 101, 99, 105, 109, 97, 108]⟩], 25), (gd, #[.int .i64 d1, .int .i64 d2], 44), (gt, #[.int .i64 3, .string PS, .string ⟨#[]⟩, .string ⟨#[104, 116, 116, 112, 58, 47, 47, 119, 119, 119, 46, 119, 51, 46, 111, 114, 103, 47, 50, 48, 48, 49, 47, 88, 77, 76, 83, 99, 104, 101, 109, 97, 35, 100, 101, 99, 105, 109, 97, 108]⟩], 25), (gy, #[.int .i64 y1, .int .i64 y2], 44), (gx, #[.int .i64 x1, .int .i64 x2], 44), (g + 1, #[.int .i64 b.k, .string b.s, .string b.l, .string b.t], 25), (g, #[.int .i64 a.k, .string a.s, .string a.l, .string a.t], 25)] v14) := HM14
            have hq0 : ∀ w, (Op.equalIn 10000 25 (.agg #[.int .i64 3, .string PS, .string ⟨#[]⟩, .string ⟨#[104, 116, 116, 112, 58, 47, 47, 119, 119, 119, 46, 119, 51, 46, 111, 114, 103, 47, 50, 48, 48, 49, 47, 88, 77, 76, 83, 99, 104, 101, 109, 97, 35, 100, 101, 99, 105, 109, 97, 108]⟩]) (.agg #[.int .i64 3, .string PS, .string ⟨#[]⟩, .string ⟨#[104, 116, 116, 112, 58, 47, 47, 119, 119, 119, 46, 119, 51, 46, 111, 114, 103, 47, 50, 48, 48, 49, 47, 88, 77, 76, 83, 99, 104, 101, 109, 97, 35, 100, 101, 99, 105, 109, 97, 108]⟩])).run Tryz.prog w = .ok true w := fun w => (equal_bool ⟨3, PS, ⟨#[]⟩, ⟨#[104, 116, 116, 112, 58, 47, 47, 119, 119, 119, 46, 119, 51, 46, 111, 114, 103, 47, 50, 48, 48, 49, 47, 88, 77, 76, 83, 99, 104, 101, 109, 97, 35, 100, 101, 99, 105, 109, 97, 108]⟩⟩ ⟨3, PS, ⟨#[]⟩, ⟨#[104, 116, 116, 112, 58, 47, 47, 119, 119, 119, 46, 119, 51, 46, 111, 114, 103, 47, 50, 48, 48, 49, 47, 88, 77, 76, 83, 99, 104, 101, 109, 97, 35, 100, 101, 99, 105, 109, 97, 108]⟩⟩ w).trans (by rw [tmEq_self])
            have xbt := HM15.out.at_ 2 rfl
            have qt0 := xbt.cell 0
            have qt1 := xbt.cell 1
            have qt2 := xbt.cell 2
            have qt3 := xbt.cell 3
            simp only [List.getElem?_toArray, List.getElem?_cons_zero, List.getElem?_cons_succ] at qt0 qt1 qt2 qt3
            clear xbt
            have xbw := HM15.out.at_ 0 rfl
            have qw0 := xbw.cell 0
            have qw1 := xbw.cell 1
            have qw2 := xbw.cell 2
            have qw3 := xbw.cell 3
            simp only [List.getElem?_toArray, List.getElem?_cons_zero, List.getElem?_cons_succ] at qw0 qw1 qw2 qw3
            clear xbw
            go_wp2_with fail
            go_ret
            exact ⟨rfl, HM15.out.bel⟩
          · have htt : tq = ⟨3, PS, ⟨#[]⟩, ⟨#[104, 116, 116, 112, 58, 47, 47, 119, 119, 119, 46, 119, 51, 46, 111, 114, 103, 47, 50, 48, 48, 49, 47, 88, 77, 76, 83, 99, 104, 101, 109, 97, 35, 100, 101, 99, 105, 109, 97, 108]⟩⟩ := by
              obtain ⟨h1, h2⟩ := HQ2.out
              rw [h1, h2, show (if a.tl = b.tl then a.tl else xDecL) = xDecL from if_neg (fun h => absurd ((ha2.symm.trans h).trans hb2) (by decide))]
              rfl
            clear HQ2 HF HALL
            subst htt
            have ha3 : a.t.toList = [104, 116, 116, 112, 58, 47, 47, 119, 119, 119, 46, 119, 51, 46, 111, 114, 103, 47, 50, 48, 48, 49, 47, 88, 77, 76, 83, 99, 104, 101, 109, 97, 35, 100, 101, 99, 105, 109, 97, 108] := by rw [Lib.toList_data]; exact ha2
            have hb3 : b.t.toList = [104, 116, 116, 112, 58, 47, 47, 119, 119, 119, 46, 119, 51, 46, 111, 114, 103, 47, 50, 48, 48, 49, 47, 88, 77, 76, 83, 99, 104, 101, 109, 97, 35, 105, 110, 116, 101, 103, 101, 114] := by rw [Lib.toList_data]; exact hb2
            have ha4 : (a.t.toList == [104, 116, 116, 112, 58, 47, 47, 119, 119, 119, 46, 119, 51, 46, 111, 114, 103, 47, 50, 48, 48, 49, 47, 88, 77, 76, 83, 99, 104, 101, 109, 97, 35, 105, 110, 116, 101, 103, 101, 114]) = false := by rw [ha3]; decide
            clear ha2 hb2
            go_upto_region 24 with fail
            clear qa3 qb3
            have HM15 : Hid (Mem w [(gw, #[.int .i64 3, .string PS, .string ⟨#[]⟩, .string ⟨#[104, 116, 116, 112, 58, 47, 47, 119, 119, 119, 46, 119, 51, 46, 111, 114, 103, 47, 50, 48, 48, 49, 47, 88, 77, 76, 83, 99, 104, 101, 109, 97, 35, 100, 101, 99, 105, 109, 97, 108]⟩], 25), (gd, #[.int .i64 d1, .int .i64 d2], 44), (gt, #[.int .i64 3, .string PS, .string ⟨#[]⟩, .string ⟨#[104, 116, 116, 112, 58, 47, 47, 119, 119, 119, 46, 119, 51, 46, 111, 114, 103, 47, 50, 48, 48, 49, 47, 88, 77, 76, 83, 99, 104, 101, 109, 97, 35, 100, 101, 99, 105, 109, 97, 108]⟩], 25), (gy, #[.int .i64 y1, .int .i64 y2], 44), (gx, #[.int .i64 x1, .int .i64 x2], 44), (g + 1, #[.int .i64 b.k, .string b.s, .string b.l, .string b.t], 25), (g, #[.int .i64 a.k, .string a.s, .string a.l, .string a.t], 25)] v14) := HM14
            have hq0 : ∀ w, (Op.equalIn 10000 25 (.agg #[.int .i64 3, .string PS, .string ⟨#[]⟩, .string ⟨#[104, 116, 116, 112, 58, 47, 47, 119, 119, 119, 46, 119, 51, 46, 111, 114, 103, 47, 50, 48, 48, 49, 47, 88, 77, 76, 83, 99, 104, 101, 109, 97, 35, 100, 101, 99, 105, 109, 97, 108]⟩]) (.agg #[.int .i64 3, .string PS, .string ⟨#[]⟩, .string ⟨#[104, 116, 116, 112, 58, 47, 47, 119, 119, 119, 46, 119, 51, 46, 111, 114, 103, 47, 50, 48, 48, 49, 47, 88, 77, 76, 83, 99, 104, 101, 109, 97, 35, 100, 101, 99, 105, 109, 97, 108]⟩])).run Tryz.prog w = .ok true w := fun w => (equal_bool ⟨3, PS, ⟨#[]⟩, ⟨#[104, 116, 116, 112, 58, 47, 47, 119, 119, 119, 46, 119, 51, 46, 111, 114, 103, 47, 50, 48, 48, 49, 47, 88, 77, 76, 83, 99, 104, 101, 109, 97, 35, 100, 101, 99, 105, 109, 97, 108]⟩⟩ ⟨3, PS, ⟨#[]⟩, ⟨#[104, 116, 116, 112, 58, 47, 47, 119, 119, 119, 46, 119, 51, 46, 111, 114, 103, 47, 50, 48, 48, 49, 47, 88, 77, 76, 83, 99, 104, 101, 109, 97, 35, 100, 101, 99, 105, 109, 97, 108]⟩⟩ w).trans (by rw [tmEq_self])
            have xbt := HM15.out.at_ 2 rfl
            have qt0 := xbt.cell 0
            have qt1 := xbt.cell 1
            have qt2 := xbt.cell 2
            have qt3 := xbt.cell 3
            simp only [List.getElem?_toArray, List.getElem?_cons_zero, List.getElem?_cons_succ] at qt0 qt1 qt2 qt3
            clear xbt
            have xbw := HM15.out.at_ 0 rfl
            have qw0 := xbw.cell 0
            have qw1 := xbw.cell 1
            have qw2 := xbw.cell 2
            have qw3 := xbw.cell 3
            simp only [List.getElem?_toArray, List.getElem?_cons_zero, List.getElem?_cons_succ] at qw0 qw1 qw2 qw3
            clear xbw
            go_wp2_with fail
            go_ret
            exact ⟨rfl, HM15.out.bel⟩
          · have htt : tq = ⟨3, PS, ⟨#[]⟩, ⟨#[104, 116, 116, 112, 58, 47, 47, 119, 119, 119, 46, 119, 51, 46, 111, 114, 103, 47, 50, 48, 48, 49, 47, 88, 77, 76, 83, 99, 104, 101, 109, 97, 35, 100, 101, 99, 105, 109, 97, 108]⟩⟩ := by
              obtain ⟨h1, h2⟩ := HQ2.out
              rw [h1, h2, show (if a.tl = b.tl then a.tl else xDecL) = xDecL from (if_pos (ha2.trans hb2.symm)).trans ha2]
              rfl
            clear HQ2 HF HALL
            subst htt
            have ha3 : a.t.toList = [104, 116, 116, 112, 58, 47, 47, 119, 119, 119, 46, 119, 51, 46, 111, 114, 103, 47, 50, 48, 48, 49, 47, 88, 77, 76, 83, 99, 104, 101, 109, 97, 35, 100, 101, 99, 105, 109, 97, 108] := by rw [Lib.toList_data]; exact ha2
            have hb3 : b.t.toList = [104, 116, 116, 112, 58, 47, 47, 119, 119, 119, 46, 119, 51, 46, 111, 114, 103, 47, 50, 48, 48, 49, 47, 88, 77, 76, 83, 99, 104, 101, 109, 97, 35, 100, 101, 99, 105, 109, 97, 108] := by rw [Lib.toList_data]; exact hb2
            have ha4 : (a.t.toList == [104, 116, 116, 112, 58, 47, 47, 119, 119, 119, 46, 119, 51, 46, 111, 114, 103, 47, 50, 48, 48, 49, 47, 88, 77, 76, 83, 99, 104, 101, 109, 97, 35, 105, 110, 116, 101, 103, 101, 114]) = false := by rw [ha3]; decide
            have hb4 : (b.t.toList == [104, 116, 116, 112, 58, 47, 47, 119, 119, 119, 46, 119, 51, 46, 111, 114, 103, 47, 50, 48, 48, 49, 47, 88, 77, 76, 83, 99, 104, 101, 109, 97, 35, 105, 110, 116, 101, 103, 101, 114]) = false := by rw [hb3]; decide
            clear ha2 hb2
            go_upto_region 24 with fail
            clear qa3 qb3
            have HM15 : Hid (Mem w [(gw, #[.int .i64 3, .string PS, .string ⟨#[]⟩, .string ⟨#[104, 116, 116, 112, 58, 47, 47, 119, 119, 119, 46, 119, 51, 46, 111, 114, 103, 47, 50, 48, 48, 49, 47, 88, 77, 76, 83, 99, 104, 101, 109, 97, 35, 100, 101, 99, 105, 109, 97, 108]⟩], 25), (gd, #[.int .i64 d1, .int .i64 d2], 44), (gt, #[.int .i64 3, .string PS, .string ⟨#[]⟩, .string ⟨#[104, 116, 116, 112, 58, 47, 47, 119, 119, 119, 46, 119, 51, 46, 111, 114, 103, 47, 50, 48, 48, 49, 47, 88, 77, 76, 83, 99, 104, 101, 109, 97, 35, 100, 101, 99, 105, 109, 97, 108]⟩], 25), (gy, #[.int .i64 y1, .int .i64 y2], 44), (gx, #[.int .i64 x1, .int .i64 x2], 44), (g + 1, #[.int .i64 b.k, .string b.s, .string b.l, .string b.t], 25), (g, #[.int .i64 a.k, .string a.s, .string a.l, .string a.t], 25)] v14) := HM14
            have hq0 : ∀ w, (Op.equalIn 10000 25 (.agg #[.int .i64 3, .string PS, .string ⟨#[]⟩, .string ⟨#[104, 116, 116, 112, 58, 47, 47, 119, 119, 119, 46, 119, 51, 46, 111, 114, 103, 47, 50, 48, 48, 49, 47, 88, 77, 76, 83, 99, 104, 101, 109, 97, 35, 100, 101, 99, 105, 109, 97, 108]⟩]) (.agg #[.int .i64 3, .string PS, .string ⟨#[]⟩, .string ⟨#[104, 116, 116, 112, 58, 47, 47, 119, 119, 119, 46, 119, 51, 46, 111, 114, 103, 47, 50, 48, 48, 49, 47, 88, 77, 76, 83, 99, 104, 101, 109, 97, 35, 100, 101, 99, 105, 109, 97, 108]⟩])).run Tryz.prog w = .ok true w := fun w => (equal_bool ⟨3, PS, ⟨#[]⟩, ⟨#[104, 116, 116, 112, 58, 47, 47, 119, 119, 119, 46, 119, 51, 46, 111, 114, 103, 47, 50, 48, 48, 49, 47, 88, 77, 76, 83, 99, 104, 101, 109, 97, 35, 100, 101, 99, 105, 109, 97, 108]⟩⟩ ⟨3, PS, ⟨#[]⟩, ⟨#[104, 116, 116, 112, 58, 47, 47, 119, 119, 119, 46, 119, 51, 46, 111, 114, 103, 47, 50, 48, 48, 49, 47, 88, 77, 76, 83, 99, 104, 101, 109, 97, 35, 100, 101, 99, 105, 109, 97, 108]⟩⟩ w).trans (by rw [tmEq_self])
            have xbt := HM15.out.at_ 2 rfl
            have qt0 := xbt.cell 0
            have qt1 := xbt.cell 1
            have qt2 := xbt.cell 2
            have qt3 := xbt.cell 3
            simp only [List.getElem?_toArray, List.getElem?_cons_zero, List.getElem?_cons_succ] at qt0 qt1 qt2 qt3
            clear xbt
            have xbw := HM15.out.at_ 0 rfl
            have qw0 := xbw.cell 0
            have qw1 := xbw.cell 1
            have qw2 := xbw.cell 2
            have qw3 := xbw.cell 3
            simp only [List.getElem?_toArray, List.getElem?_cons_zero, List.getElem?_cons_succ] at qw0 qw1 qw2 qw3
            clear xbw
            go_wp2_with fail
            go_ret
            exact ⟨rfl, HM15.out.bel⟩
  · obtain ⟨a, ha⟩ : ∃ a, a = termT n := ⟨_, rfl⟩
    obtain ⟨b, hb⟩ : ∃ b, b = termT m := ⟨_, rfl⟩
    have sa : a.Sm := by rw [ha]; exact termT_sm n
    have sb : b.Sm := by rw [hb]; exact termT_sm m
    have ka : a.k ≠ 4 := by rw [ha]; exact termT_k n
    have kb : b.k ≠ 4 := by rw [hb]; exact termT_k m
    have HTA := Lib.hid (fun wz => term15_any n wz hn.1 hn.2)
    have HTB := Lib.hid (fun wz => term15_any m wz hm.1 hm.2)
    rw [← ha] at HTA
    rw [← hb] at HTB
    have HKN := Lib.hid (known15_any w hT.pow)
    have HU := Lib.hid (fun s t w => num15_any s t w)
    have HI : Hid (∀ wz, Calls Tryz.prog 14 #[.int .i64 op, .int .i64 3] wz fun e w' => e = .returned (.int .i64 2) ∧ wz = w') := Lib.hid (fun wz => by
      have h := within15_any op 3 wz (by decide) (by decide) ho.1 ho.2
      rw [hk] at h
      exact h)
    obtain ⟨x1, hx1⟩ : ∃ x, x = ((numO a).getD (0, 0)).1 := ⟨_, rfl⟩
    obtain ⟨x2, hx2⟩ : ∃ x, x = (((numO a).getD (0, 0)).2 : Int) := ⟨_, rfl⟩
    obtain ⟨pa, hpa⟩ : ∃ x, x = (numO a).isSome := ⟨_, rfl⟩
    have HNA := Lib.hid (fun wz => rnumber_any a sa wz)
    rw [decOV_form, ← hx1, ← hx2, ← hpa] at HNA
    obtain ⟨y1, hy1⟩ : ∃ x, x = ((numO b).getD (0, 0)).1 := ⟨_, rfl⟩
    obtain ⟨y2, hy2⟩ : ∃ x, x = (((numO b).getD (0, 0)).2 : Int) := ⟨_, rfl⟩
    obtain ⟨pb, hpb⟩ : ∃ x, x = (numO b).isSome := ⟨_, rfl⟩
    have HNB := Lib.hid (fun wz => rnumber_any b sb wz)
    rw [decOV_form, ← hy1, ← hy2, ← hpb] at HNB
    obtain ⟨tq, htq⟩ : ∃ x, x = (reckonO 13 a b).getD zeroT := ⟨_, rfl⟩
    obtain ⟨iq, hiq⟩ : ∃ x, x = (reckonO 13 a b).isSome := ⟨_, rfl⟩
    have HE : Hid (∀ z kv, Below w.heap.size w z → KidsP z.heap.size z 1 kv [ofT a, ofT b] → Calls Tryz.prog 11 #[.agg #[.int .i64 13, .int .i64 0, .string ⟨#[]⟩, .string ⟨#[]⟩, .string ⟨#[]⟩, kv], .slice none 0 0] z fun e' w' => e' = .returned (.tuple #[.agg #[.int .i64 tq.k, .string tq.s, .string tq.l, .string tq.t], .bool iq]) ∧ Below z.heap.size z w') := Lib.hid (fun z kv hz hkv => by
      refine (eval_any 1 (.mk 13 zeroT [ofT a, ofT b]) kv (.slice none 0 0) [] z hkv (show opIn 13 from by unfold opIn; decide) zeroT_sm (sol_nil _ _) (by decide) (fun w1 h1 => (hT.below hz).below h1)).mono ?_
      rintro e' w' ⟨rfl, hbb, -⟩
      rw [sums_eval 13 (by decide) a b ka kb, ← htq, ← hiq]
      exact ⟨rfl, hbb⟩)
    have HKK := Lib.hid (fun v => kids_two v a b sa sb 28)
    have HALL := Lib.hid (And.intro (And.intro hx1 (And.intro hx2 hpa)) (And.intro (And.intro hy1 (And.intro hy2 hpb)) (And.intro htq hiq)))
    clear hk hx1 hx2 hpa hy1 hy2 hpb htq hiq ha hb sa sb ka kb hn hm ho
    have HTT := Lib.hid hT
    clear hT
    unfold Tm.val at HTA HTB HNA HNB
    go_enter Tryz.func5, Tryz.ntmps5
    go_wp2_with fail
    refine HKN.out.mono ?_
    rintro e w1 ⟨rfl, hb1⟩
    have HB1 := Lib.hid hb1
    clear hb1
    go_wp2_with fail
    refine (HTA.out _).mono ?_
    rintro e w2 ⟨rfl, hb2⟩
    have HB2 := Lib.hid (HB1.out.trans (hb2.mono HB1.out.size))
    clear hb2
    go_wp2_with fail
    refine (HTB.out _).mono ?_
    rintro e w3 ⟨rfl, hb3⟩
    have HB3 := Lib.hid (HB2.out.trans (hb3.mono HB2.out.size))
    clear hb3
    go_upto_region 4 with fail
    have hmm := ((Mem.nil HB3.out).alloc w3.heap.size rfl #[.int .i64 a.k, .string a.s, .string a.l, .string a.t] 25).alloc (w3.heap.size + 1) (by simp) #[.int .i64 b.k, .string b.s, .string b.l, .string b.t] 25
    generalize World.alloc (World.alloc w3 _) _ = v1 at hmm ⊢
    generalize w3.heap.size = g at hmm ⊢
    have HM1 := Lib.hid hmm
    clear hmm
    have xba := HM1.out.at_ 1 rfl
    have qa0 := xba.cell 0
    have qa1 := xba.cell 1
    have qa2 := xba.cell 2
    have qa3 := xba.cell 3
    simp only [List.getElem?_toArray, List.getElem?_cons_zero, List.getElem?_cons_succ] at qa0 qa1 qa2 qa3
    clear xba
    go_wp2_with fail
    refine (HNA.out _).mono ?_
    rintro e v2 ⟨rfl, hbb⟩
    have HM2 := Lib.hid (HM1.out.below hbb)
    clear hbb
    clear qa0 qa1 qa2 qa3
    go_upto_region 5 with fail
    have hmm := HM2.out.alloc v2.heap.size rfl #[.int .i64 x1, .int .i64 x2] 44
    generalize World.alloc v2 _ = v3 at hmm ⊢
    generalize v2.heap.size = gx at hmm ⊢
    have HM3 := Lib.hid hmm
    clear hmm
    have xbb := HM3.out.at_ 1 rfl
    have qb0 := xbb.cell 0
    have qb1 := xbb.cell 1
    have qb2 := xbb.cell 2
    have qb3 := xbb.cell 3
    simp only [List.getElem?_toArray, List.getElem?_cons_zero, List.getElem?_cons_succ] at qb0 qb1 qb2 qb3
    clear xbb
    go_wp2_with fail
    refine (HNB.out _).mono ?_
    rintro e v4 ⟨rfl, hbb⟩
    have HM4 := Lib.hid (HM3.out.below hbb)
    clear hbb
    clear qb0 qb1 qb2 qb3
    go_upto_region 6 with fail
    have hmm := HM4.out.alloc v4.heap.size rfl #[.int .i64 y1, .int .i64 y2] 44
    generalize World.alloc v4 _ = v5 at hmm ⊢
    generalize v4.heap.size = gy at hmm ⊢
    have HM5 := Lib.hid hmm
    clear hmm
    go_wp2_with fail
    refine (HI.out _).mono ?_
    rintro e wz ⟨rfl, rfl⟩
    have xba := HM5.out.at_ 3 rfl
    have qa0 := xba.cell 0
    have qa1 := xba.cell 1
    have qa2 := xba.cell 2
    have qa3 := xba.cell 3
    simp only [List.getElem?_toArray, List.getElem?_cons_zero, List.getElem?_cons_succ] at qa0 qa1 qa2 qa3
    clear xba
    have xbb := HM5.out.at_ 2 rfl
    have qb0 := xbb.cell 0
    have qb1 := xbb.cell 1
    have qb2 := xbb.cell 2
    have qb3 := xbb.cell 3
    simp only [List.getElem?_toArray, List.getElem?_cons_zero, List.getElem?_cons_succ] at qb0 qb1 qb2 qb3
    clear xbb
    go_wp2_with fail
    have hkk := HKK.out v5
    have hmm := HM5.out.below ((Below.refl _ _).alloc (Nat.le_refl _) (.cells #[.int .i64 1, .int .i64 a.k, .string a.s, .string a.l, .string a.t, .slice none 0 0, .int .i64 1, .int .i64 b.k, .string b.s, .string b.l, .string b.t, .slice none 0 0] 28))
    generalize World.alloc v5 _ = v6 at hkk hmm ⊢
    have HM6 := Lib.hid hmm
    clear hmm
    refine (HE.out _ _ HM6.out.bel hkk).mono ?_
    rintro e v7 ⟨rfl, hbb⟩
    have HM7 := Lib.hid (HM6.out.below hbb)
    clear hbb hkk
    clear qa0 qa1 qa2 qa3 qb0 qb1 qb2 qb3
    go_upto_region 8 with fail
    have hmm := HM7.out.alloc v7.heap.size rfl #[.int .i64 tq.k, .string tq.s, .string tq.l, .string tq.t] 25
    generalize World.alloc v7 _ = v8 at hmm ⊢
    generalize v7.heap.size = gt at hmm ⊢
    have HM8 := Lib.hid hmm
    clear hmm
    cases pa
    · obtain ⟨⟨-, -, hpa⟩, ⟨-, -, hpb⟩, htq, hiq⟩ := HALL.out
      rw [reckon_none (.inl hpa.symm)] at htq hiq
      subst htq
      subst hiq
      clear hpa hpb
      have HM9 : Hid (Mem w [(gt, #[.int .i64 0, .string ⟨#[]⟩, .string ⟨#[]⟩, .string ⟨#[]⟩], 25), (gy, #[.int .i64 y1, .int .i64 y2], 44), (gx, #[.int .i64 x1, .int .i64 x2], 44), (g + 1, #[.int .i64 b.k, .string b.s, .string b.l, .string b.t], 25), (g, #[.int .i64 a.k, .string a.s, .string a.l, .string a.t], 25)] v8) := HM8
      clear HM8
      have xbt := HM9.out.at_ 0 rfl
      have qt0 := xbt.cell 0
      have qt1 := xbt.cell 1
      have qt2 := xbt.cell 2
      have qt3 := xbt.cell 3
      simp only [List.getElem?_toArray, List.getElem?_cons_zero, List.getElem?_cons_succ] at qt0 qt1 qt2 qt3
      clear xbt
      have hq0 : ∀ w, (Op.equalIn 10000 25 (.agg #[.int .i64 0, .string ⟨#[]⟩, .string ⟨#[]⟩, .string ⟨#[]⟩]) (.agg #[.int .i64 0, .string ⟨#[]⟩, .string ⟨#[]⟩, .string ⟨#[]⟩])).run Tryz.prog w = .ok true w := fun w => equal_bool zeroT zeroT w
      have hif : (none : Option Tm).isSome = false := rfl
      go_wp2_with fail
      go_ret
      exact ⟨rfl, HM9.out.bel⟩
    · cases pb
      · obtain ⟨⟨-, -, hpa⟩, ⟨-, -, hpb⟩, htq, hiq⟩ := HALL.out
        rw [reckon_none (.inr hpb.symm)] at htq hiq
        subst htq
        subst hiq
        clear hpa hpb
        have HM9 : Hid (Mem w [(gt, #[.int .i64 0, .string ⟨#[]⟩, .string ⟨#[]⟩, .string ⟨#[]⟩], 25), (gy, #[.int .i64 y1, .int .i64 y2], 44), (gx, #[.int .i64 x1, .int .i64 x2], 44), (g + 1, #[.int .i64 b.k, .string b.s, .string b.l, .string b.t], 25), (g, #[.int .i64 a.k, .string a.s, .string a.l, .string a.t], 25)] v8) := HM8
        clear HM8
        have xbt := HM9.out.at_ 0 rfl
        have qt0 := xbt.cell 0
        have qt1 := xbt.cell 1
        have qt2 := xbt.cell 2
        have qt3 := xbt.cell 3
        simp only [List.getElem?_toArray, List.getElem?_cons_zero, List.getElem?_cons_succ] at qt0 qt1 qt2 qt3
        clear xbt
        have hq0 : ∀ w, (Op.equalIn 10000 25 (.agg #[.int .i64 0, .string ⟨#[]⟩, .string ⟨#[]⟩, .string ⟨#[]⟩]) (.agg #[.int .i64 0, .string ⟨#[]⟩, .string ⟨#[]⟩, .string ⟨#[]⟩])).run Tryz.prog w = .ok true w := fun w => equal_bool zeroT zeroT w
        have hif : (none : Option Tm).isSome = false := rfl
        go_wp2_with fail
        go_ret
        exact ⟨rfl, HM9.out.bel⟩
      · obtain ⟨⟨hx1, hx2, hpa⟩, ⟨hy1, hy2, hpb⟩, htq, hiq⟩ := HALL.out
        obtain ⟨p, hp⟩ := Option.isSome_iff_exists.1 hpa.symm
        obtain ⟨r, hr⟩ := Option.isSome_iff_exists.1 hpb.symm
        rw [hp] at hx1 hx2
        rw [hr] at hy1 hy2
        have hx1' : x1 = p.1 := hx1
        have hx2' : x2 = (p.2 : Int) := hx2
        have hy1' : y1 = r.1 := hy1
        have hy2' : y2 = (r.2 : Int) := hy2
        obtain ⟨fi, hfi⟩ : ∃ f, f = fitsL (sumP 13 p r) := ⟨_, rfl⟩
        obtain ⟨d1, hd1⟩ : ∃ d : Int, d = if fitsL (sumP 13 p r) then (sumP 13 p r).1 else 0 := ⟨_, rfl⟩
        obtain ⟨d2, hd2⟩ : ∃ d : Int, d = if fitsL (sumP 13 p r) then ((sumP 13 p r).2 : Int) else 0 := ⟨_, rfl⟩
        have hreck : reckonO 13 a b = if fi then some (numeralT (sumP 13 p r) (if a.tl = b.tl then a.tl else xDecL)) else none := by
          unfold reckonO
          rw [hp, hr, hfi]
        rw [hreck] at htq hiq
        have HADD : Hid (∀ wz, Calls Tryz.prog 20 #[.agg #[.int .i64 x1, .int .i64 x2], .agg #[.int .i64 y1, .int .i64 y2]] wz fun e w' => e = .returned (.tuple #[.agg #[.int .i64 d1, .int .i64 d2], .bool fi]) ∧ Below wz.heap.size wz w') := Lib.hid (fun wz => by
          have h := rmul_any wz p.1 (p.2 : Int) r.1 (r.2 : Int) (num_goodD hp) (num_goodD hr)
          rw [hd1, hd2, hfi, ← decP_form, hx1', hx2', hy1', hy2']
          exact h)
        have HF := Lib.hid (And.intro hfi (And.intro hd1 (And.intro hd2 (And.intro htq (And.intro hiq (And.intro (num_type hp) (num_type hr)))))))
        clear hx1 hx2 hpa hy1 hy2 hpb htq hiq hp hr hx1' hx2' hy1' hy2' hfi hd1 hd2 hreck
        go_upto_region 12 with fail
        have hmm := HM8.out.alloc v8.heap.size rfl #[.int .i64 0, .int .i64 0] 44
        generalize World.alloc v8 _ = v9 at hmm ⊢
        generalize v8.heap.size = gd at hmm ⊢
        have HM9 := Lib.hid hmm
        clear hmm
        have xbx := HM9.out.at_ 3 rfl
        have qx0 := xbx.cell 0
        have qx1 := xbx.cell 1
        simp only [List.getElem?_toArray, List.getElem?_cons_zero, List.getElem?_cons_succ] at qx0 qx1
        clear xbx
        have xby := HM9.out.at_ 2 rfl
        have qy0 := xby.cell 0
        have qy1 := xby.cell 1
        simp only [List.getElem?_toArray, List.getElem?_cons_zero, List.getElem?_cons_succ] at qy0 qy1
        clear xby
        go_wp2_with fail
        refine (HADD.out _).mono ?_
        rintro e v10 ⟨rfl, hbb⟩
        have HM10 := Lib.hid (HM9.out.below hbb)
        clear hbb
        clear qx0 qx1 qy0 qy1
        have xbd := HM10.out.at_ 0 rfl
        have qd0 := xbd.cell 0
        have qd1 := xbd.cell 1
        simp only [List.getElem?_toArray, List.getElem?_cons_zero, List.getElem?_cons_succ] at qd0 qd1
        have qdf0 := xbd.frozen 0
        have qdf1 := xbd.frozen 1
        clear xbd
        go_upto_region 19 with fail
        have hmm : Mem w [(gd, #[.int .i64 d1, .int .i64 d2], 44), (gt, #[.int .i64 tq.k, .string tq.s, .string tq.l, .string tq.t], 25), (gy, #[.int .i64 y1, .int .i64 y2], 44), (gx, #[.int .i64 x1, .int .i64 x2], 44), (g + 1, #[.int .i64 b.k, .string b.s, .string b.l, .string b.t], 25), (g, #[.int .i64 a.k, .string a.s, .string a.l, .string a.t], 25)] _ := (HM10.out.set 0 (.int .i64 d1)).set 1 (.int .i64 d2)
        generalize World.setCell (World.setCell v10 _ _) _ _ = v11 at hmm ⊢
        have HM11 := Lib.hid hmm
        clear hmm
        clear qd0 qd1
        clear qdf0 qdf1
        cases fi
        · obtain ⟨hfi, -, -, htq, hiq, -⟩ := HF.out
          have hiq' : iq = false := hiq
          subst hiq'
          clear hfi htq hiq
          go_wp2_with fail
          go_ret
          exact ⟨rfl, HM11.out.bel⟩
        · obtain ⟨hfi, hd1, hd2, htq, hiq, hta, htb⟩ := HF.out
          have hiq' : iq = true := hiq
          subst hiq'
          rw [if_pos hfi.symm] at hd1 hd2
          have hG := sum_good hfi.symm
          obtain ⟨PS, hPS⟩ : ∃ s : ByteArray, s = ⟨(printF (sumP 13 p r).1 (sumP 13 p r).2).toArray⟩ := ⟨_, rfl⟩
          have HPR : Hid (∀ wz, Calls Tryz.prog 21 #[.agg #[.int .i64 d1, .int .i64 d2]] wz fun e w' => e = .returned (.string PS) ∧ Below wz.heap.size wz w') := Lib.hid (fun wz => by
            rw [hPS, hd1, hd2, printF_eq _ _ (by have := hG.1; have := hG.2.1; omega)]
            exact rprint_any _ _ wz hG)
          have hta' : a.t.data.toList = xIntL ∨ a.t.data.toList = xDecL := hta
          have htb' : b.t.data.toList = xIntL ∨ b.t.data.toList = xDecL := htb
          have htq' : tq = numeralT (sumP 13 p r) (if a.tl = b.tl then a.tl else xDecL) := htq
          have HQ2 := Lib.hid (And.intro htq' hPS)
          clear hd1 hd2 hG hfi hiq htq htq' hPS hta htb
          have xbd := HM11.out.at_ 0 rfl
          have qd0 := xbd.cell 0
          have qd1 := xbd.cell 1
          simp only [List.getElem?_toArray, List.getElem?_cons_zero, List.getElem?_cons_succ] at qd0 qd1
          clear xbd
          go_wp2_with fail
          refine (HPR.out _).mono ?_
          rintro e v12 ⟨rfl, hbb⟩
          have HM12 := Lib.hid (HM11.out.below hbb)
          clear hbb
          clear qd0 qd1
          go_wp2_with fail
          refine (HU.out _ _ _).mono ?_
          rintro e v13 ⟨rfl, hbb⟩
          have HM13 := Lib.hid (HM12.out.below hbb)
          clear hbb
          go_upto_region 22 with fail
          have hmm := HM13.out.alloc v13.heap.size rfl #[.int .i64 3, .string PS, .string ⟨#[]⟩, .string ⟨#[104, 116, 116, 112, 58, 47, 47, 119, 119, 119, 46, 119, 51, 46, 111, 114, 103, 47, 50, 48, 48, 49, 47, 88, 77, 76, 83, 99, 104, 101, 109, 97, 35, 100, 101, 99, 105, 109, 97, 108]⟩] 25
          generalize World.alloc v13 _ = v14 at hmm ⊢
          generalize v13.heap.size = gw at hmm ⊢
          have HM14 := Lib.hid hmm
          clear hmm
          have xba := HM14.out.at_ 6 rfl
          have qa3 := xba.cell 3
          simp only [List.getElem?_toArray, List.getElem?_cons_zero, List.getElem?_cons_succ] at qa3
          clear xba
          have xbb := HM14.out.at_ 5 rfl
          have qb3 := xbb.cell 3
          simp only [List.getElem?_toArray, List.getElem?_cons_zero, List.getElem?_cons_succ] at qb3
          clear xbb
          rcases hta' with ha2 | ha2 <;> rcases htb' with hb2 | hb2
          · have htt : tq = ⟨3, PS, ⟨#[]⟩, ⟨#[104, 116, 116, 112, 58, 47, 47, 119, 119, 119, 46, 119, 51, 46, 111, 114, 103, 47, 50, 48, 48, 49, 47, 88, 77, 76, 83, 99, 104, 101, 109, 97, 35, 105, 110, 116, 101, 103, 101, 114]⟩⟩ := by
              obtain ⟨h1, h2⟩ := HQ2.out
              rw [h1, h2, show (if a.tl = b.tl then a.tl else xDecL) = xIntL from (if_pos (ha2.trans hb2.symm)).trans ha2]
              rfl
            clear HQ2 HF HALL
            subst htt
            have ha3 : a.t.toList = [104, 116, 116, 112, 58, 47, 47, 119, 119, 119, 46, 119, 51, 46, 111, 114, 103, 47, 50, 48, 48, 49, 47, 88, 77, 76, 83, 99, 104, 101, 109, 97, 35, 105, 110, 116, 101, 103, 101, 114] := by rw [Lib.toList_data]; exact ha2
            have hb3 : b.t.toList = [104, 116, 116, 112, 58, 47, 47, 119, 119, 119, 46, 119, 51, 46, 111, 114, 103, 47, 50, 48, 48, 49, 47, 88, 77, 76, 83, 99, 104, 101, 109, 97, 35, 105, 110, 116, 101, 103, 101, 114] := by rw [Lib.toList_data]; exact hb2
            clear ha2 hb2
            go_upto_region 23 with fail
            have xbw := HM14.out.at_ 0 rfl
            have qw3 := xbw.cell 3
            simp only [List.getElem?_toArray, List.getElem?_cons_zero, List.getElem?_cons_succ] at qw3
            have qwf3 := xbw.frozen 3
            clear xbw
            go_upto_region 24 with fail
            clear qa3 qb3 qw3 qwf3 ha3 hb3
            have hmm : Mem w [(gw, #[.int .i64 3, .string PS, .string ⟨#[]⟩, .string ⟨#[104, 116, 116, 112, 58, 47, 47, 119, 119, 119, 46, 119, 51, 46, 111, 114, 103, 47, 50, 48, 48, 49, 47, 88, 77, 76, 83, 99, 104, 101, 109, 97, 35, 105, 110, 116, 101, 103, 101, 114]⟩], 25), (gd, #[.int .i64 d1, .int .i64 d2], 44), (gt, #[.int .i64 3, .string PS, .string ⟨#[]⟩, .string ⟨#[104, 116, 116, 112, 58, 47, 47, 119, 119, 119, 46, 119, 51, 46, 111, 114, 103, 47, 50, 48, 48, 49, 47, 88, 77, 76, 83, 99, 104, 101, 109, 97, 35, 105, 110, 116, 101, 103, 101, 114]⟩], 25), (gy, #[.int .i64 y1, .int .i64 y2], 44), (gx, #[.int .i64 x1, .int .i64 x2], 44), (g + 1, #[.int .i64 b.k, .string b.s, .string b.l, .string b.t], 25), (g, #[.int .i64 a.k, .string a.s, .string a.l, .string a.t], 25)] _ := HM14.out.set 3 (.string ⟨#[104, 116, 116, 112, 58, 47, 47, 119, 119, 119, 46, 119, 51, 46, 111, 114, 103, 47, 50, 48, 48, 49, 47, 88, 77, 76, 83, 99, 104, 101, 109, 97, 35, 105, 110, 116, 101, 103, 101, 114]⟩)
            generalize World.setCell v14 _ _ = v15 at hmm ⊢
            have HM15 := Lib.hid hmm
            clear hmm
            have hq0 : ∀ w, (Op.equalIn 10000 25 (.agg #[.int .i64 3, .string PS, .string ⟨#[]⟩, .string ⟨#[104, 116, 116, 112, 58, 47, 47, 119, 119, 119, 46, 119, 51, 46, 111, 114, 103, 47, 50, 48, 48, 49, 47, 88, 77, 76, 83, 99, 104, 101, 109, 97, 35, 105, 110, 116, 101, 103, 101, 114]⟩]) (.agg #[.int .i64 3, .string PS, .string ⟨#[]⟩, .string ⟨#[104, 116, 116, 112, 58, 47, 47, 119, 119, 119, 46, 119, 51, 46, 111, 114, 103, 47, 50, 48, 48, 49, 47, 88, 77, 76, 83, 99, 104, 101, 109, 97, 35, 105, 110, 116, 101, 103, 101, 114]⟩])).run Tryz.prog w = .ok true w := fun w => (equal_bool ⟨3, PS, ⟨#[]⟩, ⟨#[104, 116, 116, 112, 58, 47, 47, 119, 119, 119, 46, 119, 51, 46, 111, 114, 103, 47, 50, 48, 48, 49, 47, 88, 77, 76, 83, 99, 104, 101, 109, 97, 35, 105, 110, 116, 101, 103, 101, 114]⟩⟩ ⟨3, PS, ⟨#[]⟩, ⟨#[104, 116, 116, 112, 58, 47, 47, 119, 119, 119, 46, 119, 51, 46, 111, 114, 103, 47, 50, 48, 48, 49, 47, 88, 77, 76, 83, 99, 104, 101, 109, 97, 35, 105, 110, 116, 101, 103, 101, 114]⟩⟩ w).trans (by rw [tmEq_self])
            have xbt := HM15.out.at_ 2 rfl
            have qt0 := xbt.cell 0
            have qt1 := xbt.cell 1
            have qt2 := xbt.cell 2
            have qt3 := xbt.cell 3
            simp only [List.getElem?_toArray, List.getElem?_cons_zero, List.getElem?_cons_succ] at qt0 qt1 qt2 qt3
            clear xbt
            have xbw := HM15.out.at_ 0 rfl
            have qw0 := xbw.cell 0
            have qw1 := xbw.cell 1
            have qw2 := xbw.cell 2
            have qw3 := xbw.cell 3
            simp only [List.getElem?_toArray, List.getElem?_cons_zero, List.getElem?_cons_succ] at qw0 qw1 qw2 qw3
            clear xbw
            go_wp2_with fail
            go_ret
            exact ⟨rfl, HM15.out.bel⟩
          · have htt : tq = ⟨3, PS, ⟨#[]⟩, ⟨#[104, 116, 116, 112, 58, 47, 47, 119, 119, 119, 46, 119, 51, 46, 111, 114, 103, 47, 50, 48, 48, 49, 47, 88, 77, 76, 83, 99, 104, 101, 109, 97, 35, 100, 101, 99, 105, 109, 97, 108]⟩⟩ := by
              obtain ⟨h1, h2⟩ := HQ2.out
              rw [h1, h2, show (if a.tl = b.tl then a.tl else xDecL) = xDecL from if_neg (fun h => absurd ((ha2.symm.trans h).trans hb2) (by decide))]
              rfl
            clear HQ2 HF HALL
            subst htt
            have ha3 : a.t.toList = [104, 116, 116, 112, 58, 47, 47, 119, 119, 119, 46, 119, 51, 46, 111, 114, 103, 47, 50, 48, 48, 49, 47, 88, 77, 76, 83, 99, 104, 101, 109, 97, 35, 105, 110, 116, 101, 103, 101, 114] := by rw [Lib.toList_data]; exact ha2
            have hb3 : b.t.toList = [104, 116, 116, 112, 58, 47, 47, 119, 119, 119, 46, 119, 51, 46, 111, 114, 103, 47, 50, 48, 48, 49, 47, 88, 77, 76, 83, 99, 104, 101, 109, 97, 35, 100, 101, 99, 105, 109, 97, 108] := by rw [Lib.toList_data]; exact hb2
            have hb4 : (b.t.toList == [104, 116, 116, 112, 58, 47, 47, 119, 119, 119, 46, 119, 51, 46, 111, 114, 103, 47, 50, 48, 48, 49, 47, 88, 77, 76, 83, 99, 104, 101, 109, 97, 35, 105, 110, 116, 101, 103, 101, 114]) = false := by rw [hb3]; decide
            clear ha2 hb2
            go_upto_region 24 with fail
            clear qa3 qb3
            have HM15 : Hid (Mem w [(gw, #[.int .i64 3, .string PS, .string ⟨#[]⟩, .string ⟨#[104, 116, 116, 112, 58, 47, 47, 119, 119, 119, 46, 119, 51, 46, 111, 114, 103, 47, 50, 48, 48, 49, 47, 88, 77, 76, 83, 99, 104, 101, 109, 97, 35, 100, 101, 99, 105, 109, 97, 108]⟩], 25), (gd, #[.int .i64 d1, .int .i64 d2], 44), (gt, #[.int .i64 3, .string PS, .string ⟨#[]⟩, .string ⟨#[104, 116, 116, 112, 58, 47, 47, 119, 119, 119, 46, 119, 51, 46, 111, 114, 103, 47, 50, 48, 48, 49, 47, 88, 77, 76, 83, 99, 104, 101, 109, 97, 35, 100, 101, 99, 105, 109, 97, 108]⟩], 25), (gy, #[.int .i64 y1, .int .i64 y2], 44), (gx, #[.int .i64 x1, .int .i64 x2], 44), (g + 1, #[.int .i64 b.k, .string b.s, .string b.l, .string b.t], 25), (g, #[.int .i64 a.k, .string a.s, .string a.l, .string a.t], 25)] v14) := HM14
            have hq0 : ∀ w, (Op.equalIn 10000 25 (.agg #[.int .i64 3, .string PS, .string ⟨#[]⟩, .string ⟨#[104, 116, 116, 112, 58, 47, 47, 119, 119, 119, 46, 119, 51, 46, 111, 114, 103, 47, 50, 48, 48, 49, 47, 88, 77, 76, 83, 99, 104, 101, 109, 97, 35, 100, 101, 99, 105, 109, 97, 108]⟩]) (.agg #[.int .i64 3, .string PS, .string ⟨#[]⟩, .string ⟨#[104, 116, 116, 112, 58, 47, 47, 119, 119, 119, 46, 119, 51, 46, 111, 114, 103, 47, 50, 48, 48, 49, 47, 88, 77, 76, 83, 99, 104, 101, 109, 97, 35, 100, 101, 99, 105, 109, 97, 108]⟩])).run Tryz.prog w = .ok true w := fun w => (equal_bool ⟨3, PS, ⟨#[]⟩, ⟨#[104, 116, 116, 112, 58, 47, 47, 119, 119, 119, 46, 119, 51, 46, 111, 114, 103, 47, 50, 48, 48, 49, 47, 88, 77, 76, 83, 99, 104, 101, 109, 97, 35, 100, 101, 99, 105, 109, 97, 108]⟩⟩ ⟨3, PS, ⟨#[]⟩, ⟨#[104, 116, 116, 112, 58, 47, 47, 119, 119, 119, 46, 119, 51, 46, 111, 114, 103, 47, 50, 48, 48, 49, 47, 88, 77, 76, 83, 99, 104, 101, 109, 97, 35, 100, 101, 99, 105, 109, 97, 108]⟩⟩ w).trans (by rw [tmEq_self])
            have xbt := HM15.out.at_ 2 rfl
            have qt0 := xbt.cell 0
            have qt1 := xbt.cell 1
            have qt2 := xbt.cell 2
            have qt3 := xbt.cell 3
            simp only [List.getElem?_toArray, List.getElem?_cons_zero, List.getElem?_cons_succ] at qt0 qt1 qt2 qt3
            clear xbt
            have xbw := HM15.out.at_ 0 rfl
            have qw0 := xbw.cell 0
            have qw1 := xbw.cell 1
            have qw2 := xbw.cell 2
            have qw3 := xbw.cell 3
            simp only [List.getElem?_toArray, List.getElem?_cons_zero, List.getElem?_cons_succ] at qw0 qw1 qw2 qw3
            clear xbw
            go_wp2_with fail
            go_ret
            exact ⟨rfl, HM15.out.bel⟩
          · have htt : tq = ⟨3, PS, ⟨#[]⟩, ⟨#[104, 116, 116, 112, 58, 47, 47, 119, 119, 119, 46, 119, 51, 46, 111, 114, 103, 47, 50, 48, 48, 49, 47, 88, 77, 76, 83, 99, 104, 101, 109, 97, 35, 100, 101, 99, 105, 109, 97, 108]⟩⟩ := by
              obtain ⟨h1, h2⟩ := HQ2.out
              rw [h1, h2, show (if a.tl = b.tl then a.tl else xDecL) = xDecL from if_neg (fun h => absurd ((ha2.symm.trans h).trans hb2) (by decide))]
              rfl
            clear HQ2 HF HALL
            subst htt
            have ha3 : a.t.toList = [104, 116, 116, 112, 58, 47, 47, 119, 119, 119, 46, 119, 51, 46, 111, 114, 103, 47, 50, 48, 48, 49, 47, 88, 77, 76, 83, 99, 104, 101, 109, 97, 35, 100, 101, 99, 105, 109, 97, 108] := by rw [Lib.toList_data]; exact ha2
            have hb3 : b.t.toList = [104, 116, 116, 112, 58, 47, 47, 119, 119, 119, 46, 119, 51, 46, 111, 114, 103, 47, 50, 48, 48, 49, 47, 88, 77, 76, 83, 99, 104, 101, 109, 97, 35, 105, 110, 116, 101, 103, 101, 114] := by rw [Lib.toList_data]; exact hb2
            have ha4 : (a.t.toList == [104, 116, 116, 112, 58, 47, 47, 119, 119, 119, 46, 119, 51, 46, 111, 114, 103, 47, 50, 48, 48, 49, 47, 88, 77, 76, 83, 99, 104, 101, 109, 97, 35, 105, 110, 116, 101, 103, 101, 114]) = false := by rw [ha3]; decide
            clear ha2 hb2
            go_upto_region 24 with fail
            clear qa3 qb3
            have HM15 : Hid (Mem w [(gw, #[.int .i64 3, .string PS, .string ⟨#[]⟩, .string ⟨#[104, 116, 116, 112, 58, 47, 47, 119, 119, 119, 46, 119, 51, 46, 111, 114, 103, 47, 50, 48, 48, 49, 47, 88, 77, 76, 83, 99, 104, 101, 109, 97, 35, 100, 101, 99, 105, 109, 97, 108]⟩], 25), (gd, #[.int .i64 d1, .int .i64 d2], 44), (gt, #[.int .i64 3, .string PS, .string ⟨#[]⟩, .string ⟨#[104, 116, 116, 112, 58, 47, 47, 119, 119, 119, 46, 119, 51, 46, 111, 114, 103, 47, 50, 48, 48, 49, 47, 88, 77, 76, 83, 99, 104, 101, 109, 97, 35, 100, 101, 99, 105, 109, 97, 108]⟩], 25), (gy, #[.int .i64 y1, .int .i64 y2], 44), (gx, #[.int .i64 x1, .int .i64 x2], 44), (g + 1, #[.int .i64 b.k, .string b.s, .string b.l, .string b.t], 25), (g, #[.int .i64 a.k, .string a.s, .string a.l, .string a.t], 25)] v14) := HM14
            have hq0 : ∀ w, (Op.equalIn 10000 25 (.agg #[.int .i64 3, .string PS, .string ⟨#[]⟩, .string ⟨#[104, 116, 116, 112, 58, 47, 47, 119, 119, 119, 46, 119, 51, 46, 111, 114, 103, 47, 50, 48, 48, 49, 47, 88, 77, 76, 83, 99, 104, 101, 109, 97, 35, 100, 101, 99, 105, 109, 97, 108]⟩]) (.agg #[.int .i64 3, .string PS, .string ⟨#[]⟩, .string ⟨#[104, 116, 116, 112, 58, 47, 47, 119, 119, 119, 46, 119, 51, 46, 111, 114, 103, 47, 50, 48, 48, 49, 47, 88, 77, 76, 83, 99, 104, 101, 109, 97, 35, 100, 101, 99, 105, 109, 97, 108]⟩])).run Tryz.prog w = .ok true w := fun w => (equal_bool ⟨3, PS, ⟨#[]⟩, ⟨#[104, 116, 116, 112, 58, 47, 47, 119, 119, 119, 46, 119, 51, 46, 111, 114, 103, 47, 50, 48, 48, 49, 47, 88, 77, 76, 83, 99, 104, 101, 109, 97, 35, 100, 101, 99, 105, 109, 97, 108]⟩⟩ ⟨3, PS, ⟨#[]⟩, ⟨#[104, 116, 116, 112, 58, 47, 47, 119, 119, 119, 46, 119, 51, 46, 111, 114, 103, 47, 50, 48, 48, 49, 47, 88, 77, 76, 83, 99, 104, 101, 109, 97, 35, 100, 101, 99, 105, 109, 97, 108]⟩⟩ w).trans (by rw [tmEq_self])
            have xbt := HM15.out.at_ 2 rfl
            have qt0 := xbt.cell 0
            have qt1 := xbt.cell 1
            have qt2 := xbt.cell 2
            have qt3 := xbt.cell 3
            simp only [List.getElem?_toArray, List.getElem?_cons_zero, List.getElem?_cons_succ] at qt0 qt1 qt2 qt3
            clear xbt
            have xbw := HM15.out.at_ 0 rfl
            have qw0 := xbw.cell 0
            have qw1 := xbw.cell 1
            have qw2 := xbw.cell 2
            have qw3 := xbw.cell 3
            simp only [List.getElem?_toArray, List.getElem?_cons_zero, List.getElem?_cons_succ] at qw0 qw1 qw2 qw3
            clear xbw
            go_wp2_with fail
            go_ret
            exact ⟨rfl, HM15.out.bel⟩
          · have htt : tq = ⟨3, PS, ⟨#[]⟩, ⟨#[104, 116, 116, 112, 58, 47, 47, 119, 119, 119, 46, 119, 51, 46, 111, 114, 103, 47, 50, 48, 48, 49, 47, 88, 77, 76, 83, 99, 104, 101, 109, 97, 35, 100, 101, 99, 105, 109, 97, 108]⟩⟩ := by
              obtain ⟨h1, h2⟩ := HQ2.out
              rw [h1, h2, show (if a.tl = b.tl then a.tl else xDecL) = xDecL from (if_pos (ha2.trans hb2.symm)).trans ha2]
              rfl
            clear HQ2 HF HALL
            subst htt
            have ha3 : a.t.toList = [104, 116, 116, 112, 58, 47, 47, 119, 119, 119, 46, 119, 51, 46, 111, 114, 103, 47, 50, 48, 48, 49, 47, 88, 77, 76, 83, 99, 104, 101, 109, 97, 35, 100, 101, 99, 105, 109, 97, 108] := by rw [Lib.toList_data]; exact ha2
            have hb3 : b.t.toList = [104, 116, 116, 112, 58, 47, 47, 119, 119, 119, 46, 119, 51, 46, 111, 114, 103, 47, 50, 48, 48, 49, 47, 88, 77, 76, 83, 99, 104, 101, 109, 97, 35, 100, 101, 99, 105, 109, 97, 108] := by rw [Lib.toList_data]; exact hb2
            have ha4 : (a.t.toList == [104, 116, 116, 112, 58, 47, 47, 119, 119, 119, 46, 119, 51, 46, 111, 114, 103, 47, 50, 48, 48, 49, 47, 88, 77, 76, 83, 99, 104, 101, 109, 97, 35, 105, 110, 116, 101, 103, 101, 114]) = false := by rw [ha3]; decide
            have hb4 : (b.t.toList == [104, 116, 116, 112, 58, 47, 47, 119, 119, 119, 46, 119, 51, 46, 111, 114, 103, 47, 50, 48, 48, 49, 47, 88, 77, 76, 83, 99, 104, 101, 109, 97, 35, 105, 110, 116, 101, 103, 101, 114]) = false := by rw [hb3]; decide
            clear ha2 hb2
            go_upto_region 24 with fail
            clear qa3 qb3
            have HM15 : Hid (Mem w [(gw, #[.int .i64 3, .string PS, .string ⟨#[]⟩, .string ⟨#[104, 116, 116, 112, 58, 47, 47, 119, 119, 119, 46, 119, 51, 46, 111, 114, 103, 47, 50, 48, 48, 49, 47, 88, 77, 76, 83, 99, 104, 101, 109, 97, 35, 100, 101, 99, 105, 109, 97, 108]⟩], 25), (gd, #[.int .i64 d1, .int .i64 d2], 44), (gt, #[.int .i64 3, .string PS, .string ⟨#[]⟩, .string ⟨#[104, 116, 116, 112, 58, 47, 47, 119, 119, 119, 46, 119, 51, 46, 111, 114, 103, 47, 50, 48, 48, 49, 47, 88, 77, 76, 83, 99, 104, 101, 109, 97, 35, 100, 101, 99, 105, 109, 97, 108]⟩], 25), (gy, #[.int .i64 y1, .int .i64 y2], 44), (gx, #[.int .i64 x1, .int .i64 x2], 44), (g + 1, #[.int .i64 b.k, .string b.s, .string b.l, .string b.t], 25), (g, #[.int .i64 a.k, .string a.s, .string a.l, .string a.t], 25)] v14) := HM14
            have hq0 : ∀ w, (Op.equalIn 10000 25 (.agg #[.int .i64 3, .string PS, .string ⟨#[]⟩, .string ⟨#[104, 116, 116, 112, 58, 47, 47, 119, 119, 119, 46, 119, 51, 46, 111, 114, 103, 47, 50, 48, 48, 49, 47, 88, 77, 76, 83, 99, 104, 101, 109, 97, 35, 100, 101, 99, 105, 109, 97, 108]⟩]) (.agg #[.int .i64 3, .string PS, .string ⟨#[]⟩, .string ⟨#[104, 116, 116, 112, 58, 47, 47, 119, 119, 119, 46, 119, 51, 46, 111, 114, 103, 47, 50, 48, 48, 49, 47, 88, 77, 76, 83, 99, 104, 101, 109, 97, 35, 100, 101, 99, 105, 109, 97, 108]⟩])).run Tryz.prog w = .ok true w := fun w => (equal_bool ⟨3, PS, ⟨#[]⟩, ⟨#[104, 116, 116, 112, 58, 47, 47, 119, 119, 119, 46, 119, 51, 46, 111, 114, 103, 47, 50, 48, 48, 49, 47, 88, 77, 76, 83, 99, 104, 101, 109, 97, 35, 100, 101, 99, 105, 109, 97, 108]⟩⟩ ⟨3, PS, ⟨#[]⟩, ⟨#[104, 116, 116, 112, 58, 47, 47, 119, 119, 119, 46, 119, 51, 46, 111, 114, 103, 47, 50, 48, 48, 49, 47, 88, 77, 76, 83, 99, 104, 101, 109, 97, 35, 100, 101, 99, 105, 109, 97, 108]⟩⟩ w).trans (by rw [tmEq_self])
            have xbt := HM15.out.at_ 2 rfl
            have qt0 := xbt.cell 0
            have qt1 := xbt.cell 1
            have qt2 := xbt.cell 2
            have qt3 := xbt.cell 3
            simp only [List.getElem?_toArray, List.getElem?_cons_zero, List.getElem?_cons_succ] at qt0 qt1 qt2 qt3
            clear xbt
            have xbw := HM15.out.at_ 0 rfl
            have qw0 := xbw.cell 0
            have qw1 := xbw.cell 1
            have qw2 := xbw.cell 2
            have qw3 := xbw.cell 3
            simp only [List.getElem?_toArray, List.getElem?_cons_zero, List.getElem?_cons_succ] at qw0 qw1 qw2 qw3
            clear xbw
            go_wp2_with fail
            go_ret
            exact ⟨rfl, HM15.out.bel⟩
end Go.Proofs.YtecomfhbdonkbaaGreatDoor
