/- NtBlanks' walk. -/
import Derived.Test.YtbkokckpjmbjhaaDoorNy
import Derived.Test.YtbkokckpjmbjhaaDoorNw
import Derived.Test.YtbkokckpjmbjhaaDoorNr
import Derived.Test.YtbkokckpjmbjhaaDoorNm
import Derived.Test.YtbkokckpjmbjhaaDoorSn
import Derived.Deep.CutBlock
import Derived.Deep.DeepCutAuto
import Derived.Deep.RegionLaw
namespace Go.Proofs.YtbkokckpjmbjhaaDoor
open Go.RowKit Go.Shelf
set_option maxRecDepth 100000
set_option linter.unusedVariables false
def blankA (q : Nat) : List UInt8 := if q = 0 then [] else if q = 1 then [32] else if q = 2 then [9, 32] else [32, 32]
theorem bk_at (q : Nat) (h : q < 4) : (#[.string ⟨#[]⟩, .string ⟨#[32]⟩, .string ⟨#[9, 32]⟩, .string ⟨#[32, 32]⟩].toList : List Value)[q]'h = .string (bl (blankA q)) := by
  match q, h with
  | 0, _ => rfl
  | 1, _ => rfl
  | 2, _ => rfl
  | 3, _ => rfl
theorem en_at (q : Nat) (h : q < 5) : (#[.string ⟨#[10]⟩, .string ⟨#[35, 32, 99, 10]⟩, .string ⟨#[13, 10]⟩, .string ⟨#[10, 10]⟩, .string ⟨#[10, 32, 35, 32, 100, 32, 46, 32, 10]⟩].toList : List Value)[q]'h = .string (bl (endsL q)) := by
  match q, h with
  | 0, _ => rfl
  | 1, _ => rfl
  | 2, _ => rfl
  | 3, _ => rfl
  | 4, _ => rfl
theorem blank_bk (q : Nat) : Bk (blankA q) := by
  intro c hc
  unfold blankA at hc
  split at hc
  · cases hc
  split at hc
  · simp at hc; exact .inl hc
  split at hc
  · simp at hc; rcases hc with h | h
    · exact .inr h
    · exact .inl h
  · simp at hc; exact .inl hc
theorem blank_len (q : Nat) : (blankA q).length ≤ 2 := by unfold blankA; repeat' split
                                                          all_goals simp
theorem ends_len (q : Nat) : (endsL q).length ≤ 9 := by unfold endsL; repeat' split
                                                        all_goals simp
theorem blk_mv {W W' : World} {g : Nat} {cur : Array Value} {t : TypeId} (h : Blk W g cur t) (hb : Below W.heap.size W W') : Blk W' g cur t := (hb.block _ h.lt).trans h
theorem mod5b_any (a : Int) (w : World) : Calls Tryd.prog 8 #[.int .i64 a, .int .i64 5] w fun e w' => (∃ q : Nat, q < 5 ∧ e = .returned (.int .i64 q)) ∧ w' = w := by
  refine (within9_eq a 5 (by decide) (by decide) w).mono ?_
  rintro e w' ⟨rfl, rfl⟩
  refine ⟨⟨(a % 5).toNat, by omega, ?_⟩, rfl⟩
  rw [show ((a % 5).toNat : Int) = a % 5 from by omega]
theorem en_cell {W : World} {g : Nat} (h : Blk W g #[.string ⟨#[10]⟩, .string ⟨#[35, 32, 99, 10]⟩, .string ⟨#[13, 10]⟩, .string ⟨#[10, 10]⟩, .string ⟨#[10, 32, 35, 32, 100, 32, 46, 32, 10]⟩] 9) (q : Nat) (hq : q < 5) : W.cell? ⟨g, q, none⟩ = some (.string (bl (endsL q))) := by
  rw [h.cell]
  match q, hq with
  | 0, _ => rfl
  | 1, _ => rfl
  | 2, _ => rfl
  | 3, _ => rfl
  | 4, _ => rfl
theorem cat_eq {F B T1 T2 T3 E : ByteArray} {C : List Ch} {x : Tri3} {b : List UInt8} {j : Nat} (hF : F = bl (C.flatMap Ch.text)) (hB : B = bl b) (h1 : T1 = bl (textL x.1)) (h2 : T2 = bl (textL x.2.1)) (h3 : T3 = bl (textL x.2.2)) (hE : E = bl (endsL j)) :
    ((((((((((F ++ B) ++ T1) ++ B) ++ ⟨#[32]⟩) ++ T2) ++ B) ++ T3) ++ B) ++ ⟨#[46]⟩) ++ B) ++ E = bl ((C ++ [(⟨x, b, j⟩ : Ch)]).flatMap Ch.text) := by
  subst hF hB h1 h2 h3 hE
  apply ba_ext
  simp [bl, Ch.text, Ch.line, lineL]
theorem ch_len (x : Tri3) (hx : Gd x) (q j : Nat) : (Ch.text (⟨x, blankA q, j⟩ : Ch)).length ≤ 4000 := by
  have h1 := text_len x.1 hx.g1
  have h2 := text_len x.2.1 hx.g2
  have h3 := text_len x.2.2 hx.g3
  have h4 := blank_len q
  have h5 := ends_len j
  unfold Ch.text Ch.line lineL
  simp only [List.length_append, List.length_cons]
  omega
set_option maxHeartbeats 16000000 in
theorem blanks_walk (v0 v1 : Value) (L : List Tri3) (ns : List Int) (w : World) (h0 : Trs w v0 L) (h1 : Nl w v1 ns) :
    Calls Tryd.prog 3 #[v0, v1] w fun e w' => e = .returned (.bool true) ∧ Below w.heap.size w w' := by
  have HK := Lib.hid (fun w => known9_any w)
  have HL := Lib.hid h0
  have HNS := Lib.hid h1
  clear h0 h1
  go_enter Tryd.func3, Tryd.ntmps3
  go_wp2_with fail
  refine (HK.out _).mono ?_
  rintro e w1 ⟨rfl, hb1⟩
  clear HK
  go_wp2_with fail
  refine (few9_any (HL.out.below hb1)).mono ?_
  rintro e w2 ⟨t, rfl, hb2, hfew⟩
  have HB2 := Lib.hid (hb1.trans (hb2.mono hb1.size))
  clear hb1 hb2
  cases t with
  | false =>
    go_wp2_with fail
    go_ret
    exact ⟨rfl, HB2.out⟩
  | true =>
    have HF := Lib.hid (hfew rfl)
    clear hfew
    go_wp2_with fail
    refine (all9_any (HL.out.below HB2.out) (fun j hj => good9_any _ (HF.out.few j hj).1 (HF.out.few j hj).2.1 (HF.out.few j hj).2.2)).mono ?_
    rintro e w3 ⟨ao3, cap3, rfl, hc3, hb3, ho3⟩
    have HB3 := Lib.hid (HB2.out.trans (hb3.mono HB2.out.size))
    have hgd3 : ∀ y ∈ (L.take 30).map good9, Gd y := fun y hy => by
      obtain ⟨z, -, rfl⟩ := List.mem_map.1 hy
      exact good9_gd z
    have hl3 : ((L.take 30).map good9).length ≤ 30 := by rw [List.length_map, List.length_take]; omega
    have ht3 := ho3.trs (fun y hy => (hgd3 y hy).ok)
    generalize (L.take 30).map good9 = M at hgd3 hl3 ht3 hc3 ho3 ⊢
    clear HF HL HB2 hb3
    go_wp2_with fail
    refine (rset_any ht3 (by omega)).mono ?_
    rintro e w5 ⟨R, so, cap, rfl, hc5, hcap5, ho5, hmem, hlen, hb5'⟩
    have HB5 := Lib.hid (HB3.out.trans (hb5'.mono HB3.out.size))
    have hgd : ∀ y ∈ R, Gd y := fun y hy => hgd3 y (hmem y hy)
    have HGD := Lib.hid hgd
    have ht5 := ho5.trs (fun y hy => (hgd y hy).ok)
    have HT5 := Lib.hid ht5
    obtain ⟨n, hn⟩ : ∃ n, n = R.length := ⟨_, rfl⟩
    rw [← hn] at hc5 hlen ⊢
    have hn30 : n ≤ 30 := by omega
    have HN := Lib.hid hn
    have HNS5 := Lib.hid (HNS.out.below HB5.out)
    clear hgd3 hl3 ht3 hc3 ho3 hmem hlen hb5' hgd ht5 ho5 hn HB3 HNS
    obtain ⟨ans, capn, rfl, hcn1, hcn2, -, -⟩ := id HNS5.out
    have hnsl : ns.length ≤ 9223372036854775807 := by unfold maxLen at hcn2; omega
    clear hcn1 hcn2
    go_wp2_with fail
    go_loopw [6, 7] (fun s6 s7 wr => ∃ (i : Nat) (C : List Ch) (F : ByteArray), i ≤ n ∧ s7 = .int .i64 i ∧ s6 = .string F ∧ F = bl (C.flatMap Ch.text) ∧ C.map Ch.t = R.take i ∧ (∀ c ∈ C, c.Ok) ∧ (C.flatMap Ch.text).length ≤ 4000 * i ∧ Below w5.heap.size w5 wr) (fun _ i _ => n - (intOf i).toNat)
    case atStart => exact ⟨0, [], _, Nat.zero_le _, rfl, rfl, rfl, rfl, fun c hc => (by cases hc), Nat.zero_le _, Below.refl _ _⟩
    case round =>
      obtain ⟨i, C, F, hin, rfl, rfl, hF, hC, hok, hlen, hbel⟩ := hrel
      have HFE := Lib.hid hF
      have HC := Lib.hid hC
      have HOK := Lib.hid hok
      have HLEN := Lib.hid hlen
      have HB := Lib.hid hbel
      have hFs : F.size ≤ 120000 := by rw [hF, bl_size]; omega
      clear hF hC hok hlen hbel
      by_cases hlt : (i : Int) < n
      rotate_left
      · obtain rfl : i = n := by omega
        go_wp2_with fail
        refine (parse9 F (by omega) _).mono ?_
        rintro e w6 ⟨ao6, cap6, rfl, hb6, ho6⟩
        have HB6 := Lib.hid (HB.out.trans (hb6.mono HB.out.size))
        clear hb6
        by_cases h16 : (16000 : Int) < F.size
        · clear ho6
          generalize (parseOfS F).1.length = P1
          generalize (parseOfS F).2.1 = P2
          generalize (parseOfS F).2.2 = P3
          go_wp2_with fail
          go_ret
          exact ⟨rfl, HB5.out.trans (HB6.out.mono HB5.out.size)⟩
        · have hp : parseOfS F = (R, 0, 0) := by
            have h1 := HC.out
            rw [HN.out, List.take_length] at h1
            have h2 := blanks_eq C HOK.out (by
              have h3 : F.size = (C.flatMap Ch.text).length := by rw [HFE.out, bl_size]
              omega)
            rw [h1] at h2
            rw [HFE.out]
            exact h2
          rw [hp] at ho6 ⊢
          have ht6 := ho6.trs (fun y hy => (HGD.out y hy).ok)
          have ht7 := HT5.out.below HB6.out
          dsimp only at ht6 ⊢
          rw [← HN.out] at ht6 ht7 ⊢
          clear hp ho6
          have HT6 := Lib.hid ht6
          have HT7 := Lib.hid ht7
          clear ht6 ht7
          go_wp2_with fail
          refine (same9_any HT6.out HT7.out (by have := HN.out; omega)).mono ?_
          rintro e w7 ⟨rfl, hb7⟩
          have HB7 := Lib.hid (HB6.out.trans (hb7.mono HB6.out.size))
          clear hb7
          go_wp2_with fail
          go_ret
          exact ⟨rfl, HB5.out.trans (HB7.out.mono HB5.out.size)⟩
      · have hil : i < R.length := by have := HN.out; omega
        go_upto_if 31 with fail
        go_cut [8] from 27 to 35 (fun s8 wx => ∃ k : Int, s8 = .int .i64 k ∧ Below w5.heap.size w5 wx)
        case first =>
          by_cases hin2 : (i : Int) < (ns.length : Int)
          · have hins : i < ns.length := by omega
            obtain ⟨bn, on, cn, en, -, -, hcell⟩ := (HNS5.out.below HB.out).at (by omega)
            simp only [Value.slice.injEq, true_and] at en
            obtain ⟨rfl, rfl⟩ := en
            have hc1 := hcell i hins
            obtain ⟨k0, hk0⟩ : ∃ k0, k0 = ns[i] := ⟨_, rfl⟩
            rw [← hk0] at hc1
            clear hcell hk0
            go_wp2_with fail
            go_meet
            exact ⟨k0, rfl, HB.out⟩
          · go_wp2_with fail
            go_meet
            exact ⟨(i : Int), rfl, HB.out⟩
        case rest =>
          obtain ⟨k, rfl, hbx⟩ := hcut
          clear HB
          have HB := Lib.hid hbx
          clear hbx
          obtain ⟨q, hq⟩ : ∃ q : Nat, q = (k % 4).toNat := ⟨_, rfl⟩
          have hq4 : q < 4 := by omega
          have hqi : k % 4 = (q : Int) := by omega
          have hbk := bk_at q hq4
          obtain ⟨Bs, hBs⟩ : ∃ Bs, Bs = bl (blankA q) := ⟨_, rfl⟩
          rw [← hBs] at hbk
          have hBl : Bs.size ≤ 2 := by rw [hBs, bl_size]; exact blank_len q
          have HBS := Lib.hid hBs
          have hqi4 : (q : Int) < 4 := by omega
          have HQI := Lib.hid hqi
          clear hBs hq hqi
          go_wp2_with fail
          refine (within9_eq k 4 (by decide) (by decide) _).mono ?_
          rintro e w8 ⟨rfl, hw8⟩
          subst hw8
          rw [HQI.out]
          go_wp2_with (rw [hbk])
          clear hbk hqi4 HQI
          obtain ⟨x, hx⟩ : ∃ x, x = R[i] := ⟨_, rfl⟩
          obtain ⟨so', cap', e, -, -, hE⟩ := HT5.out
          simp only [Value.slice.injEq, true_and] at e
          obtain ⟨rfl, rfl⟩ := e
          obtain ⟨b, off, rfl, hb5, hA⟩ := hE i hil
          rw [← hx] at hA
          have hA0 := Lib.hid hA
          have HX := Lib.hid hx
          have hgx : Gd x := by rw [hx]; exact HGD.out _ (List.getElem_mem _)
          have HGX := Lib.hid hgx
          obtain ⟨T1, hT1⟩ : ∃ T, T = bl (textL x.1) := ⟨_, rfl⟩
          obtain ⟨T2, hT2⟩ : ∃ T, T = bl (textL x.2.1) := ⟨_, rfl⟩
          obtain ⟨T3, hT3⟩ : ∃ T, T = bl (textL x.2.2) := ⟨_, rfl⟩
          have s1 : T1.size ≤ 1000 := by rw [hT1, bl_size]; exact text_len _ hgx.g1
          have s2 : T2.size ≤ 1000 := by rw [hT2, bl_size]; exact text_len _ hgx.g2
          have s3 : T3.size ≤ 1000 := by rw [hT3, bl_size]; exact text_len _ hgx.g3
          have HT1 := Lib.hid (fun w => rtext_any6 x.1 (by have := hgx.g1.s; omega) (by have := hgx.g1.l; omega) (by have := hgx.g1.t; omega) w)
          have HT2 := Lib.hid (fun w => rtext_any6 x.2.1 (by have := hgx.g2.s; omega) (by have := hgx.g2.l; omega) (by have := hgx.g2.t; omega) w)
          have HT3 := Lib.hid (fun w => rtext_any6 x.2.2 (by have := hgx.g3.s; omega) (by have := hgx.g3.l; omega) (by have := hgx.g3.t; omega) w)
          rw [← hT1] at HT1
          rw [← hT2] at HT2
          rw [← hT3] at HT3
          unfold Tm.val at HT1 HT2 HT3
          have HE1 := Lib.hid hT1
          have HE2 := Lib.hid hT2
          have HE3 := Lib.hid hT3
          clear hA hx hgx hE hT1 hT2 hT3
          have HB9 := Lib.hid (HB.out.alloc HB.out.size (.cells #[.string ⟨#[]⟩, .string ⟨#[32]⟩, .string ⟨#[9, 32]⟩, .string ⟨#[32, 32]⟩] 9))
          clear HB
          generalize wc.alloc _ = wg at HB9 ⊢
          refine wp_region_any (by kernel_rfl) ?_
          change wpAny _ _ _ _ _ _ _ (World.drew _)
          refine wpAny_of_held (S := fun (W : World) => Below w5.heap.size w5 W) _ _ _ _ ?_
          have hS : (fun (W : World) => Below w5.heap.size w5 W) (World.drew wg) := below_drew HB9.out
          generalize World.drew wg = v0w at hS ⊢
          refine wpAnyH_take (i := 0) (oi := ⟨some 41, _, _, _, _, _⟩) (v := ?_) rfl (by kernel_rfl) (by kernel_rfl) (by kernel_rfl) (fun _ _ _ h => h) (Or.inl ⟨by first | rfl | (simp [Region.wanted, yielded]; done), ?_⟩) hS ?_
          rotate_left
          · intro wz hSw
            clear hSw
            go_simp
            first | done | with_reducible rfl
          try simp only [Act.put, List.setIfInBounds_toArray, List.set_cons_zero, List.set_cons_succ]
          refine wpAnyH_take (i := 1) (oi := ⟨some 42, _, _, _, _, _⟩) (v := ?_) rfl (by kernel_rfl) (by kernel_rfl) (by kernel_rfl) (fun _ _ _ h => h) (Or.inl ⟨by first | rfl | (simp [Region.wanted, yielded]; done), ?_⟩) hS ?_
          rotate_left
          · intro wz hSw
            clear hSw
            go_simp
            first | done | with_reducible rfl
          try simp only [Act.put, List.setIfInBounds_toArray, List.set_cons_zero, List.set_cons_succ]
          have zz : ¬ 9223372036854775807 < F.size + Bs.size := by omega
          refine wpAnyH_take (i := 2) (oi := ⟨some 43, _, _, _, _, _⟩) (v := ?_) rfl (by kernel_rfl) (by kernel_rfl) (by kernel_rfl) (fun _ _ _ h => h) (Or.inl ⟨by first | rfl | (simp [Region.wanted, yielded]; done), ?_⟩) hS ?_
          rotate_left
          · intro wz hSw
            clear hSw
            go_simp
            first | done | with_reducible rfl
          try simp only [Act.put, List.setIfInBounds_toArray, List.set_cons_zero, List.set_cons_succ]
          clear zz
          obtain ⟨V1, hV1⟩ : ∃ V : ByteArray, V = F ++ Bs := ⟨_, rfl⟩
          rw [← hV1]
          have wV1 : V1.size ≤ 120002 := by rw [hV1, ByteArray.size_append]; omega
          have HV1 := Lib.hid hV1
          clear hV1
          refine wpAnyH_take (i := 3) (oi := ⟨some 44, _, _, _, _, _⟩) (v := ?_) rfl (by kernel_rfl) (by kernel_rfl) (by kernel_rfl) (fun _ _ _ h => h) (Or.inl ⟨by first | rfl | (simp [Region.wanted, yielded]; done), ?_⟩) hS ?_
          rotate_left
          · intro wz hSw
            clear hSw
            go_simp
            first | done | with_reducible rfl
          try simp only [Act.put, List.setIfInBounds_toArray, List.set_cons_zero, List.set_cons_succ]
          refine wpAnyH_take (i := 4) (oi := ⟨some 45, _, _, _, _, _⟩) (v := ?_) rfl (by kernel_rfl) (by kernel_rfl) (by kernel_rfl) (fun _ _ _ h => h) (Or.inl ⟨by first | rfl | (simp [Region.wanted, yielded]; done), ?_⟩) hS ?_
          rotate_left
          · intro wz hSw
            clear hSw
            go_simp
            first | done | with_reducible rfl
          try simp only [Act.put, List.setIfInBounds_toArray, List.set_cons_zero, List.set_cons_succ]
          refine wpAnyH_take (i := 5) (oi := ⟨some 46, _, _, _, _, _⟩) (v := ?_) rfl (by kernel_rfl) (by kernel_rfl) (by kernel_rfl) (fun _ _ _ h => h) (Or.inl ⟨by first | rfl | (simp [Region.wanted, yielded]; done), ?_⟩) hS ?_
          rotate_left
          · intro wz hSw
            clear hSw
            go_simp
            first | done | with_reducible rfl
          try simp only [Act.put, List.setIfInBounds_toArray, List.set_cons_zero, List.set_cons_succ]
          refine wpAnyH_take (i := 6) (oi := ⟨some 47, _, _, _, _, _⟩) (v := ?_) rfl (by kernel_rfl) (by kernel_rfl) (by kernel_rfl) (fun _ _ _ h => h) (Or.inl ⟨by first | rfl | (simp [Region.wanted, yielded]; done), ?_⟩) hS ?_
          rotate_left
          · intro wz hSw
            clear hSw
            go_simp
            first | done | with_reducible rfl
          try simp only [Act.put, List.setIfInBounds_toArray, List.set_cons_zero, List.set_cons_succ]
          refine wpAnyH_take (i := 7) (oi := ⟨some 48, _, _, _, _, _⟩) (v := ?_) rfl (by kernel_rfl) (by kernel_rfl) (by kernel_rfl) (fun _ _ _ h => h) (Or.inl ⟨by first | rfl | (simp [Region.wanted, yielded]; done), ?_⟩) hS ?_
          rotate_left
          · intro wz hSw
            obtain ⟨⟨c0, c1, c2, c3, -⟩, ⟨c4, c5, c6, c7, -⟩, ⟨c8, c9, c10, c11, -⟩⟩ := hA0.out.below hb5 (hSw)
            rw [Nat.add_assoc (off + i * 12)] at c5 c6 c7 c9 c10 c11
            simp only [Nat.reduceAdd] at c5 c6 c7 c9 c10 c11
            clear hSw
            go_simp
            first | done | with_reducible rfl
          try simp only [Act.put, List.setIfInBounds_toArray, List.set_cons_zero, List.set_cons_succ]
          refine wpAnyH_take (i := 10) (oi := ⟨some 51, _, _, _, _, _⟩) (v := ?_) rfl (by kernel_rfl) (by kernel_rfl) (by kernel_rfl) (fun _ _ _ h => h) (Or.inl ⟨by first | rfl | (simp [Region.wanted, yielded]; done), ?_⟩) hS ?_
          rotate_left
          · intro wz hSw
            clear hSw
            go_simp
            first | done | with_reducible rfl
          try simp only [Act.put, List.setIfInBounds_toArray, List.set_cons_zero, List.set_cons_succ]
          refine wpAnyH_take (i := 13) (oi := ⟨some 54, _, _, _, _, _⟩) (v := ?_) rfl (by kernel_rfl) (by kernel_rfl) (by kernel_rfl) (fun _ _ _ h => h) (Or.inl ⟨by first | rfl | (simp [Region.wanted, yielded]; done), ?_⟩) hS ?_
          rotate_left
          · intro wz hSw
            clear hSw
            go_simp
            first | done | with_reducible rfl
          try simp only [Act.put, List.setIfInBounds_toArray, List.set_cons_zero, List.set_cons_succ]
          refine wpAnyH_take (i := 14) (oi := ⟨some 55, _, _, _, _, _⟩) (v := ?_) rfl (by kernel_rfl) (by kernel_rfl) (by kernel_rfl) (fun _ _ _ h => h) (Or.inl ⟨by first | rfl | (simp [Region.wanted, yielded]; done), ?_⟩) hS ?_
          rotate_left
          · intro wz hSw
            clear hSw
            go_simp
            first | done | with_reducible rfl
          try simp only [Act.put, List.setIfInBounds_toArray, List.set_cons_zero, List.set_cons_succ]
          refine wpAnyH_take (i := 15) (oi := ⟨some 56, _, _, _, _, _⟩) (v := ?_) rfl (by kernel_rfl) (by kernel_rfl) (by kernel_rfl) (fun _ _ _ h => h) (Or.inl ⟨by first | rfl | (simp [Region.wanted, yielded]; done), ?_⟩) hS ?_
          rotate_left
          · intro wz hSw
            clear hSw
            go_simp
            first | done | with_reducible rfl
          try simp only [Act.put, List.setIfInBounds_toArray, List.set_cons_zero, List.set_cons_succ]
          refine wpAnyH_take (i := 16) (oi := ⟨some 57, _, _, _, _, _⟩) (v := ?_) rfl (by kernel_rfl) (by kernel_rfl) (by kernel_rfl) (fun _ _ _ h => h) (Or.inl ⟨by first | rfl | (simp [Region.wanted, yielded]; done), ?_⟩) hS ?_
          rotate_left
          · intro wz hSw
            clear hSw
            go_simp
            first | done | with_reducible rfl
          try simp only [Act.put, List.setIfInBounds_toArray, List.set_cons_zero, List.set_cons_succ]
          refine wpAnyH_take (i := 17) (oi := ⟨some 58, _, _, _, _, _⟩) (v := ?_) rfl (by kernel_rfl) (by kernel_rfl) (by kernel_rfl) (fun _ _ _ h => h) (Or.inl ⟨by first | rfl | (simp [Region.wanted, yielded]; done), ?_⟩) hS ?_
          rotate_left
          · intro wz hSw
            obtain ⟨⟨c0, c1, c2, c3, -⟩, ⟨c4, c5, c6, c7, -⟩, ⟨c8, c9, c10, c11, -⟩⟩ := hA0.out.below hb5 (hSw)
            rw [Nat.add_assoc (off + i * 12)] at c5 c6 c7 c9 c10 c11
            simp only [Nat.reduceAdd] at c5 c6 c7 c9 c10 c11
            clear hSw
            go_simp
            first | done | with_reducible rfl
          try simp only [Act.put, List.setIfInBounds_toArray, List.set_cons_zero, List.set_cons_succ]
          refine wpAnyH_take (i := 20) (oi := ⟨some 61, _, _, _, _, _⟩) (v := ?_) rfl (by kernel_rfl) (by kernel_rfl) (by kernel_rfl) (fun _ _ _ h => h) (Or.inl ⟨by first | rfl | (simp [Region.wanted, yielded]; done), ?_⟩) hS ?_
          rotate_left
          · intro wz hSw
            clear hSw
            go_simp
            first | done | with_reducible rfl
          try simp only [Act.put, List.setIfInBounds_toArray, List.set_cons_zero, List.set_cons_succ]
          refine wpAnyH_take (i := 22) (oi := ⟨some 63, _, _, _, _, _⟩) (v := ?_) rfl (by kernel_rfl) (by kernel_rfl) (by kernel_rfl) (fun _ _ _ h => h) (Or.inl ⟨by first | rfl | (simp [Region.wanted, yielded]; done), ?_⟩) hS ?_
          rotate_left
          · intro wz hSw
            clear hSw
            go_simp
            first | done | with_reducible rfl
          try simp only [Act.put, List.setIfInBounds_toArray, List.set_cons_zero, List.set_cons_succ]
          refine wpAnyH_take (i := 23) (oi := ⟨some 64, _, _, _, _, _⟩) (v := ?_) rfl (by kernel_rfl) (by kernel_rfl) (by kernel_rfl) (fun _ _ _ h => h) (Or.inl ⟨by first | rfl | (simp [Region.wanted, yielded]; done), ?_⟩) hS ?_
          rotate_left
          · intro wz hSw
            clear hSw
            go_simp
            first | done | with_reducible rfl
          try simp only [Act.put, List.setIfInBounds_toArray, List.set_cons_zero, List.set_cons_succ]
          refine wpAnyH_take (i := 24) (oi := ⟨some 65, _, _, _, _, _⟩) (v := ?_) rfl (by kernel_rfl) (by kernel_rfl) (by kernel_rfl) (fun _ _ _ h => h) (Or.inl ⟨by first | rfl | (simp [Region.wanted, yielded]; done), ?_⟩) hS ?_
          rotate_left
          · intro wz hSw
            clear hSw
            go_simp
            first | done | with_reducible rfl
          try simp only [Act.put, List.setIfInBounds_toArray, List.set_cons_zero, List.set_cons_succ]
          refine wpAnyH_take (i := 25) (oi := ⟨some 66, _, _, _, _, _⟩) (v := ?_) rfl (by kernel_rfl) (by kernel_rfl) (by kernel_rfl) (fun _ _ _ h => h) (Or.inl ⟨by first | rfl | (simp [Region.wanted, yielded]; done), ?_⟩) hS ?_
          rotate_left
          · intro wz hSw
            clear hSw
            go_simp
            first | done | with_reducible rfl
          try simp only [Act.put, List.setIfInBounds_toArray, List.set_cons_zero, List.set_cons_succ]
          refine wpAnyH_take (i := 26) (oi := ⟨some 67, _, _, _, _, _⟩) (v := ?_) rfl (by kernel_rfl) (by kernel_rfl) (by kernel_rfl) (fun _ _ _ h => h) (Or.inl ⟨by first | rfl | (simp [Region.wanted, yielded]; done), ?_⟩) hS ?_
          rotate_left
          · intro wz hSw
            obtain ⟨⟨c0, c1, c2, c3, -⟩, ⟨c4, c5, c6, c7, -⟩, ⟨c8, c9, c10, c11, -⟩⟩ := hA0.out.below hb5 (hSw)
            rw [Nat.add_assoc (off + i * 12)] at c5 c6 c7 c9 c10 c11
            simp only [Nat.reduceAdd] at c5 c6 c7 c9 c10 c11
            clear hSw
            go_simp
            first | done | with_reducible rfl
          try simp only [Act.put, List.setIfInBounds_toArray, List.set_cons_zero, List.set_cons_succ]
          refine wpAnyH_take (i := 29) (oi := ⟨some 70, _, _, _, _, _⟩) (v := ?_) rfl (by kernel_rfl) (by kernel_rfl) (by kernel_rfl) (fun _ _ _ h => h) (Or.inl ⟨by first | rfl | (simp [Region.wanted, yielded]; done), ?_⟩) hS ?_
          rotate_left
          · intro wz hSw
            clear hSw
            go_simp
            first | done | with_reducible rfl
          try simp only [Act.put, List.setIfInBounds_toArray, List.set_cons_zero, List.set_cons_succ]
          refine wpAnyH_take (i := 32) (oi := ⟨some 73, _, _, _, _, _⟩) (v := ?_) rfl (by kernel_rfl) (by kernel_rfl) (by kernel_rfl) (fun _ _ _ h => h) (Or.inl ⟨by first | rfl | (simp [Region.wanted, yielded]; done), ?_⟩) hS ?_
          rotate_left
          · intro wz hSw
            clear hSw
            go_simp
            first | done | with_reducible rfl
          try simp only [Act.put, List.setIfInBounds_toArray, List.set_cons_zero, List.set_cons_succ]
          refine wpAnyH_take (i := 35) (oi := ⟨some 76, _, _, _, _, _⟩) (v := ?_) rfl (by kernel_rfl) (by kernel_rfl) (by kernel_rfl) (fun _ _ _ h => h) (Or.inl ⟨by first | rfl | (simp [Region.wanted, yielded]; done), ?_⟩) hS ?_
          rotate_left
          · intro wz hSw
            clear hSw
            go_simp
            first | done | with_reducible rfl
          try simp only [Act.put, List.setIfInBounds_toArray, List.set_cons_zero, List.set_cons_succ]
          refine wpAnyH_take (i := 36) (oi := ⟨some 77, _, _, _, _, _⟩) (v := ?_) rfl (by kernel_rfl) (by kernel_rfl) (by kernel_rfl) (fun _ _ _ h => h) (Or.inl ⟨by first | rfl | (simp [Region.wanted, yielded]; done), ?_⟩) hS ?_
          rotate_left
          · intro wz hSw
            clear hSw
            go_simp
            first | done | with_reducible rfl
          try simp only [Act.put, List.setIfInBounds_toArray, List.set_cons_zero, List.set_cons_succ]
          refine wpAnyH_ready (rs := [8, 34]) (by kernel_rfl) (by simp) ?_
          refine AllReadyH.cons (o := ⟨some 49, _, _, _, _, _⟩) rfl (fun K hK => ?_) (AllReadyH.cons (o := ⟨some 75, _, _, _, _, _⟩) rfl (fun K hK => ?_) (AllReadyH.nil))
          · go_simp
            refine (HT1.out _).mono ?_
            rintro en v1 ⟨rfl, hbn⟩
            refine hK.out _ _ (hS.trans (hbn.mono hS.size)) (fun hS => ?_)
            clear hK K
            try simp only [Act.put, List.setIfInBounds_toArray, List.set_cons_zero, List.set_cons_succ]
            clear hbn
            have zz : ¬ 9223372036854775807 < V1.size + T1.size := by omega
            refine wpAnyH_take (i := 9) (oi := ⟨some 50, _, _, _, _, _⟩) (v := ?_) rfl (by kernel_rfl) (by kernel_rfl) (by kernel_rfl) (fun _ _ _ h => h) (Or.inl ⟨by first | rfl | (simp [Region.wanted, yielded]; done), ?_⟩) hS ?_
            rotate_left
            · intro wz hSw
              clear hSw
              go_simp
              first | done | with_reducible rfl
            try simp only [Act.put, List.setIfInBounds_toArray, List.set_cons_zero, List.set_cons_succ]
            clear zz
            obtain ⟨V2, hV2⟩ : ∃ V : ByteArray, V = V1 ++ T1 := ⟨_, rfl⟩
            rw [← hV2]
            have wV2 : V2.size ≤ 121002 := by rw [hV2, ByteArray.size_append]; omega
            have HV2 := Lib.hid hV2
            clear hV2
            have zz : ¬ 9223372036854775807 < V2.size + Bs.size := by omega
            refine wpAnyH_take (i := 11) (oi := ⟨some 52, _, _, _, _, _⟩) (v := ?_) rfl (by kernel_rfl) (by kernel_rfl) (by kernel_rfl) (fun _ _ _ h => h) (Or.inl ⟨by first | rfl | (simp [Region.wanted, yielded]; done), ?_⟩) hS ?_
            rotate_left
            · intro wz hSw
              clear hSw
              go_simp
              first | done | with_reducible rfl
            try simp only [Act.put, List.setIfInBounds_toArray, List.set_cons_zero, List.set_cons_succ]
            clear zz
            obtain ⟨V3, hV3⟩ : ∃ V : ByteArray, V = V2 ++ Bs := ⟨_, rfl⟩
            rw [← hV3]
            have wV3 : V3.size ≤ 121004 := by rw [hV3, ByteArray.size_append]; omega
            have HV3 := Lib.hid hV3
            clear hV3
            have zz : ¬ 9223372036854775807 < V3.size + 1 := by omega
            refine wpAnyH_take (i := 12) (oi := ⟨some 53, _, _, _, _, _⟩) (v := ?_) rfl (by kernel_rfl) (by kernel_rfl) (by kernel_rfl) (fun _ _ _ h => h) (Or.inl ⟨by first | rfl | (simp [Region.wanted, yielded]; done), ?_⟩) hS ?_
            rotate_left
            · intro wz hSw
              clear hSw
              go_simp
              first | done | with_reducible rfl
            try simp only [Act.put, List.setIfInBounds_toArray, List.set_cons_zero, List.set_cons_succ]
            clear zz
            obtain ⟨V4, hV4⟩ : ∃ V : ByteArray, V = V3 ++ (⟨#[32]⟩ : ByteArray) := ⟨_, rfl⟩
            rw [← hV4]
            have wV4 : V4.size ≤ 121005 := by rw [hV4, ByteArray.size_append]; have : ((⟨#[32]⟩ : ByteArray) : ByteArray).size = 1 := rfl; omega
            have HV4 := Lib.hid hV4
            clear hV4
            refine wpAnyH_ready (rs := [18, 34]) (by kernel_rfl) (by simp) ?_
            refine AllReadyH.cons (o := ⟨some 59, _, _, _, _, _⟩) rfl (fun K hK => ?_) (AllReadyH.cons (o := ⟨some 75, _, _, _, _, _⟩) rfl (fun K hK => ?_) (AllReadyH.nil))
            · go_simp
              refine (HT2.out _).mono ?_
              rintro en v2 ⟨rfl, hbn⟩
              refine hK.out _ _ (hS.trans (hbn.mono hS.size)) (fun hS => ?_)
              clear hK K
              try simp only [Act.put, List.setIfInBounds_toArray, List.set_cons_zero, List.set_cons_succ]
              clear hbn
              have zz : ¬ 9223372036854775807 < V4.size + T2.size := by omega
              refine wpAnyH_take (i := 19) (oi := ⟨some 60, _, _, _, _, _⟩) (v := ?_) rfl (by kernel_rfl) (by kernel_rfl) (by kernel_rfl) (fun _ _ _ h => h) (Or.inl ⟨by first | rfl | (simp [Region.wanted, yielded]; done), ?_⟩) hS ?_
              rotate_left
              · intro wz hSw
                clear hSw
                go_simp
                first | done | with_reducible rfl
              try simp only [Act.put, List.setIfInBounds_toArray, List.set_cons_zero, List.set_cons_succ]
              clear zz
              obtain ⟨V5, hV5⟩ : ∃ V : ByteArray, V = V4 ++ T2 := ⟨_, rfl⟩
              rw [← hV5]
              have wV5 : V5.size ≤ 122005 := by rw [hV5, ByteArray.size_append]; omega
              have HV5 := Lib.hid hV5
              clear hV5
              have zz : ¬ 9223372036854775807 < V5.size + Bs.size := by omega
              refine wpAnyH_take (i := 21) (oi := ⟨some 62, _, _, _, _, _⟩) (v := ?_) rfl (by kernel_rfl) (by kernel_rfl) (by kernel_rfl) (fun _ _ _ h => h) (Or.inl ⟨by first | rfl | (simp [Region.wanted, yielded]; done), ?_⟩) hS ?_
              rotate_left
              · intro wz hSw
                clear hSw
                go_simp
                first | done | with_reducible rfl
              try simp only [Act.put, List.setIfInBounds_toArray, List.set_cons_zero, List.set_cons_succ]
              clear zz
              obtain ⟨V6, hV6⟩ : ∃ V : ByteArray, V = V5 ++ Bs := ⟨_, rfl⟩
              rw [← hV6]
              have wV6 : V6.size ≤ 122007 := by rw [hV6, ByteArray.size_append]; omega
              have HV6 := Lib.hid hV6
              clear hV6
              refine wpAnyH_ready (rs := [27, 34]) (by kernel_rfl) (by simp) ?_
              refine AllReadyH.cons (o := ⟨some 68, _, _, _, _, _⟩) rfl (fun K hK => ?_) (AllReadyH.cons (o := ⟨some 75, _, _, _, _, _⟩) rfl (fun K hK => ?_) (AllReadyH.nil))
              · go_simp
                refine (HT3.out _).mono ?_
                rintro en v3 ⟨rfl, hbn⟩
                refine hK.out _ _ (hS.trans (hbn.mono hS.size)) (fun hS => ?_)
                clear hK K
                try simp only [Act.put, List.setIfInBounds_toArray, List.set_cons_zero, List.set_cons_succ]
                clear hbn
                have zz : ¬ 9223372036854775807 < V6.size + T3.size := by omega
                refine wpAnyH_take (i := 28) (oi := ⟨some 69, _, _, _, _, _⟩) (v := ?_) rfl (by kernel_rfl) (by kernel_rfl) (by kernel_rfl) (fun _ _ _ h => h) (Or.inl ⟨by first | rfl | (simp [Region.wanted, yielded]; done), ?_⟩) hS ?_
                rotate_left
                · intro wz hSw
                  clear hSw
                  go_simp
                  first | done | with_reducible rfl
                try simp only [Act.put, List.setIfInBounds_toArray, List.set_cons_zero, List.set_cons_succ]
                clear zz
                obtain ⟨V7, hV7⟩ : ∃ V : ByteArray, V = V6 ++ T3 := ⟨_, rfl⟩
                rw [← hV7]
                have wV7 : V7.size ≤ 123007 := by rw [hV7, ByteArray.size_append]; omega
                have HV7 := Lib.hid hV7
                clear hV7
                have zz : ¬ 9223372036854775807 < V7.size + Bs.size := by omega
                refine wpAnyH_take (i := 30) (oi := ⟨some 71, _, _, _, _, _⟩) (v := ?_) rfl (by kernel_rfl) (by kernel_rfl) (by kernel_rfl) (fun _ _ _ h => h) (Or.inl ⟨by first | rfl | (simp [Region.wanted, yielded]; done), ?_⟩) hS ?_
                rotate_left
                · intro wz hSw
                  clear hSw
                  go_simp
                  first | done | with_reducible rfl
                try simp only [Act.put, List.setIfInBounds_toArray, List.set_cons_zero, List.set_cons_succ]
                clear zz
                obtain ⟨V8, hV8⟩ : ∃ V : ByteArray, V = V7 ++ Bs := ⟨_, rfl⟩
                rw [← hV8]
                have wV8 : V8.size ≤ 123009 := by rw [hV8, ByteArray.size_append]; omega
                have HV8 := Lib.hid hV8
                clear hV8
                have zz : ¬ 9223372036854775807 < V8.size + 1 := by omega
                refine wpAnyH_take (i := 31) (oi := ⟨some 72, _, _, _, _, _⟩) (v := ?_) rfl (by kernel_rfl) (by kernel_rfl) (by kernel_rfl) (fun _ _ _ h => h) (Or.inl ⟨by first | rfl | (simp [Region.wanted, yielded]; done), ?_⟩) hS ?_
                rotate_left
                · intro wz hSw
                  clear hSw
                  go_simp
                  first | done | with_reducible rfl
                try simp only [Act.put, List.setIfInBounds_toArray, List.set_cons_zero, List.set_cons_succ]
                clear zz
                obtain ⟨V9, hV9⟩ : ∃ V : ByteArray, V = V8 ++ (⟨#[46]⟩ : ByteArray) := ⟨_, rfl⟩
                rw [← hV9]
                have wV9 : V9.size ≤ 123010 := by rw [hV9, ByteArray.size_append]; have : ((⟨#[46]⟩ : ByteArray) : ByteArray).size = 1 := rfl; omega
                have HV9 := Lib.hid hV9
                clear hV9
                have zz : ¬ 9223372036854775807 < V9.size + Bs.size := by omega
                refine wpAnyH_take (i := 33) (oi := ⟨some 74, _, _, _, _, _⟩) (v := ?_) rfl (by kernel_rfl) (by kernel_rfl) (by kernel_rfl) (fun _ _ _ h => h) (Or.inl ⟨by first | rfl | (simp [Region.wanted, yielded]; done), ?_⟩) hS ?_
                rotate_left
                · intro wz hSw
                  clear hSw
                  go_simp
                  first | done | with_reducible rfl
                try simp only [Act.put, List.setIfInBounds_toArray, List.set_cons_zero, List.set_cons_succ]
                clear zz
                obtain ⟨VA, hVA⟩ : ∃ V : ByteArray, V = V9 ++ Bs := ⟨_, rfl⟩
                rw [← hVA]
                have wVA : VA.size ≤ 123012 := by rw [hVA, ByteArray.size_append]; omega
                have HVA := Lib.hid hVA
                clear hVA
                refine wpAnyH_ready (rs := [34, 37]) (by kernel_rfl) (by simp) ?_
                refine AllReadyH.cons (o := ⟨some 75, _, _, _, _, _⟩) rfl (fun K hK => ?_) (AllReadyH.cons (o := ⟨some 78, _, _, _, _, _⟩) rfl (fun K hK => ?_) (AllReadyH.nil))
                · go_simp
                  refine hK.out _ _ (hS.alloc hS.size _) (fun hS => ?_)
                  clear hK K
                  try simp only [Act.put, List.setIfInBounds_toArray, List.set_cons_zero, List.set_cons_succ]
                  have hS' : (fun (W : World) => Below w5.heap.size w5 W ∧ Blk W v3.heap.size #[.string ⟨#[10]⟩, .string ⟨#[35, 32, 99, 10]⟩, .string ⟨#[13, 10]⟩, .string ⟨#[10, 10]⟩, .string ⟨#[10, 32, 35, 32, 100, 32, 46, 32, 10]⟩] 9) _ := ⟨hS, Blk.new v3 #[.string ⟨#[10]⟩, .string ⟨#[35, 32, 99, 10]⟩, .string ⟨#[13, 10]⟩, .string ⟨#[10, 10]⟩, .string ⟨#[10, 32, 35, 32, 100, 32, 46, 32, 10]⟩] 9⟩
                  refine wpAnyH_mono (S' := fun (W : World) => Below w5.heap.size w5 W ∧ Blk W v3.heap.size #[.string ⟨#[10]⟩, .string ⟨#[35, 32, 99, 10]⟩, .string ⟨#[13, 10]⟩, .string ⟨#[10, 10]⟩, .string ⟨#[10, 32, 35, 32, 100, 32, 46, 32, 10]⟩] 9) (fun _ h => h.1) _ _ _ _ ?_
                  clear hS
                  have hS := hS'
                  clear hS'
                  generalize World.alloc v3 _ = v3a at hS ⊢
                  generalize v3.heap.size = ge at hS ⊢
                  refine wpAnyH_ready (rs := [37]) (by kernel_rfl) (by simp) ?_
                  refine AllReadyH.cons (o := ⟨some 78, _, _, _, _, _⟩) rfl (fun K hK => ?_) (AllReadyH.nil)
                  · go_simp
                    refine (mod5b_any _ _).mono ?_
                    rintro en v4 ⟨⟨q2, hq2, rfl⟩, hv4⟩
                    subst hv4
                    have hq2i : (q2 : Int) < 5 := by omega
                    refine hK.out _ _ (hS) (fun hS => ?_)
                    clear hK K
                    try simp only [Act.put, List.setIfInBounds_toArray, List.set_cons_zero, List.set_cons_succ]
                    obtain ⟨E, hE⟩ : ∃ E, E = bl (endsL q2) := ⟨_, rfl⟩
                    have sE : E.size ≤ 9 := by rw [hE, bl_size]; exact ends_len _
                    have HEE := Lib.hid hE
                    clear hE
                    refine wpAnyH_take (i := 38) (oi := ⟨some 79, _, _, _, _, _⟩) (v := ?_) rfl (by kernel_rfl) (by kernel_rfl) (by kernel_rfl) (fun _ _ _ h => h) (Or.inl ⟨by first | rfl | (simp [Region.wanted, yielded]; done), ?_⟩) hS ?_
                    rotate_left
                    · intro wz hSw
                      clear hSw
                      go_simp
                      first | done | with_reducible rfl
                    try simp only [Act.put, List.setIfInBounds_toArray, List.set_cons_zero, List.set_cons_succ]
                    refine wpAnyH_take (i := 39) (oi := ⟨some 80, _, _, _, _, _⟩) (v := ?_) rfl (by kernel_rfl) (by kernel_rfl) (by kernel_rfl) (fun _ _ _ h => h) (Or.inl ⟨by first | rfl | (simp [Region.wanted, yielded]; done), ?_⟩) hS ?_
                    rotate_left
                    · intro wz hSw
                      have ce := en_cell hSw.2 q2 hq2
                      rw [← HEE.out] at ce
                      clear hSw
                      go_simp
                      first | done | with_reducible rfl
                    try simp only [Act.put, List.setIfInBounds_toArray, List.set_cons_zero, List.set_cons_succ]
                    have zz : ¬ 9223372036854775807 < VA.size + E.size := by omega
                    refine wpAnyH_take (i := 40) (oi := ⟨some 81, _, _, _, _, _⟩) (v := ?_) rfl (by kernel_rfl) (by kernel_rfl) (by kernel_rfl) (fun _ _ _ h => h) (Or.inl ⟨by first | rfl | (simp [Region.wanted, yielded]; done), ?_⟩) hS ?_
                    rotate_left
                    · intro wz hSw
                      clear hSw
                      go_simp
                      first | done | with_reducible rfl
                    try simp only [Act.put, List.setIfInBounds_toArray, List.set_cons_zero, List.set_cons_succ]
                    clear zz
                    obtain ⟨VB, hVB⟩ : ∃ V : ByteArray, V = VA ++ E := ⟨_, rfl⟩
                    rw [← hVB]
                    have wVB : VB.size ≤ 123021 := by rw [hVB, ByteArray.size_append]; omega
                    have HVB := Lib.hid hVB
                    clear hVB
                    refine wpAnyH_take (i := 41) (oi := ⟨some 6, _, _, _, _, _⟩) (v := ?_) rfl (by kernel_rfl) (by kernel_rfl) (by kernel_rfl) (fun _ _ _ h => h) (Or.inl ⟨by first | rfl | (simp [Region.wanted, yielded]; done), ?_⟩) hS ?_
                    rotate_left
                    · intro wz hSw
                      clear hSw
                      go_simp
                      first | done | with_reducible rfl
                    try simp only [Act.put, List.setIfInBounds_toArray, List.set_cons_zero, List.set_cons_succ]
                    refine wpAnyH_done (by kernel_rfl) ?_ _
                    go_wp2_with fail
                    go_roundw
                    case rel => exact ⟨i + 1, C ++ [⟨x, blankA q, q2⟩], VB, by omega, by go_num, rfl, by rw [HVB.out, HVA.out, HV9.out, HV8.out, HV7.out, HV6.out, HV5.out, HV4.out, HV3.out, HV2.out, HV1.out]; exact cat_eq HFE.out HBS.out HE1.out HE2.out HE3.out HEE.out, by rw [take_snoc R i hil, List.map_append, HC.out, HX.out]; rfl, fun c hc => (List.mem_append.1 hc).elim (HOK.out c) (fun h => by obtain rfl := List.mem_singleton.1 h; exact ⟨HGX.out.fit, blank_bk q⟩), by rw [List.flatMap_append, List.length_append, List.flatMap_singleton]; have := ch_len x HGX.out q q2; have := HLEN.out; omega, hS.1⟩
                    case measure => simp [intOf]; omega
                · go_simp
                  refine (mod5b_any _ _).mono ?_
                  rintro en v4 ⟨⟨q2, hq2, rfl⟩, hv4⟩
                  subst hv4
                  have hq2i : (q2 : Int) < 5 := by omega
                  refine hK.out _ _ (hS) (fun hS => ?_)
                  clear hK K
                  try simp only [Act.put, List.setIfInBounds_toArray, List.set_cons_zero, List.set_cons_succ]
                  refine wpAnyH_ready (rs := [34]) (by kernel_rfl) (by simp) ?_
                  refine AllReadyH.cons (o := ⟨some 75, _, _, _, _, _⟩) rfl (fun K hK => ?_) (AllReadyH.nil)
                  · go_simp
                    refine hK.out _ _ (hS.alloc hS.size _) (fun hS => ?_)
                    clear hK K
                    try simp only [Act.put, List.setIfInBounds_toArray, List.set_cons_zero, List.set_cons_succ]
                    have hS' : (fun (W : World) => Below w5.heap.size w5 W ∧ Blk W v4.heap.size #[.string ⟨#[10]⟩, .string ⟨#[35, 32, 99, 10]⟩, .string ⟨#[13, 10]⟩, .string ⟨#[10, 10]⟩, .string ⟨#[10, 32, 35, 32, 100, 32, 46, 32, 10]⟩] 9) _ := ⟨hS, Blk.new v4 #[.string ⟨#[10]⟩, .string ⟨#[35, 32, 99, 10]⟩, .string ⟨#[13, 10]⟩, .string ⟨#[10, 10]⟩, .string ⟨#[10, 32, 35, 32, 100, 32, 46, 32, 10]⟩] 9⟩
                    refine wpAnyH_mono (S' := fun (W : World) => Below w5.heap.size w5 W ∧ Blk W v4.heap.size #[.string ⟨#[10]⟩, .string ⟨#[35, 32, 99, 10]⟩, .string ⟨#[13, 10]⟩, .string ⟨#[10, 10]⟩, .string ⟨#[10, 32, 35, 32, 100, 32, 46, 32, 10]⟩] 9) (fun _ h => h.1) _ _ _ _ ?_
                    clear hS
                    have hS := hS'
                    clear hS'
                    generalize World.alloc v4 _ = v4a at hS ⊢
                    generalize v4.heap.size = ge at hS ⊢
                    obtain ⟨E, hE⟩ : ∃ E, E = bl (endsL q2) := ⟨_, rfl⟩
                    have sE : E.size ≤ 9 := by rw [hE, bl_size]; exact ends_len _
                    have HEE := Lib.hid hE
                    clear hE
                    refine wpAnyH_take (i := 38) (oi := ⟨some 79, _, _, _, _, _⟩) (v := ?_) rfl (by kernel_rfl) (by kernel_rfl) (by kernel_rfl) (fun _ _ _ h => h) (Or.inl ⟨by first | rfl | (simp [Region.wanted, yielded]; done), ?_⟩) hS ?_
                    rotate_left
                    · intro wz hSw
                      clear hSw
                      go_simp
                      first | done | with_reducible rfl
                    try simp only [Act.put, List.setIfInBounds_toArray, List.set_cons_zero, List.set_cons_succ]
                    refine wpAnyH_take (i := 39) (oi := ⟨some 80, _, _, _, _, _⟩) (v := ?_) rfl (by kernel_rfl) (by kernel_rfl) (by kernel_rfl) (fun _ _ _ h => h) (Or.inl ⟨by first | rfl | (simp [Region.wanted, yielded]; done), ?_⟩) hS ?_
                    rotate_left
                    · intro wz hSw
                      have ce := en_cell hSw.2 q2 hq2
                      rw [← HEE.out] at ce
                      clear hSw
                      go_simp
                      first | done | with_reducible rfl
                    try simp only [Act.put, List.setIfInBounds_toArray, List.set_cons_zero, List.set_cons_succ]
                    have zz : ¬ 9223372036854775807 < VA.size + E.size := by omega
                    refine wpAnyH_take (i := 40) (oi := ⟨some 81, _, _, _, _, _⟩) (v := ?_) rfl (by kernel_rfl) (by kernel_rfl) (by kernel_rfl) (fun _ _ _ h => h) (Or.inl ⟨by first | rfl | (simp [Region.wanted, yielded]; done), ?_⟩) hS ?_
                    rotate_left
                    · intro wz hSw
                      clear hSw
                      go_simp
                      first | done | with_reducible rfl
                    try simp only [Act.put, List.setIfInBounds_toArray, List.set_cons_zero, List.set_cons_succ]
                    clear zz
                    obtain ⟨VB, hVB⟩ : ∃ V : ByteArray, V = VA ++ E := ⟨_, rfl⟩
                    rw [← hVB]
                    have wVB : VB.size ≤ 123021 := by rw [hVB, ByteArray.size_append]; omega
                    have HVB := Lib.hid hVB
                    clear hVB
                    refine wpAnyH_take (i := 41) (oi := ⟨some 6, _, _, _, _, _⟩) (v := ?_) rfl (by kernel_rfl) (by kernel_rfl) (by kernel_rfl) (fun _ _ _ h => h) (Or.inl ⟨by first | rfl | (simp [Region.wanted, yielded]; done), ?_⟩) hS ?_
                    rotate_left
                    · intro wz hSw
                      clear hSw
                      go_simp
                      first | done | with_reducible rfl
                    try simp only [Act.put, List.setIfInBounds_toArray, List.set_cons_zero, List.set_cons_succ]
                    refine wpAnyH_done (by kernel_rfl) ?_ _
                    go_wp2_with fail
                    go_roundw
                    case rel => exact ⟨i + 1, C ++ [⟨x, blankA q, q2⟩], VB, by omega, by go_num, rfl, by rw [HVB.out, HVA.out, HV9.out, HV8.out, HV7.out, HV6.out, HV5.out, HV4.out, HV3.out, HV2.out, HV1.out]; exact cat_eq HFE.out HBS.out HE1.out HE2.out HE3.out HEE.out, by rw [take_snoc R i hil, List.map_append, HC.out, HX.out]; rfl, fun c hc => (List.mem_append.1 hc).elim (HOK.out c) (fun h => by obtain rfl := List.mem_singleton.1 h; exact ⟨HGX.out.fit, blank_bk q⟩), by rw [List.flatMap_append, List.length_append, List.flatMap_singleton]; have := ch_len x HGX.out q q2; have := HLEN.out; omega, hS.1⟩
                    case measure => simp [intOf]; omega
              · go_simp
                refine hK.out _ _ (hS.alloc hS.size _) (fun hS => ?_)
                clear hK K
                try simp only [Act.put, List.setIfInBounds_toArray, List.set_cons_zero, List.set_cons_succ]
                have hS' : (fun (W : World) => Below w5.heap.size w5 W ∧ Blk W v2.heap.size #[.string ⟨#[10]⟩, .string ⟨#[35, 32, 99, 10]⟩, .string ⟨#[13, 10]⟩, .string ⟨#[10, 10]⟩, .string ⟨#[10, 32, 35, 32, 100, 32, 46, 32, 10]⟩] 9) _ := ⟨hS, Blk.new v2 #[.string ⟨#[10]⟩, .string ⟨#[35, 32, 99, 10]⟩, .string ⟨#[13, 10]⟩, .string ⟨#[10, 10]⟩, .string ⟨#[10, 32, 35, 32, 100, 32, 46, 32, 10]⟩] 9⟩
                refine wpAnyH_mono (S' := fun (W : World) => Below w5.heap.size w5 W ∧ Blk W v2.heap.size #[.string ⟨#[10]⟩, .string ⟨#[35, 32, 99, 10]⟩, .string ⟨#[13, 10]⟩, .string ⟨#[10, 10]⟩, .string ⟨#[10, 32, 35, 32, 100, 32, 46, 32, 10]⟩] 9) (fun _ h => h.1) _ _ _ _ ?_
                clear hS
                have hS := hS'
                clear hS'
                generalize World.alloc v2 _ = v2a at hS ⊢
                generalize v2.heap.size = ge at hS ⊢
                refine wpAnyH_ready (rs := [27]) (by kernel_rfl) (by simp) ?_
                refine AllReadyH.cons (o := ⟨some 68, _, _, _, _, _⟩) rfl (fun K hK => ?_) (AllReadyH.nil)
                · go_simp
                  refine (HT3.out _).mono ?_
                  rintro en v3 ⟨rfl, hbn⟩
                  refine hK.out _ _ (⟨hS.1.trans (hbn.mono hS.1.size), blk_mv hS.2 hbn⟩) (fun hS => ?_)
                  clear hK K
                  try simp only [Act.put, List.setIfInBounds_toArray, List.set_cons_zero, List.set_cons_succ]
                  clear hbn
                  have zz : ¬ 9223372036854775807 < V6.size + T3.size := by omega
                  refine wpAnyH_take (i := 28) (oi := ⟨some 69, _, _, _, _, _⟩) (v := ?_) rfl (by kernel_rfl) (by kernel_rfl) (by kernel_rfl) (fun _ _ _ h => h) (Or.inl ⟨by first | rfl | (simp [Region.wanted, yielded]; done), ?_⟩) hS ?_
                  rotate_left
                  · intro wz hSw
                    clear hSw
                    go_simp
                    first | done | with_reducible rfl
                  try simp only [Act.put, List.setIfInBounds_toArray, List.set_cons_zero, List.set_cons_succ]
                  clear zz
                  obtain ⟨V7, hV7⟩ : ∃ V : ByteArray, V = V6 ++ T3 := ⟨_, rfl⟩
                  rw [← hV7]
                  have wV7 : V7.size ≤ 123007 := by rw [hV7, ByteArray.size_append]; omega
                  have HV7 := Lib.hid hV7
                  clear hV7
                  have zz : ¬ 9223372036854775807 < V7.size + Bs.size := by omega
                  refine wpAnyH_take (i := 30) (oi := ⟨some 71, _, _, _, _, _⟩) (v := ?_) rfl (by kernel_rfl) (by kernel_rfl) (by kernel_rfl) (fun _ _ _ h => h) (Or.inl ⟨by first | rfl | (simp [Region.wanted, yielded]; done), ?_⟩) hS ?_
                  rotate_left
                  · intro wz hSw
                    clear hSw
                    go_simp
                    first | done | with_reducible rfl
                  try simp only [Act.put, List.setIfInBounds_toArray, List.set_cons_zero, List.set_cons_succ]
                  clear zz
                  obtain ⟨V8, hV8⟩ : ∃ V : ByteArray, V = V7 ++ Bs := ⟨_, rfl⟩
                  rw [← hV8]
                  have wV8 : V8.size ≤ 123009 := by rw [hV8, ByteArray.size_append]; omega
                  have HV8 := Lib.hid hV8
                  clear hV8
                  have zz : ¬ 9223372036854775807 < V8.size + 1 := by omega
                  refine wpAnyH_take (i := 31) (oi := ⟨some 72, _, _, _, _, _⟩) (v := ?_) rfl (by kernel_rfl) (by kernel_rfl) (by kernel_rfl) (fun _ _ _ h => h) (Or.inl ⟨by first | rfl | (simp [Region.wanted, yielded]; done), ?_⟩) hS ?_
                  rotate_left
                  · intro wz hSw
                    clear hSw
                    go_simp
                    first | done | with_reducible rfl
                  try simp only [Act.put, List.setIfInBounds_toArray, List.set_cons_zero, List.set_cons_succ]
                  clear zz
                  obtain ⟨V9, hV9⟩ : ∃ V : ByteArray, V = V8 ++ (⟨#[46]⟩ : ByteArray) := ⟨_, rfl⟩
                  rw [← hV9]
                  have wV9 : V9.size ≤ 123010 := by rw [hV9, ByteArray.size_append]; have : ((⟨#[46]⟩ : ByteArray) : ByteArray).size = 1 := rfl; omega
                  have HV9 := Lib.hid hV9
                  clear hV9
                  have zz : ¬ 9223372036854775807 < V9.size + Bs.size := by omega
                  refine wpAnyH_take (i := 33) (oi := ⟨some 74, _, _, _, _, _⟩) (v := ?_) rfl (by kernel_rfl) (by kernel_rfl) (by kernel_rfl) (fun _ _ _ h => h) (Or.inl ⟨by first | rfl | (simp [Region.wanted, yielded]; done), ?_⟩) hS ?_
                  rotate_left
                  · intro wz hSw
                    clear hSw
                    go_simp
                    first | done | with_reducible rfl
                  try simp only [Act.put, List.setIfInBounds_toArray, List.set_cons_zero, List.set_cons_succ]
                  clear zz
                  obtain ⟨VA, hVA⟩ : ∃ V : ByteArray, V = V9 ++ Bs := ⟨_, rfl⟩
                  rw [← hVA]
                  have wVA : VA.size ≤ 123012 := by rw [hVA, ByteArray.size_append]; omega
                  have HVA := Lib.hid hVA
                  clear hVA
                  refine wpAnyH_ready (rs := [37]) (by kernel_rfl) (by simp) ?_
                  refine AllReadyH.cons (o := ⟨some 78, _, _, _, _, _⟩) rfl (fun K hK => ?_) (AllReadyH.nil)
                  · go_simp
                    refine (mod5b_any _ _).mono ?_
                    rintro en v4 ⟨⟨q2, hq2, rfl⟩, hv4⟩
                    subst hv4
                    have hq2i : (q2 : Int) < 5 := by omega
                    refine hK.out _ _ (hS) (fun hS => ?_)
                    clear hK K
                    try simp only [Act.put, List.setIfInBounds_toArray, List.set_cons_zero, List.set_cons_succ]
                    obtain ⟨E, hE⟩ : ∃ E, E = bl (endsL q2) := ⟨_, rfl⟩
                    have sE : E.size ≤ 9 := by rw [hE, bl_size]; exact ends_len _
                    have HEE := Lib.hid hE
                    clear hE
                    refine wpAnyH_take (i := 38) (oi := ⟨some 79, _, _, _, _, _⟩) (v := ?_) rfl (by kernel_rfl) (by kernel_rfl) (by kernel_rfl) (fun _ _ _ h => h) (Or.inl ⟨by first | rfl | (simp [Region.wanted, yielded]; done), ?_⟩) hS ?_
                    rotate_left
                    · intro wz hSw
                      clear hSw
                      go_simp
                      first | done | with_reducible rfl
                    try simp only [Act.put, List.setIfInBounds_toArray, List.set_cons_zero, List.set_cons_succ]
                    refine wpAnyH_take (i := 39) (oi := ⟨some 80, _, _, _, _, _⟩) (v := ?_) rfl (by kernel_rfl) (by kernel_rfl) (by kernel_rfl) (fun _ _ _ h => h) (Or.inl ⟨by first | rfl | (simp [Region.wanted, yielded]; done), ?_⟩) hS ?_
                    rotate_left
                    · intro wz hSw
                      have ce := en_cell hSw.2 q2 hq2
                      rw [← HEE.out] at ce
                      clear hSw
                      go_simp
                      first | done | with_reducible rfl
                    try simp only [Act.put, List.setIfInBounds_toArray, List.set_cons_zero, List.set_cons_succ]
                    have zz : ¬ 9223372036854775807 < VA.size + E.size := by omega
                    refine wpAnyH_take (i := 40) (oi := ⟨some 81, _, _, _, _, _⟩) (v := ?_) rfl (by kernel_rfl) (by kernel_rfl) (by kernel_rfl) (fun _ _ _ h => h) (Or.inl ⟨by first | rfl | (simp [Region.wanted, yielded]; done), ?_⟩) hS ?_
                    rotate_left
                    · intro wz hSw
                      clear hSw
                      go_simp
                      first | done | with_reducible rfl
                    try simp only [Act.put, List.setIfInBounds_toArray, List.set_cons_zero, List.set_cons_succ]
                    clear zz
                    obtain ⟨VB, hVB⟩ : ∃ V : ByteArray, V = VA ++ E := ⟨_, rfl⟩
                    rw [← hVB]
                    have wVB : VB.size ≤ 123021 := by rw [hVB, ByteArray.size_append]; omega
                    have HVB := Lib.hid hVB
                    clear hVB
                    refine wpAnyH_take (i := 41) (oi := ⟨some 6, _, _, _, _, _⟩) (v := ?_) rfl (by kernel_rfl) (by kernel_rfl) (by kernel_rfl) (fun _ _ _ h => h) (Or.inl ⟨by first | rfl | (simp [Region.wanted, yielded]; done), ?_⟩) hS ?_
                    rotate_left
                    · intro wz hSw
                      clear hSw
                      go_simp
                      first | done | with_reducible rfl
                    try simp only [Act.put, List.setIfInBounds_toArray, List.set_cons_zero, List.set_cons_succ]
                    refine wpAnyH_done (by kernel_rfl) ?_ _
                    go_wp2_with fail
                    go_roundw
                    case rel => exact ⟨i + 1, C ++ [⟨x, blankA q, q2⟩], VB, by omega, by go_num, rfl, by rw [HVB.out, HVA.out, HV9.out, HV8.out, HV7.out, HV6.out, HV5.out, HV4.out, HV3.out, HV2.out, HV1.out]; exact cat_eq HFE.out HBS.out HE1.out HE2.out HE3.out HEE.out, by rw [take_snoc R i hil, List.map_append, HC.out, HX.out]; rfl, fun c hc => (List.mem_append.1 hc).elim (HOK.out c) (fun h => by obtain rfl := List.mem_singleton.1 h; exact ⟨HGX.out.fit, blank_bk q⟩), by rw [List.flatMap_append, List.length_append, List.flatMap_singleton]; have := ch_len x HGX.out q q2; have := HLEN.out; omega, hS.1⟩
                    case measure => simp [intOf]; omega
            · go_simp
              refine hK.out _ _ (hS.alloc hS.size _) (fun hS => ?_)
              clear hK K
              try simp only [Act.put, List.setIfInBounds_toArray, List.set_cons_zero, List.set_cons_succ]
              have hS' : (fun (W : World) => Below w5.heap.size w5 W ∧ Blk W v1.heap.size #[.string ⟨#[10]⟩, .string ⟨#[35, 32, 99, 10]⟩, .string ⟨#[13, 10]⟩, .string ⟨#[10, 10]⟩, .string ⟨#[10, 32, 35, 32, 100, 32, 46, 32, 10]⟩] 9) _ := ⟨hS, Blk.new v1 #[.string ⟨#[10]⟩, .string ⟨#[35, 32, 99, 10]⟩, .string ⟨#[13, 10]⟩, .string ⟨#[10, 10]⟩, .string ⟨#[10, 32, 35, 32, 100, 32, 46, 32, 10]⟩] 9⟩
              refine wpAnyH_mono (S' := fun (W : World) => Below w5.heap.size w5 W ∧ Blk W v1.heap.size #[.string ⟨#[10]⟩, .string ⟨#[35, 32, 99, 10]⟩, .string ⟨#[13, 10]⟩, .string ⟨#[10, 10]⟩, .string ⟨#[10, 32, 35, 32, 100, 32, 46, 32, 10]⟩] 9) (fun _ h => h.1) _ _ _ _ ?_
              clear hS
              have hS := hS'
              clear hS'
              generalize World.alloc v1 _ = v1a at hS ⊢
              generalize v1.heap.size = ge at hS ⊢
              refine wpAnyH_ready (rs := [18]) (by kernel_rfl) (by simp) ?_
              refine AllReadyH.cons (o := ⟨some 59, _, _, _, _, _⟩) rfl (fun K hK => ?_) (AllReadyH.nil)
              · go_simp
                refine (HT2.out _).mono ?_
                rintro en v2 ⟨rfl, hbn⟩
                refine hK.out _ _ (⟨hS.1.trans (hbn.mono hS.1.size), blk_mv hS.2 hbn⟩) (fun hS => ?_)
                clear hK K
                try simp only [Act.put, List.setIfInBounds_toArray, List.set_cons_zero, List.set_cons_succ]
                clear hbn
                have zz : ¬ 9223372036854775807 < V4.size + T2.size := by omega
                refine wpAnyH_take (i := 19) (oi := ⟨some 60, _, _, _, _, _⟩) (v := ?_) rfl (by kernel_rfl) (by kernel_rfl) (by kernel_rfl) (fun _ _ _ h => h) (Or.inl ⟨by first | rfl | (simp [Region.wanted, yielded]; done), ?_⟩) hS ?_
                rotate_left
                · intro wz hSw
                  clear hSw
                  go_simp
                  first | done | with_reducible rfl
                try simp only [Act.put, List.setIfInBounds_toArray, List.set_cons_zero, List.set_cons_succ]
                clear zz
                obtain ⟨V5, hV5⟩ : ∃ V : ByteArray, V = V4 ++ T2 := ⟨_, rfl⟩
                rw [← hV5]
                have wV5 : V5.size ≤ 122005 := by rw [hV5, ByteArray.size_append]; omega
                have HV5 := Lib.hid hV5
                clear hV5
                have zz : ¬ 9223372036854775807 < V5.size + Bs.size := by omega
                refine wpAnyH_take (i := 21) (oi := ⟨some 62, _, _, _, _, _⟩) (v := ?_) rfl (by kernel_rfl) (by kernel_rfl) (by kernel_rfl) (fun _ _ _ h => h) (Or.inl ⟨by first | rfl | (simp [Region.wanted, yielded]; done), ?_⟩) hS ?_
                rotate_left
                · intro wz hSw
                  clear hSw
                  go_simp
                  first | done | with_reducible rfl
                try simp only [Act.put, List.setIfInBounds_toArray, List.set_cons_zero, List.set_cons_succ]
                clear zz
                obtain ⟨V6, hV6⟩ : ∃ V : ByteArray, V = V5 ++ Bs := ⟨_, rfl⟩
                rw [← hV6]
                have wV6 : V6.size ≤ 122007 := by rw [hV6, ByteArray.size_append]; omega
                have HV6 := Lib.hid hV6
                clear hV6
                refine wpAnyH_ready (rs := [27]) (by kernel_rfl) (by simp) ?_
                refine AllReadyH.cons (o := ⟨some 68, _, _, _, _, _⟩) rfl (fun K hK => ?_) (AllReadyH.nil)
                · go_simp
                  refine (HT3.out _).mono ?_
                  rintro en v3 ⟨rfl, hbn⟩
                  refine hK.out _ _ (⟨hS.1.trans (hbn.mono hS.1.size), blk_mv hS.2 hbn⟩) (fun hS => ?_)
                  clear hK K
                  try simp only [Act.put, List.setIfInBounds_toArray, List.set_cons_zero, List.set_cons_succ]
                  clear hbn
                  have zz : ¬ 9223372036854775807 < V6.size + T3.size := by omega
                  refine wpAnyH_take (i := 28) (oi := ⟨some 69, _, _, _, _, _⟩) (v := ?_) rfl (by kernel_rfl) (by kernel_rfl) (by kernel_rfl) (fun _ _ _ h => h) (Or.inl ⟨by first | rfl | (simp [Region.wanted, yielded]; done), ?_⟩) hS ?_
                  rotate_left
                  · intro wz hSw
                    clear hSw
                    go_simp
                    first | done | with_reducible rfl
                  try simp only [Act.put, List.setIfInBounds_toArray, List.set_cons_zero, List.set_cons_succ]
                  clear zz
                  obtain ⟨V7, hV7⟩ : ∃ V : ByteArray, V = V6 ++ T3 := ⟨_, rfl⟩
                  rw [← hV7]
                  have wV7 : V7.size ≤ 123007 := by rw [hV7, ByteArray.size_append]; omega
                  have HV7 := Lib.hid hV7
                  clear hV7
                  have zz : ¬ 9223372036854775807 < V7.size + Bs.size := by omega
                  refine wpAnyH_take (i := 30) (oi := ⟨some 71, _, _, _, _, _⟩) (v := ?_) rfl (by kernel_rfl) (by kernel_rfl) (by kernel_rfl) (fun _ _ _ h => h) (Or.inl ⟨by first | rfl | (simp [Region.wanted, yielded]; done), ?_⟩) hS ?_
                  rotate_left
                  · intro wz hSw
                    clear hSw
                    go_simp
                    first | done | with_reducible rfl
                  try simp only [Act.put, List.setIfInBounds_toArray, List.set_cons_zero, List.set_cons_succ]
                  clear zz
                  obtain ⟨V8, hV8⟩ : ∃ V : ByteArray, V = V7 ++ Bs := ⟨_, rfl⟩
                  rw [← hV8]
                  have wV8 : V8.size ≤ 123009 := by rw [hV8, ByteArray.size_append]; omega
                  have HV8 := Lib.hid hV8
                  clear hV8
                  have zz : ¬ 9223372036854775807 < V8.size + 1 := by omega
                  refine wpAnyH_take (i := 31) (oi := ⟨some 72, _, _, _, _, _⟩) (v := ?_) rfl (by kernel_rfl) (by kernel_rfl) (by kernel_rfl) (fun _ _ _ h => h) (Or.inl ⟨by first | rfl | (simp [Region.wanted, yielded]; done), ?_⟩) hS ?_
                  rotate_left
                  · intro wz hSw
                    clear hSw
                    go_simp
                    first | done | with_reducible rfl
                  try simp only [Act.put, List.setIfInBounds_toArray, List.set_cons_zero, List.set_cons_succ]
                  clear zz
                  obtain ⟨V9, hV9⟩ : ∃ V : ByteArray, V = V8 ++ (⟨#[46]⟩ : ByteArray) := ⟨_, rfl⟩
                  rw [← hV9]
                  have wV9 : V9.size ≤ 123010 := by rw [hV9, ByteArray.size_append]; have : ((⟨#[46]⟩ : ByteArray) : ByteArray).size = 1 := rfl; omega
                  have HV9 := Lib.hid hV9
                  clear hV9
                  have zz : ¬ 9223372036854775807 < V9.size + Bs.size := by omega
                  refine wpAnyH_take (i := 33) (oi := ⟨some 74, _, _, _, _, _⟩) (v := ?_) rfl (by kernel_rfl) (by kernel_rfl) (by kernel_rfl) (fun _ _ _ h => h) (Or.inl ⟨by first | rfl | (simp [Region.wanted, yielded]; done), ?_⟩) hS ?_
                  rotate_left
                  · intro wz hSw
                    clear hSw
                    go_simp
                    first | done | with_reducible rfl
                  try simp only [Act.put, List.setIfInBounds_toArray, List.set_cons_zero, List.set_cons_succ]
                  clear zz
                  obtain ⟨VA, hVA⟩ : ∃ V : ByteArray, V = V9 ++ Bs := ⟨_, rfl⟩
                  rw [← hVA]
                  have wVA : VA.size ≤ 123012 := by rw [hVA, ByteArray.size_append]; omega
                  have HVA := Lib.hid hVA
                  clear hVA
                  refine wpAnyH_ready (rs := [37]) (by kernel_rfl) (by simp) ?_
                  refine AllReadyH.cons (o := ⟨some 78, _, _, _, _, _⟩) rfl (fun K hK => ?_) (AllReadyH.nil)
                  · go_simp
                    refine (mod5b_any _ _).mono ?_
                    rintro en v4 ⟨⟨q2, hq2, rfl⟩, hv4⟩
                    subst hv4
                    have hq2i : (q2 : Int) < 5 := by omega
                    refine hK.out _ _ (hS) (fun hS => ?_)
                    clear hK K
                    try simp only [Act.put, List.setIfInBounds_toArray, List.set_cons_zero, List.set_cons_succ]
                    obtain ⟨E, hE⟩ : ∃ E, E = bl (endsL q2) := ⟨_, rfl⟩
                    have sE : E.size ≤ 9 := by rw [hE, bl_size]; exact ends_len _
                    have HEE := Lib.hid hE
                    clear hE
                    refine wpAnyH_take (i := 38) (oi := ⟨some 79, _, _, _, _, _⟩) (v := ?_) rfl (by kernel_rfl) (by kernel_rfl) (by kernel_rfl) (fun _ _ _ h => h) (Or.inl ⟨by first | rfl | (simp [Region.wanted, yielded]; done), ?_⟩) hS ?_
                    rotate_left
                    · intro wz hSw
                      clear hSw
                      go_simp
                      first | done | with_reducible rfl
                    try simp only [Act.put, List.setIfInBounds_toArray, List.set_cons_zero, List.set_cons_succ]
                    refine wpAnyH_take (i := 39) (oi := ⟨some 80, _, _, _, _, _⟩) (v := ?_) rfl (by kernel_rfl) (by kernel_rfl) (by kernel_rfl) (fun _ _ _ h => h) (Or.inl ⟨by first | rfl | (simp [Region.wanted, yielded]; done), ?_⟩) hS ?_
                    rotate_left
                    · intro wz hSw
                      have ce := en_cell hSw.2 q2 hq2
                      rw [← HEE.out] at ce
                      clear hSw
                      go_simp
                      first | done | with_reducible rfl
                    try simp only [Act.put, List.setIfInBounds_toArray, List.set_cons_zero, List.set_cons_succ]
                    have zz : ¬ 9223372036854775807 < VA.size + E.size := by omega
                    refine wpAnyH_take (i := 40) (oi := ⟨some 81, _, _, _, _, _⟩) (v := ?_) rfl (by kernel_rfl) (by kernel_rfl) (by kernel_rfl) (fun _ _ _ h => h) (Or.inl ⟨by first | rfl | (simp [Region.wanted, yielded]; done), ?_⟩) hS ?_
                    rotate_left
                    · intro wz hSw
                      clear hSw
                      go_simp
                      first | done | with_reducible rfl
                    try simp only [Act.put, List.setIfInBounds_toArray, List.set_cons_zero, List.set_cons_succ]
                    clear zz
                    obtain ⟨VB, hVB⟩ : ∃ V : ByteArray, V = VA ++ E := ⟨_, rfl⟩
                    rw [← hVB]
                    have wVB : VB.size ≤ 123021 := by rw [hVB, ByteArray.size_append]; omega
                    have HVB := Lib.hid hVB
                    clear hVB
                    refine wpAnyH_take (i := 41) (oi := ⟨some 6, _, _, _, _, _⟩) (v := ?_) rfl (by kernel_rfl) (by kernel_rfl) (by kernel_rfl) (fun _ _ _ h => h) (Or.inl ⟨by first | rfl | (simp [Region.wanted, yielded]; done), ?_⟩) hS ?_
                    rotate_left
                    · intro wz hSw
                      clear hSw
                      go_simp
                      first | done | with_reducible rfl
                    try simp only [Act.put, List.setIfInBounds_toArray, List.set_cons_zero, List.set_cons_succ]
                    refine wpAnyH_done (by kernel_rfl) ?_ _
                    go_wp2_with fail
                    go_roundw
                    case rel => exact ⟨i + 1, C ++ [⟨x, blankA q, q2⟩], VB, by omega, by go_num, rfl, by rw [HVB.out, HVA.out, HV9.out, HV8.out, HV7.out, HV6.out, HV5.out, HV4.out, HV3.out, HV2.out, HV1.out]; exact cat_eq HFE.out HBS.out HE1.out HE2.out HE3.out HEE.out, by rw [take_snoc R i hil, List.map_append, HC.out, HX.out]; rfl, fun c hc => (List.mem_append.1 hc).elim (HOK.out c) (fun h => by obtain rfl := List.mem_singleton.1 h; exact ⟨HGX.out.fit, blank_bk q⟩), by rw [List.flatMap_append, List.length_append, List.flatMap_singleton]; have := ch_len x HGX.out q q2; have := HLEN.out; omega, hS.1⟩
                    case measure => simp [intOf]; omega
          · go_simp
            refine hK.out _ _ (hS.alloc hS.size _) (fun hS => ?_)
            clear hK K
            try simp only [Act.put, List.setIfInBounds_toArray, List.set_cons_zero, List.set_cons_succ]
            have hS' : (fun (W : World) => Below w5.heap.size w5 W ∧ Blk W v0w.heap.size #[.string ⟨#[10]⟩, .string ⟨#[35, 32, 99, 10]⟩, .string ⟨#[13, 10]⟩, .string ⟨#[10, 10]⟩, .string ⟨#[10, 32, 35, 32, 100, 32, 46, 32, 10]⟩] 9) _ := ⟨hS, Blk.new v0w #[.string ⟨#[10]⟩, .string ⟨#[35, 32, 99, 10]⟩, .string ⟨#[13, 10]⟩, .string ⟨#[10, 10]⟩, .string ⟨#[10, 32, 35, 32, 100, 32, 46, 32, 10]⟩] 9⟩
            refine wpAnyH_mono (S' := fun (W : World) => Below w5.heap.size w5 W ∧ Blk W v0w.heap.size #[.string ⟨#[10]⟩, .string ⟨#[35, 32, 99, 10]⟩, .string ⟨#[13, 10]⟩, .string ⟨#[10, 10]⟩, .string ⟨#[10, 32, 35, 32, 100, 32, 46, 32, 10]⟩] 9) (fun _ h => h.1) _ _ _ _ ?_
            clear hS
            have hS := hS'
            clear hS'
            generalize World.alloc v0w _ = v0a at hS ⊢
            generalize v0w.heap.size = ge at hS ⊢
            refine wpAnyH_ready (rs := [8]) (by kernel_rfl) (by simp) ?_
            refine AllReadyH.cons (o := ⟨some 49, _, _, _, _, _⟩) rfl (fun K hK => ?_) (AllReadyH.nil)
            · go_simp
              refine (HT1.out _).mono ?_
              rintro en v1 ⟨rfl, hbn⟩
              refine hK.out _ _ (⟨hS.1.trans (hbn.mono hS.1.size), blk_mv hS.2 hbn⟩) (fun hS => ?_)
              clear hK K
              try simp only [Act.put, List.setIfInBounds_toArray, List.set_cons_zero, List.set_cons_succ]
              clear hbn
              have zz : ¬ 9223372036854775807 < V1.size + T1.size := by omega
              refine wpAnyH_take (i := 9) (oi := ⟨some 50, _, _, _, _, _⟩) (v := ?_) rfl (by kernel_rfl) (by kernel_rfl) (by kernel_rfl) (fun _ _ _ h => h) (Or.inl ⟨by first | rfl | (simp [Region.wanted, yielded]; done), ?_⟩) hS ?_
              rotate_left
              · intro wz hSw
                clear hSw
                go_simp
                first | done | with_reducible rfl
              try simp only [Act.put, List.setIfInBounds_toArray, List.set_cons_zero, List.set_cons_succ]
              clear zz
              obtain ⟨V2, hV2⟩ : ∃ V : ByteArray, V = V1 ++ T1 := ⟨_, rfl⟩
              rw [← hV2]
              have wV2 : V2.size ≤ 121002 := by rw [hV2, ByteArray.size_append]; omega
              have HV2 := Lib.hid hV2
              clear hV2
              have zz : ¬ 9223372036854775807 < V2.size + Bs.size := by omega
              refine wpAnyH_take (i := 11) (oi := ⟨some 52, _, _, _, _, _⟩) (v := ?_) rfl (by kernel_rfl) (by kernel_rfl) (by kernel_rfl) (fun _ _ _ h => h) (Or.inl ⟨by first | rfl | (simp [Region.wanted, yielded]; done), ?_⟩) hS ?_
              rotate_left
              · intro wz hSw
                clear hSw
                go_simp
                first | done | with_reducible rfl
              try simp only [Act.put, List.setIfInBounds_toArray, List.set_cons_zero, List.set_cons_succ]
              clear zz
              obtain ⟨V3, hV3⟩ : ∃ V : ByteArray, V = V2 ++ Bs := ⟨_, rfl⟩
              rw [← hV3]
              have wV3 : V3.size ≤ 121004 := by rw [hV3, ByteArray.size_append]; omega
              have HV3 := Lib.hid hV3
              clear hV3
              have zz : ¬ 9223372036854775807 < V3.size + 1 := by omega
              refine wpAnyH_take (i := 12) (oi := ⟨some 53, _, _, _, _, _⟩) (v := ?_) rfl (by kernel_rfl) (by kernel_rfl) (by kernel_rfl) (fun _ _ _ h => h) (Or.inl ⟨by first | rfl | (simp [Region.wanted, yielded]; done), ?_⟩) hS ?_
              rotate_left
              · intro wz hSw
                clear hSw
                go_simp
                first | done | with_reducible rfl
              try simp only [Act.put, List.setIfInBounds_toArray, List.set_cons_zero, List.set_cons_succ]
              clear zz
              obtain ⟨V4, hV4⟩ : ∃ V : ByteArray, V = V3 ++ (⟨#[32]⟩ : ByteArray) := ⟨_, rfl⟩
              rw [← hV4]
              have wV4 : V4.size ≤ 121005 := by rw [hV4, ByteArray.size_append]; have : ((⟨#[32]⟩ : ByteArray) : ByteArray).size = 1 := rfl; omega
              have HV4 := Lib.hid hV4
              clear hV4
              refine wpAnyH_ready (rs := [18]) (by kernel_rfl) (by simp) ?_
              refine AllReadyH.cons (o := ⟨some 59, _, _, _, _, _⟩) rfl (fun K hK => ?_) (AllReadyH.nil)
              · go_simp
                refine (HT2.out _).mono ?_
                rintro en v2 ⟨rfl, hbn⟩
                refine hK.out _ _ (⟨hS.1.trans (hbn.mono hS.1.size), blk_mv hS.2 hbn⟩) (fun hS => ?_)
                clear hK K
                try simp only [Act.put, List.setIfInBounds_toArray, List.set_cons_zero, List.set_cons_succ]
                clear hbn
                have zz : ¬ 9223372036854775807 < V4.size + T2.size := by omega
                refine wpAnyH_take (i := 19) (oi := ⟨some 60, _, _, _, _, _⟩) (v := ?_) rfl (by kernel_rfl) (by kernel_rfl) (by kernel_rfl) (fun _ _ _ h => h) (Or.inl ⟨by first | rfl | (simp [Region.wanted, yielded]; done), ?_⟩) hS ?_
                rotate_left
                · intro wz hSw
                  clear hSw
                  go_simp
                  first | done | with_reducible rfl
                try simp only [Act.put, List.setIfInBounds_toArray, List.set_cons_zero, List.set_cons_succ]
                clear zz
                obtain ⟨V5, hV5⟩ : ∃ V : ByteArray, V = V4 ++ T2 := ⟨_, rfl⟩
                rw [← hV5]
                have wV5 : V5.size ≤ 122005 := by rw [hV5, ByteArray.size_append]; omega
                have HV5 := Lib.hid hV5
                clear hV5
                have zz : ¬ 9223372036854775807 < V5.size + Bs.size := by omega
                refine wpAnyH_take (i := 21) (oi := ⟨some 62, _, _, _, _, _⟩) (v := ?_) rfl (by kernel_rfl) (by kernel_rfl) (by kernel_rfl) (fun _ _ _ h => h) (Or.inl ⟨by first | rfl | (simp [Region.wanted, yielded]; done), ?_⟩) hS ?_
                rotate_left
                · intro wz hSw
                  clear hSw
                  go_simp
                  first | done | with_reducible rfl
                try simp only [Act.put, List.setIfInBounds_toArray, List.set_cons_zero, List.set_cons_succ]
                clear zz
                obtain ⟨V6, hV6⟩ : ∃ V : ByteArray, V = V5 ++ Bs := ⟨_, rfl⟩
                rw [← hV6]
                have wV6 : V6.size ≤ 122007 := by rw [hV6, ByteArray.size_append]; omega
                have HV6 := Lib.hid hV6
                clear hV6
                refine wpAnyH_ready (rs := [27]) (by kernel_rfl) (by simp) ?_
                refine AllReadyH.cons (o := ⟨some 68, _, _, _, _, _⟩) rfl (fun K hK => ?_) (AllReadyH.nil)
                · go_simp
                  refine (HT3.out _).mono ?_
                  rintro en v3 ⟨rfl, hbn⟩
                  refine hK.out _ _ (⟨hS.1.trans (hbn.mono hS.1.size), blk_mv hS.2 hbn⟩) (fun hS => ?_)
                  clear hK K
                  try simp only [Act.put, List.setIfInBounds_toArray, List.set_cons_zero, List.set_cons_succ]
                  clear hbn
                  have zz : ¬ 9223372036854775807 < V6.size + T3.size := by omega
                  refine wpAnyH_take (i := 28) (oi := ⟨some 69, _, _, _, _, _⟩) (v := ?_) rfl (by kernel_rfl) (by kernel_rfl) (by kernel_rfl) (fun _ _ _ h => h) (Or.inl ⟨by first | rfl | (simp [Region.wanted, yielded]; done), ?_⟩) hS ?_
                  rotate_left
                  · intro wz hSw
                    clear hSw
                    go_simp
                    first | done | with_reducible rfl
                  try simp only [Act.put, List.setIfInBounds_toArray, List.set_cons_zero, List.set_cons_succ]
                  clear zz
                  obtain ⟨V7, hV7⟩ : ∃ V : ByteArray, V = V6 ++ T3 := ⟨_, rfl⟩
                  rw [← hV7]
                  have wV7 : V7.size ≤ 123007 := by rw [hV7, ByteArray.size_append]; omega
                  have HV7 := Lib.hid hV7
                  clear hV7
                  have zz : ¬ 9223372036854775807 < V7.size + Bs.size := by omega
                  refine wpAnyH_take (i := 30) (oi := ⟨some 71, _, _, _, _, _⟩) (v := ?_) rfl (by kernel_rfl) (by kernel_rfl) (by kernel_rfl) (fun _ _ _ h => h) (Or.inl ⟨by first | rfl | (simp [Region.wanted, yielded]; done), ?_⟩) hS ?_
                  rotate_left
                  · intro wz hSw
                    clear hSw
                    go_simp
                    first | done | with_reducible rfl
                  try simp only [Act.put, List.setIfInBounds_toArray, List.set_cons_zero, List.set_cons_succ]
                  clear zz
                  obtain ⟨V8, hV8⟩ : ∃ V : ByteArray, V = V7 ++ Bs := ⟨_, rfl⟩
                  rw [← hV8]
                  have wV8 : V8.size ≤ 123009 := by rw [hV8, ByteArray.size_append]; omega
                  have HV8 := Lib.hid hV8
                  clear hV8
                  have zz : ¬ 9223372036854775807 < V8.size + 1 := by omega
                  refine wpAnyH_take (i := 31) (oi := ⟨some 72, _, _, _, _, _⟩) (v := ?_) rfl (by kernel_rfl) (by kernel_rfl) (by kernel_rfl) (fun _ _ _ h => h) (Or.inl ⟨by first | rfl | (simp [Region.wanted, yielded]; done), ?_⟩) hS ?_
                  rotate_left
                  · intro wz hSw
                    clear hSw
                    go_simp
                    first | done | with_reducible rfl
                  try simp only [Act.put, List.setIfInBounds_toArray, List.set_cons_zero, List.set_cons_succ]
                  clear zz
                  obtain ⟨V9, hV9⟩ : ∃ V : ByteArray, V = V8 ++ (⟨#[46]⟩ : ByteArray) := ⟨_, rfl⟩
                  rw [← hV9]
                  have wV9 : V9.size ≤ 123010 := by rw [hV9, ByteArray.size_append]; have : ((⟨#[46]⟩ : ByteArray) : ByteArray).size = 1 := rfl; omega
                  have HV9 := Lib.hid hV9
                  clear hV9
                  have zz : ¬ 9223372036854775807 < V9.size + Bs.size := by omega
                  refine wpAnyH_take (i := 33) (oi := ⟨some 74, _, _, _, _, _⟩) (v := ?_) rfl (by kernel_rfl) (by kernel_rfl) (by kernel_rfl) (fun _ _ _ h => h) (Or.inl ⟨by first | rfl | (simp [Region.wanted, yielded]; done), ?_⟩) hS ?_
                  rotate_left
                  · intro wz hSw
                    clear hSw
                    go_simp
                    first | done | with_reducible rfl
                  try simp only [Act.put, List.setIfInBounds_toArray, List.set_cons_zero, List.set_cons_succ]
                  clear zz
                  obtain ⟨VA, hVA⟩ : ∃ V : ByteArray, V = V9 ++ Bs := ⟨_, rfl⟩
                  rw [← hVA]
                  have wVA : VA.size ≤ 123012 := by rw [hVA, ByteArray.size_append]; omega
                  have HVA := Lib.hid hVA
                  clear hVA
                  refine wpAnyH_ready (rs := [37]) (by kernel_rfl) (by simp) ?_
                  refine AllReadyH.cons (o := ⟨some 78, _, _, _, _, _⟩) rfl (fun K hK => ?_) (AllReadyH.nil)
                  · go_simp
                    refine (mod5b_any _ _).mono ?_
                    rintro en v4 ⟨⟨q2, hq2, rfl⟩, hv4⟩
                    subst hv4
                    have hq2i : (q2 : Int) < 5 := by omega
                    refine hK.out _ _ (hS) (fun hS => ?_)
                    clear hK K
                    try simp only [Act.put, List.setIfInBounds_toArray, List.set_cons_zero, List.set_cons_succ]
                    obtain ⟨E, hE⟩ : ∃ E, E = bl (endsL q2) := ⟨_, rfl⟩
                    have sE : E.size ≤ 9 := by rw [hE, bl_size]; exact ends_len _
                    have HEE := Lib.hid hE
                    clear hE
                    refine wpAnyH_take (i := 38) (oi := ⟨some 79, _, _, _, _, _⟩) (v := ?_) rfl (by kernel_rfl) (by kernel_rfl) (by kernel_rfl) (fun _ _ _ h => h) (Or.inl ⟨by first | rfl | (simp [Region.wanted, yielded]; done), ?_⟩) hS ?_
                    rotate_left
                    · intro wz hSw
                      clear hSw
                      go_simp
                      first | done | with_reducible rfl
                    try simp only [Act.put, List.setIfInBounds_toArray, List.set_cons_zero, List.set_cons_succ]
                    refine wpAnyH_take (i := 39) (oi := ⟨some 80, _, _, _, _, _⟩) (v := ?_) rfl (by kernel_rfl) (by kernel_rfl) (by kernel_rfl) (fun _ _ _ h => h) (Or.inl ⟨by first | rfl | (simp [Region.wanted, yielded]; done), ?_⟩) hS ?_
                    rotate_left
                    · intro wz hSw
                      have ce := en_cell hSw.2 q2 hq2
                      rw [← HEE.out] at ce
                      clear hSw
                      go_simp
                      first | done | with_reducible rfl
                    try simp only [Act.put, List.setIfInBounds_toArray, List.set_cons_zero, List.set_cons_succ]
                    have zz : ¬ 9223372036854775807 < VA.size + E.size := by omega
                    refine wpAnyH_take (i := 40) (oi := ⟨some 81, _, _, _, _, _⟩) (v := ?_) rfl (by kernel_rfl) (by kernel_rfl) (by kernel_rfl) (fun _ _ _ h => h) (Or.inl ⟨by first | rfl | (simp [Region.wanted, yielded]; done), ?_⟩) hS ?_
                    rotate_left
                    · intro wz hSw
                      clear hSw
                      go_simp
                      first | done | with_reducible rfl
                    try simp only [Act.put, List.setIfInBounds_toArray, List.set_cons_zero, List.set_cons_succ]
                    clear zz
                    obtain ⟨VB, hVB⟩ : ∃ V : ByteArray, V = VA ++ E := ⟨_, rfl⟩
                    rw [← hVB]
                    have wVB : VB.size ≤ 123021 := by rw [hVB, ByteArray.size_append]; omega
                    have HVB := Lib.hid hVB
                    clear hVB
                    refine wpAnyH_take (i := 41) (oi := ⟨some 6, _, _, _, _, _⟩) (v := ?_) rfl (by kernel_rfl) (by kernel_rfl) (by kernel_rfl) (fun _ _ _ h => h) (Or.inl ⟨by first | rfl | (simp [Region.wanted, yielded]; done), ?_⟩) hS ?_
                    rotate_left
                    · intro wz hSw
                      clear hSw
                      go_simp
                      first | done | with_reducible rfl
                    try simp only [Act.put, List.setIfInBounds_toArray, List.set_cons_zero, List.set_cons_succ]
                    refine wpAnyH_done (by kernel_rfl) ?_ _
                    go_wp2_with fail
                    go_roundw
                    case rel => exact ⟨i + 1, C ++ [⟨x, blankA q, q2⟩], VB, by omega, by go_num, rfl, by rw [HVB.out, HVA.out, HV9.out, HV8.out, HV7.out, HV6.out, HV5.out, HV4.out, HV3.out, HV2.out, HV1.out]; exact cat_eq HFE.out HBS.out HE1.out HE2.out HE3.out HEE.out, by rw [take_snoc R i hil, List.map_append, HC.out, HX.out]; rfl, fun c hc => (List.mem_append.1 hc).elim (HOK.out c) (fun h => by obtain rfl := List.mem_singleton.1 h; exact ⟨HGX.out.fit, blank_bk q⟩), by rw [List.flatMap_append, List.length_append, List.flatMap_singleton]; have := ch_len x HGX.out q q2; have := HLEN.out; omega, hS.1⟩
                    case measure => simp [intOf]; omega
end Go.Proofs.YtbkokckpjmbjhaaDoor
