/- Hi -/
import Derived.Test.YtpfjbcfnpfgidaaKHh
namespace Go.Proofs.Ytpfjbcfnpfgidaa
open Go.RowKit Go.Maps
set_option maxRecDepth 100000
set_option linter.unusedVariables false
theorem delAt_facts {l : List Ent} {m : Nat} (hl : ∀ e ∈ l, LeafE e ∧ esize 0 e ≤ 502) (hs : sizes 0 l ≤ 502) (hf : l.length ≤ 255) :
 (∀ e ∈ BT.delAt l m, LeafE e ∧ esize 0 e ≤ 502) ∧ (∃ a b d, BT.delAt l m = a ++ (b ++ d) ∧ sizes 0 a ≤ 502 ∧ sizes 0 b ≤ 502 ∧ sizes 0 d ≤ 502) ∧ (BT.delAt l m).length ≤ 600 := by
 unfold BT.delAt
 refine ⟨fun e h => ?_, ⟨_, [], _, by rw [List.nil_append], Nat.le_trans (sizes_take m) hs, by show (0 : Nat) ≤ 502; omega, Nat.le_trans (sizes_drop _) hs⟩, ?_⟩
 ·rcases List.mem_append.1 h with h | h
  ·exact hl e (List.mem_of_mem_take h)
  ·exact hl e (List.mem_of_mem_drop h)
 ·rw [List.length_append, List.length_take, List.length_drop]; omega
set_option maxHeartbeats 8000000 in
theorem del_tree {w0 w : World} {X : Nat → Prop} {r p N M c : Nat} {G H : Lg} (h : Pb w0 w X r p N M c G (some H)) {n : Nat} {t : BT Ent n} (hi : InLg N H t) (hroom : 25 ≤ H.free.length) (key : ByteArray) (hc : c + 300000 < 500000) :
 Calls Try.prog 17 #[.pointer (some ⟨p, 0, none⟩), .int .i64 (t.page : Int), .string key] w fun e w' => ∃ (m : Nat) (t' : BT Ent m) (H' : Lg) (c' : Nat), e = .returned (.tuple #[.int .i64 (t'.page : Int), .bool (t.flat.find? (sameK key)).isSome, .int .i64 0]) ∧ c' ≤ c + 110 ∧ Changed N H H' t t' (delL key t.flat) ∧ Pb w0 w' X r p N M c' G (some H') ∧ Mx w0 X w w' := by
 have hlow := hi.low
 have HCH := Lib.hid (changing_any h hi.stored hi.root hi.sorted key (by omega))
 have HI0 := Lib.hid hi
 obtain ⟨pg, hpg⟩ : ∃ pg : Int, pg = (t.page : Int) := ⟨_, rfl⟩
 obtain ⟨bl, hbl⟩ : ∃ bl, bl = (t.flat.find? (sameK key)).isSome := ⟨_, rfl⟩
 rw [← hpg] at HCH ⊢
 rw [← hbl]
 have HBL := Lib.hid hbl
 have HPG := Lib.hid hpg
 clear h hi hpg hbl
 go_enter Try.func17, Try.ntmps17
 go_wp2_with fail
 go_step3
 go_wp2_with fail
 refine HCH.out.mono ?_
 rintro en w2 ⟨w1, P, f, m, ss, lv, rfl, h1, hm1, hplug, hon, hpl, hway, hst, hb2⟩
 obtain ⟨⟨ss', s, rfl, hsa, hsl, hse, hsi, how⟩⟩ := hway
 obtain ⟨nq, hnq⟩ : ∃ nq, nq = (ss' ++ [s]).length := ⟨_, rfl⟩
 obtain ⟨q, hq⟩ : ∃ q, q = ss'.length := ⟨_, rfl⟩
 have hqn : nq = q + 1 := by rw [hnq, hq, List.length_append]; rfl
 have hlast : (ss' ++ [s])[q]'(by rw [← hnq]; omega) = s := by simp [hq]
 obtain ⟨g, cap, rfl, hg, hgS, hc1, hc2, hfrz, d0, d1, d2, d3⟩ := hst.at q (by rw [← hnq]; omega)
 obtain ⟨hen, hob⟩ := hst.ens q (by rw [← hnq]; omega)
 rw [hlast] at d0 d1 d2 d3 hen hob
 rw [← hnq] at hc1 hst ⊢
 have j1 : (nq : Int) - 1 = q := by omega
 have j2 : (q : Int) < nq := by omega
 obtain ⟨ao, ac, hsv, hac1, hac2⟩ := hen.form
 obtain ⟨n1, hn1⟩ : ∃ n1, n1 = s.es.length := ⟨_, rfl⟩
 rw [← hn1] at hsv hac1
 rw [hsv] at d2 hen hob
 rw [hsi] at d3
 rw [hsl] at d1
 obtain ⟨sa, hsa'⟩ : ∃ sa, sa = s.at' := ⟨_, rfl⟩
 rw [← hsa'] at d0
 have hi := HI0.out
 rw [← hplug] at hi
 have hfacts := leaf_facts hi
 have hfew : n1 ≤ 10000 := by rw [hn1, hse]; omega
 have hmn : m ≤ n1 := by rw [hn1, hse]; exact hpl.1
 have hhas := fun w => has_any sa 0 (.slice ao n1 ac) s.es m key w
 unfold stepV at hhas
 have HHAS := Lib.hid hhas
 have HI := Lib.hid hi
 have HF := Lib.hid hfacts
 have HP1 := Lib.hid h1
 have HM1 := Lib.hid hm1
 have HB2 := Lib.hid hb2
 have HST := Lib.hid hst
 have HPLUG := Lib.hid hplug
 have HON := Lib.hid hon
 have HPL := Lib.hid hpl
 have HSE := Lib.hid hse
 have HEN := Lib.hid hen
 have HN1 := Lib.hid hn1
 have HHERE := Lib.hid (And.intro hq (And.intro hqn (And.intro hsa (And.intro hsl how))))
 have HG := Lib.hid hg
 have K := Lib.hid (And.intro d0 (And.intro d1 (And.intro d2 d3)))
 have F2 := Lib.hid (hfrz (q * 4 + 2))
 clear h1 hm1 hplug hon hpl hst hb2 hsa hsl hse hsi how hnq hq hqn hlast hg hgS hfrz hen hob hsv hn1 hsa' hi hfacts hhas HCH
 go_wp2_with fail
 refine (HHAS.out _ HEN.out (by have := HN1.out; omega) (by have := HN1.out; omega)).mono ?_
 rintro en w3 ⟨rfl, hb3⟩
 have d0 := (hb3.cell (World.block_lt_of_cell? w2 _ K.out.1)).trans K.out.1
 have d1 := (hb3.cell (World.block_lt_of_cell? w2 _ K.out.2.1)).trans K.out.2.1
 have d2 := (hb3.cell (World.block_lt_of_cell? w2 _ K.out.2.2.1)).trans K.out.2.2.1
 have d3 := (hb3.cell (World.block_lt_of_cell? w2 _ K.out.2.2.2)).trans K.out.2.2.2
 have D2 := Lib.hid d2
 have D3 := Lib.hid d3
 have hg2 : g < w2.heap.size := HG.out
 have DF := Lib.hid ((World.frozen?_of_block (a := ⟨g, q * 4 + 2, none⟩) (hb3.block g hg2)).trans F2.out)
 have HB23 := Lib.hid hb3
 have HEN3 := Lib.hid (Ens.below HEN.out hb3)
 have HG3 := Lib.hid (And.intro hg2 (Nat.lt_of_lt_of_le hg2 hb3.size))
 obtain ⟨tt, ht⟩ : ∃ tt, tt = hasOf s.es m key := ⟨_, rfl⟩
 rw [← ht]
 have HT := Lib.hid ht
 have hml : tt = true → m < n1 := fun e => by
  rw [ht] at e
  unfold hasOf at e
  by_cases hlt : m < s.es.length
  ·rw [HN1.out]; exact hlt
  ·rw [List.getElem?_eq_none (by omega)] at e; cases e
 have hfind := has_tree (key := key) HI.out.sorted HI.out.root HON.out HPL.out
 rw [HPLUG.out] at hfind
 have hbool : (t.flat.find? (sameK key)).isSome = tt := by
  rw [hfind, ← HSE.out, ← hasOf_filter, ht]
 have HBO := Lib.hid hbool
 have HFD := Lib.hid hfind
 clear hb3 ht hg2 HHAS hfind hbool
 cases tt with
 | true =>
  have hmt := hml rfl
  have hto' : ((m + 1 : Nat) : Int) ≤ n1 := by omega
  clear hml
  have hal : Below w3.heap.size w3 w3.drew := (Below.refl w3.heap.size w3).drew
  have hput := put_any g (q * 4) m (m + 1) (.slice ao n1 ac) (.slice none 0 0) s.es [] w3.drew ((hal.cell (show (⟨g, q * 4 + 2, none⟩ : Addr).block < _ from HG3.out.2)).trans D2.out) ((World.frozen?_of_block (a := ⟨g, q * 4 + 2, none⟩) (hal.block g HG3.out.2)).trans DF.out) (Ens.below HEN3.out hal) (Ens.nil _) (by rw [← HN1.out]; exact hmn) (by rw [← HN1.out]; exact hmt) (by rw [← HN1.out]; exact hfew) (by simp)
  rw [show (((m + 1 : Nat)) : Int) = (m : Int) + 1 by omega] at hput
  have hkl : m < f.flat.length := by have := HN1.out; have := HSE.out; rw [← this]; omega
  have hsm : sameK key (f.flat[m]'hkl) = true := by
   have h1 := HT.out
   rw [hasOf_filter, HSE.out, List.getElem?_eq_getElem hkl] at h1
   cases hs : sameK key (f.flat[m]'hkl) with
   | true => rfl
   | false => simp [Option.filter, hs] at h1
  have HPUT := Lib.hid hput
  have HAL := Lib.hid hal
  have HSM := Lib.hid hsm
  have HKL := Lib.hid hkl
  clear hal hput hsm
  go_wp2_with fail
  have hwm : IntKind.i64.wrap ((m : Int) + 1) = (m : Int) + 1 := wrap_small (by omega) (by omega)
  refine wp_region_any (by kernel_rfl) ?_
  change wpAny _ _ _ _ _ _ _ (World.drew _)
  refine wpAny_of_held (S := fun (w' : World) => w'.cell? ⟨g, q * 4 + 3, none⟩ = some (.int .i64 m)) _ _ _ _ ?_
  have hS : (fun (w' : World) => w'.cell? ⟨g, q * 4 + 3, none⟩ = some (.int .i64 m)) _ := D3.out
  try simp only [Act.put, List.setIfInBounds_toArray, List.set_cons_zero, List.set_cons_succ]
  refine wpAnyH_take (i := 0) (oi := ⟨some 33, _, _, _, _, _⟩) (v := ?_) rfl (by kernel_rfl) (by kernel_rfl) (by kernel_rfl) (fun _ _ _ h => h) (Or.inl ⟨by simp only [Region.wanted], ?_⟩) hS ?_
  rotate_left
  ·intro wz hSw
   clear hSw
   go_simp
   first | done | with_reducible rfl
  try simp only [Act.put, List.setIfInBounds_toArray, List.set_cons_zero, List.set_cons_succ]
  refine wpAnyH_take (i := 1) (oi := ⟨some 34, _, _, _, _, _⟩) (v := ?_) rfl (by kernel_rfl) (by kernel_rfl) (by kernel_rfl) (fun _ _ _ h => h) (Or.inl ⟨by simp only [Region.wanted], ?_⟩) hS ?_
  rotate_left
  ·intro wz hSw
   clear hSw
   go_simp
   first | done | with_reducible rfl
  try simp only [Act.put, List.setIfInBounds_toArray, List.set_cons_zero, List.set_cons_succ]
  refine wpAnyH_take (i := 2) (oi := ⟨some 35, _, _, _, _, _⟩) (v := ?_) rfl (by kernel_rfl) (by kernel_rfl) (by kernel_rfl) (fun _ _ _ h => h) (Or.inl ⟨by simp only [Region.wanted], ?_⟩) hS ?_
  rotate_left
  ·intro wz hSw
   clear hSw
   go_simp
   first | done | with_reducible rfl
  try simp only [Act.put, List.setIfInBounds_toArray, List.set_cons_zero, List.set_cons_succ]
  refine wpAnyH_take (i := 3) (oi := ⟨some 36, _, _, _, _, _⟩) (v := ?_) rfl (by kernel_rfl) (by kernel_rfl) (by kernel_rfl) (fun _ _ _ h => h) (Or.inl ⟨by simp only [Region.wanted], ?_⟩) hS ?_
  rotate_left
  ·intro wz hSw
   clear hSw
   go_simp
   first | done | with_reducible rfl
  try simp only [Act.put, List.setIfInBounds_toArray, List.set_cons_zero, List.set_cons_succ]
  refine wpAnyH_take (i := 4) (oi := ⟨some 37, _, _, _, _, _⟩) (v := ?_) rfl (by kernel_rfl) (by kernel_rfl) (by kernel_rfl) (fun _ _ _ h => h) (Or.inl ⟨by simp only [Region.wanted], ?_⟩) hS ?_
  rotate_left
  ·intro wz hSw
   clear hSw
   go_simp
   first | done | with_reducible rfl
  try simp only [Act.put, List.setIfInBounds_toArray, List.set_cons_zero, List.set_cons_succ]
  refine wpAnyH_take (i := 5) (oi := ⟨some 38, _, _, _, _, _⟩) (v := ?_) rfl (by kernel_rfl) (by kernel_rfl) (by kernel_rfl) (fun _ _ _ h => h) (Or.inl ⟨by simp only [Region.wanted], ?_⟩) hS ?_
  rotate_left
  ·intro wz hSw
   clear hSw
   go_simp
   first | done | with_reducible rfl
  try simp only [Act.put, List.setIfInBounds_toArray, List.set_cons_zero, List.set_cons_succ]
  refine wpAnyH_take (i := 6) (oi := ⟨some 39, _, _, _, _, _⟩) (v := ?_) rfl (by kernel_rfl) (by kernel_rfl) (by kernel_rfl) (fun _ _ _ h => h) (Or.inl ⟨by simp only [Region.wanted], ?_⟩) hS ?_
  rotate_left
  ·intro wz hSw
   (try dsimp only at hSw)
   (try go_split_ands)
   go_simp
   first | done | with_reducible rfl
  try simp only [Act.put, List.setIfInBounds_toArray, List.set_cons_zero, List.set_cons_succ]
  refine wpAnyH_take (i := 7) (oi := ⟨some 40, _, _, _, _, _⟩) (v := ?_) rfl (by kernel_rfl) (by kernel_rfl) (by kernel_rfl) (fun _ _ _ h => h) (Or.inl ⟨by simp only [Region.wanted], ?_⟩) hS ?_
  rotate_left
  ·intro wz hSw
   clear hSw
   go_simp
   first | done | with_reducible rfl
  try simp only [Act.put, List.setIfInBounds_toArray, List.set_cons_zero, List.set_cons_succ]
  refine wpAnyH_take (i := 8) (oi := ⟨some 41, _, _, _, _, _⟩) (v := ?_) rfl (by kernel_rfl) (by kernel_rfl) (by kernel_rfl) (fun _ _ _ h => h) (Or.inl ⟨by simp only [Region.wanted], ?_⟩) hS ?_
  rotate_left
  ·intro wz hSw
   clear hSw
   go_simp
   first | done | with_reducible rfl
  try simp only [Act.put, List.setIfInBounds_toArray, List.set_cons_zero, List.set_cons_succ]
  refine wpAnyH_take (i := 9) (oi := ⟨some 42, _, _, _, _, _⟩) (v := ?_) rfl (by kernel_rfl) (by kernel_rfl) (by kernel_rfl) (fun _ _ _ h => h) (Or.inl ⟨by simp only [Region.wanted], ?_⟩) hS ?_
  rotate_left
  ·intro wz hSw
   clear hSw
   go_simp
   first | done | with_reducible rfl
  try simp only [Act.put, List.setIfInBounds_toArray, List.set_cons_zero, List.set_cons_succ]
  refine wpAnyH_take (i := 10) (oi := ⟨some 43, _, _, _, _, _⟩) (v := ?_) rfl (by kernel_rfl) (by kernel_rfl) (by kernel_rfl) (fun _ _ _ h => h) (Or.inl ⟨by simp only [Region.wanted], ?_⟩) hS ?_
  rotate_left
  ·intro wz hSw
   (try dsimp only at hSw)
   (try go_split_ands)
   go_simp
   first | done | with_reducible rfl
  try simp only [Act.put, List.setIfInBounds_toArray, List.set_cons_zero, List.set_cons_succ]
  refine wpAnyH_take (i := 11) (oi := ⟨some 44, _, _, _, _, _⟩) (v := ?_) rfl (by kernel_rfl) (by kernel_rfl) (by kernel_rfl) (fun _ _ _ h => h) (Or.inl ⟨by simp only [Region.wanted], ?_⟩) hS ?_
  rotate_left
  ·intro wz hSw
   clear hSw
   go_simp
   first | done | with_reducible rfl
  try simp only [Act.put, List.setIfInBounds_toArray, List.set_cons_zero, List.set_cons_succ]
  refine wpAnyH_ready (rs := [12]) (by kernel_rfl) (by simp) ?_
  refine AllReadyH.cons (o := ⟨some 45, _, _, _, _, _⟩) rfl (fun K hK => ?_) AllReadyH.nil
  go_simp
  refine HPUT.out.mono ?_
  rintro en w5 ⟨rfl, v', w4, rfl, hb4, ho4⟩
  generalize hLE : s.es.take m ++ [] ++ s.es.drop (m + 1) = L at ho4
  have HLE := Lib.hid hLE
  clear hLE
  obtain ⟨ao4, cap4, rfl, -⟩ := ho4.form
  obtain ⟨nL, hnL⟩ : ∃ nL, nL = L.length := ⟨_, rfl⟩
  rw [← hnL] at ho4 ⊢
  have HNL := Lib.hid hnL
  clear hnL
  have HB4 := Lib.hid (HAL.out.trans (hb4.mono HAL.out.size))
  have HO4 := Lib.hid ho4
  clear hb4 ho4
  refine hK.out _ _ (by rw [World.cell?_setCell_other _ _ _ _ (by simp)]; exact (HB4.out.cell (show (⟨g, q * 4 + 3, none⟩ : Addr).block < _ from HG3.out.2)).trans D3.out) (fun hS => ?_)
  clear hK K
  try simp only [Act.put, List.setIfInBounds_toArray, List.set_cons_zero, List.set_cons_succ]
  refine wpAnyH_done (by kernel_rfl) ?_ _
  clear hS hwm
  have hLs : L = BT.delAt f.flat m := by
   rw [← HLE.out, ← HSE.out]
   unfold BT.delAt
   rw [List.append_nil]
  have hsf := delAt_facts (m := m) HF.out.1 HF.out.2.1 HF.out.2.2
  rw [← hLs] at hsf
  have hset := after_put HP1.out HB2.out (HB23.out.trans (HB4.out.mono HB23.out.size)) HST.out HHERE.out.1 HHERE.out.2.1 HHERE.out.2.2.1 HHERE.out.2.2.2.1 HHERE.out.2.2.2.2 HO4.out (Nat.le_trans HB23.out.size HAL.out.size) (InLg.chg HI.out hroom hsf.1 hsf.2.1 hsf.2.2) hc
  have HSET := Lib.hid hset
  have HLS := Lib.hid hLs
  clear hLs hsf hset d0 d1 d2 d3
  go_wp2_with fail
  refine HSET.out.mono ?_
  rintro en w6 ⟨m', t', H', c', rfl, hd⟩
  have HD := Lib.hid hd
  clear hd HSET
  go_wp2_with fail
  repeat rw [Exit.noGoto_ret]
  go_ret3
  have hd := HD.out
  have hco := hd.cost
  have hlow := HI.out.low
  rw [HLS.out] at hd
  have hch := Done.del HI.out HON.out HPL.out HKL.out HSM.out hd
  rw [HPLUG.out] at hch
  refine ⟨m', t', H', c', by rw [show bl = true from HBL.out.trans HBO.out]; rfl, by omega, hch, hd.pb, Mx.trans HM1.out hd.mx⟩
 | false =>
  clear hml
  go_wp2_with fail
  repeat rw [Exit.noGoto_ret]
  go_ret3
  have hdl : delL key t.flat = t.flat := by
   unfold delL
   refine List.filter_eq_self.2 (fun x hx => ?_)
   have h1 := HBO.out
   cases hs : sameK key x with
   | false => rfl
   | true =>
    have : (t.flat.find? (sameK key)).isSome = true := List.find?_isSome.2 ⟨x, hx, hs⟩
    rw [this] at h1; cases h1
  refine ⟨n, t, H, c, by rw [show bl = false from HBL.out.trans HBO.out, ← HPG.out]; rfl, by omega, ?_, HP1.out.grow (HB2.out.trans (HB23.out.mono HB2.out.size)), Mx.trans HM1.out (Mx.of (HB2.out.trans (HB23.out.mono HB2.out.size)))⟩
  rw [hdl]
  exact ⟨rfl, HI0.out, List.Perm.refl _, rfl, fun _ _ _ => rfl⟩
end Go.Proofs.Ytpfjbcfnpfgidaa
