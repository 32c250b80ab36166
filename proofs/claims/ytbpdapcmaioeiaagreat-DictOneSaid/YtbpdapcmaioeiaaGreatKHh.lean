/- Hh -/
import Derived.Test.YtbpdapcmaioeiaaGreatKHf
import Derived.Test.YtbpdapcmaioeiaaGreatKHg
namespace Go.Proofs.YtbpdapcmaioeiaaGreat
open Go.RowKit Go.Maps
set_option maxRecDepth 100000
set_option linter.unusedVariables false
theorem setEs_facts {l : List Ent} {key val : ByteArray} {m : Nat} (hl : ∀ e ∈ l, LeafE e ∧ esize 0 e ≤ 502) (hs : sizes 0 l ≤ 502) (hf : l.length ≤ 255) (hk : key.size ≤ 140) (hkv : key.size + val.size ≤ 150) :
 (∀ e ∈ setEs l key val m, LeafE e ∧ esize 0 e ≤ 502) ∧ (∃ a b d, setEs l key val m = a ++ (b ++ d) ∧ sizes 0 a ≤ 502 ∧ sizes 0 b ≤ 502 ∧ sizes 0 d ≤ 502) ∧ (setEs l key val m).length ≤ 600 := by
 have he : esize 0 ⟨key, val, 0⟩ ≤ 502 := by unfold esize; rw [if_neg (by decide)]; show 3 + key.size + val.size ≤ 502; omega
 unfold setEs
 refine ⟨fun e h => ?_, ⟨_, [⟨key, val, 0⟩], _, List.append_assoc _ _ _, Nat.le_trans (sizes_take m) hs, ?_, Nat.le_trans (sizes_drop _) hs⟩, ?_⟩
 ·rcases List.mem_append.1 h with h | h
  ·rcases List.mem_append.1 h with h | h
   ·exact hl e (List.mem_of_mem_take h)
   ·rw [List.mem_singleton] at h
    subst h
    exact ⟨⟨rfl, by show key.size ≤ 255; omega, by show val.size ≤ 60000; omega⟩, he⟩
  ·exact hl e (List.mem_of_mem_drop h)
 ·rw [sizes_cons]; show _ + 0 ≤ 502; omega
 ·rw [List.length_append, List.length_append, List.length_take, List.length_drop, List.length_cons, List.length_nil]; omega
/-- Behind the leaf's put: settle. -/
theorem after_put {w0 w1 w2 w4 : World} {X : Nat → Prop} {r p N M c : Nat} {G H : Lg} (h : Pb w0 w1 X r p N M c G (some H)) (hb12 : Below w1.heap.size w1 w2) (hb24 : Below w2.heap.size w2 w4)
 {n : Nat} {P : BT.Path Ent 0 n} {f : BT Ent 0} {ss' : List Stp} {s : Stp} {g q nq cap : Nat} (hst : Sts w2 (fun k => w1.heap.size ≤ k ∧ k < w2.heap.size) (.slice (some ⟨g, 0, none⟩) nq cap) (ss' ++ [s])) (hq : q = ss'.length) (hnq : nq = q + 1)
 (hs1 : s.at' = (f.page : Int)) (hs2 : s.lvl = 0) (how : OnWay P f.page ss') {v : Value} {L : List Ent} {base : Nat} (ho : Owe w4 base v L) (hbase : w2.heap.size ≤ base) (hch : Chg N H P (BT.leaf f.page L)) (hc : c + 300000 < 500000) :
 Calls Tryz.prog 75 #[.pointer (some ⟨p, 0, none⟩), .slice (some ⟨g, 0, none⟩) nq cap] (w4.setCell ⟨g, q * 4 + 2, none⟩ v) fun e w' => ∃ (m : Nat) (t' : BT Ent m) (H' : Lg) (c' : Nat), e = .returned (.tuple #[.int .i64 (t'.page : Int), .int .i64 0]) ∧ Done w0 w1 w' X r p N M c G H P (BT.leaf f.page L) (n + 1) t' H' c' := by
 have hb14 : Below w1.heap.size w1 w4 := hb12.trans (hb24.mono hb12.size)
 have hw0 := h.below.size
 have h1s := hb12.size
 have h2s := hb24.size
 have hll : (ss' ++ [s]).length = q + 1 := by rw [List.length_append, hq]; rfl
 have hg : w1.heap.size ≤ g ∧ g < w2.heap.size := hst.2.1 g rfl
 have hst4 : Sts w4 (fun k => w1.heap.size ≤ k ∧ k < w4.heap.size) (.slice (some ⟨g, 0, none⟩) (ss' ++ [s]).length cap) (ss' ++ [s]) := by
  rw [hll, ← hnq]
  exact (hst.below hb24).more (fun k hk _ => ⟨hk.1, by omega⟩)
 have hlast : (ss' ++ [s])[q]'(by omega) = s := by simp [hq]
 have hol := ho.lt
 have hset := hst4.set q (by omega) 2 (by omega) v { s with v := v, es := L } (by rw [hlast]; rfl) ⟨ho.ens, fun k hk => by
  have := hol k hk
  exact ⟨⟨by omega, this.2⟩, this.2, by omega⟩⟩
 rw [hll, ← hnq] at hset
 have hms : Moved (· = g) w4 (w4.setCell ⟨g, q * 4 + 2, none⟩ v) := (Moved.refl (· = g) w4).setCell _ _ (.inl rfl)
 have hpb := (h.take hb14).mv hms (fun k hk => by rw [hk]; exact ⟨.inr ⟨hg.1, by omega⟩, by omega⟩)
 have hsz : (w4.setCell ⟨g, q * 4 + 2, none⟩ v).heap.size = w4.heap.size := by simp
 have hlen := how.length
 have hlev := P.levels
 have hqn : q = n := by omega
 have hfull : (ss' ++ [s]).set q { s with v := v, es := L } = ss' ++ [{ s with v := v, es := L }] := by
  rw [List.set_append_right _ _ (by omega), hq, Nat.sub_self]; rfl
 rw [hfull] at hset
 refine (settle_tree hpb (X0 := X) (S := fun k => w1.heap.size ≤ k ∧ k < w4.heap.size) (fun k hk => ⟨.inl hk, fun e => by have := h.lt k hk; omega⟩) (fun k hk => ⟨.inr hk, by omega, by rw [hsz]; exact hk.2⟩) hch _ _ hset (by rw [List.length_append, ← hq, hqn]; rfl) (by rw [List.take_left' (by omega)]; exact how) ⟨{ s with v := v, es := L }, by rw [List.getElem?_append_right (by omega), ← hq, hqn, Nat.sub_self]; rfl, hs1, hs2, (ents_leaf _ _).symm⟩ hc).mono ?_
 rintro e w' ⟨m, t', H', c', rfl, hd⟩
 refine ⟨m, t', H', c', rfl, hd.settled, hd.stored, hd.framed, hd.pb, ?_, hd.cost⟩
 refine (Mx.trans (Mx.of hb14) ?_).trans hd.mx
 exact hms.mono (fun j hj => by rw [hj]; exact ⟨by omega, fun e => by have := h.lt g e; omega⟩)
set_option maxHeartbeats 8000000 in
theorem set_tree {w0 w : World} {X : Nat → Prop} {r p N M c : Nat} {G H : Lg} (h : Pb w0 w X r p N M c G (some H)) {n : Nat} {t : BT Ent n} (hi : InLg N H t) (hroom : 25 ≤ H.free.length) (key val : ByteArray) (hk : key.size ≤ 140) (hkv : key.size + val.size ≤ 150) (hc : c + 300000 < 500000) :
 Calls Tryz.prog 39 #[.pointer (some ⟨p, 0, none⟩), .int .i64 (t.page : Int), .string key, .string val] w fun e w' => ∃ (m : Nat) (t' : BT Ent m) (H' : Lg) (c' : Nat), e = .returned (.tuple #[.int .i64 (t'.page : Int), .int .i64 0]) ∧ c' ≤ c + 110 ∧ Changed N H H' t t' (setL key val t.flat) ∧ Pb w0 w' X r p N M c' G (some H') ∧ Mx w0 X w w' := by
 have hlow := hi.low
 have HCH := Lib.hid (changing_any h hi.stored hi.root hi.sorted key (by omega))
 have HI0 := Lib.hid hi
 obtain ⟨pg, hpg⟩ : ∃ pg : Int, pg = (t.page : Int) := ⟨_, rfl⟩
 rw [← hpg] at HCH ⊢
 have i1 : ¬ (140 : Int) < key.size := by omega
 have i2 : ¬ (150 : Int) < (key.size : Int) + val.size := by omega
 have i3 : (key.size : Int) + val.size ≤ 1000 := by omega
 clear h hi hpg
 go_enter Tryz.func39, Tryz.ntmps39
 go_wp2_with fail
 go_step3
 go_wp2_with fail
 refine HCH.out.mono ?_
 rintro en w2 ⟨w1, P, f, m, ss, lv, rfl, h1, hm1, hplug, hon, hpl, hway, hst, hb2⟩
 obtain ⟨⟨ss', s, rfl, hsa, hsl, hse, hsi, how⟩⟩ := hway
 obtain ⟨nq, hnq⟩ : ∃ nq, nq = (ss' ++ [s]).length := ⟨_, rfl⟩
 obtain ⟨q, hq⟩ : ∃ q, q = ss'.length := ⟨_, rfl⟩
 have hqn : nq = q + 1 := by rw [hnq, hq, List.length_append]; rfl
 have hlast : (ss' ++ [s])[q]'(by rw [← hnq]; omega) = s := by simp [hq]
 obtain ⟨g, cap, rfl, hg, hgS, hc1, hc2, hfrz, d0, d1, d2, d3⟩ := hst.at q (by rw [← hnq]; omega)
 obtain ⟨hen, hob⟩ := hst.ens q (by rw [← hnq]; omega)
 rw [hlast] at d0 d1 d2 d3 hen hob
 rw [← hnq] at hc1 hst ⊢
 have j1 : (nq : Int) - 1 = q := by omega
 have j2 : (q : Int) < nq := by omega
 obtain ⟨ao, ac, hsv, hac1, hac2⟩ := hen.form
 obtain ⟨n1, hn1⟩ : ∃ n1, n1 = s.es.length := ⟨_, rfl⟩
 rw [← hn1] at hsv hac1
 rw [hsv] at d2 hen hob
 rw [hsi] at d3
 rw [hsl] at d1
 obtain ⟨sa, hsa'⟩ : ∃ sa, sa = s.at' := ⟨_, rfl⟩
 rw [← hsa'] at d0
 have hi := HI0.out
 rw [← hplug] at hi
 have hfacts := leaf_facts hi
 have hfew : n1 ≤ 10000 := by rw [hn1, hse]; omega
 have hmn : m ≤ n1 := by rw [hn1, hse]; exact hpl.1
 have hhas := fun w => has_any sa 0 (.slice ao n1 ac) s.es m key w
 unfold stepV at hhas
 have HHAS := Lib.hid hhas
 have HI := Lib.hid hi
 have HF := Lib.hid hfacts
 have HP1 := Lib.hid h1
 have HM1 := Lib.hid hm1
 have HB2 := Lib.hid hb2
 have HST := Lib.hid hst
 have HPLUG := Lib.hid hplug
 have HON := Lib.hid hon
 have HPL := Lib.hid hpl
 have HSE := Lib.hid hse
 have HEN := Lib.hid hen
 have HN1 := Lib.hid hn1
 have HHERE := Lib.hid (And.intro hq (And.intro hqn (And.intro hsa (And.intro hsl how))))
 have HG := Lib.hid hg
 have K := Lib.hid (And.intro d0 (And.intro d1 (And.intro d2 d3)))
 have F2 := Lib.hid (hfrz (q * 4 + 2))
 clear h1 hm1 hplug hon hpl hst hb2 hsa hsl hse hsi how hnq hq hqn hlast hg hgS hfrz hen hob hsv hn1 hsa' hi hfacts hhas HCH
 go_wp2_with fail
 refine (HHAS.out _ HEN.out (by have := HN1.out; omega) (by have := HN1.out; omega)).mono ?_
 rintro en w3 ⟨rfl, hb3⟩
 have d0 := (hb3.cell (World.block_lt_of_cell? w2 _ K.out.1)).trans K.out.1
 have d1 := (hb3.cell (World.block_lt_of_cell? w2 _ K.out.2.1)).trans K.out.2.1
 have d2 := (hb3.cell (World.block_lt_of_cell? w2 _ K.out.2.2.1)).trans K.out.2.2.1
 have d3 := (hb3.cell (World.block_lt_of_cell? w2 _ K.out.2.2.2)).trans K.out.2.2.2
 have D2 := Lib.hid d2
 have D3 := Lib.hid d3
 have hg2 : g < w2.heap.size := HG.out
 have DF := Lib.hid ((World.frozen?_of_block (a := ⟨g, q * 4 + 2, none⟩) (hb3.block g hg2)).trans F2.out)
 have HB23 := Lib.hid hb3
 have HEN3 := Lib.hid (Ens.below HEN.out hb3)
 have HG3 := Lib.hid (And.intro hg2 (Nat.lt_of_lt_of_le hg2 hb3.size))
 obtain ⟨tt, ht⟩ : ∃ tt, tt = hasOf s.es m key := ⟨_, rfl⟩
 rw [← ht]
 have HT := Lib.hid ht
 have hml : tt = true → m < n1 := fun e => by
  rw [ht] at e
  unfold hasOf at e
  by_cases hlt : m < s.es.length
  ·rw [HN1.out]; exact hlt
  ·rw [List.getElem?_eq_none (by omega)] at e; cases e
 clear hb3 ht hg2 HHAS
 cases tt with
 | true =>
  have hmt := hml rfl
  have hto : m + 1 ≤ n1 := by omega
  have hto' : ((m + 1 : Nat) : Int) ≤ n1 := by omega
  clear hml
  have hal : Below w3.heap.size w3 (w3.drew.alloc (.cells #[.string key, .string val, .int .i64 0] 121)) := (Below.refl w3.heap.size w3).drew.alloc (Nat.le_refl _) _
  have hone := Ens.one (w := (w3.drew.alloc (.cells #[.string key, .string val, .int .i64 0] 121))) (g := w3.heap.size) ⟨key, val, 0⟩ (Blk.new w3.drew #[.string key, .string val, .int .i64 0] 121)
  have hput := put_any g (q * 4) m (m + 1) (.slice ao n1 ac) (.slice (some ⟨w3.heap.size, 0, none⟩) 1 1) s.es [⟨key, val, 0⟩] (w3.drew.alloc (.cells #[.string key, .string val, .int .i64 0] 121)) ((hal.cell (show (⟨g, q * 4 + 2, none⟩ : Addr).block < _ from HG3.out.2)).trans D2.out) ((World.frozen?_of_block (a := ⟨g, q * 4 + 2, none⟩) (hal.block g HG3.out.2)).trans DF.out) (Ens.below HEN3.out hal) hone (by rw [← HN1.out]; exact hmn) (by rw [← HN1.out]; exact hto) (by rw [← HN1.out]; exact hfew) (show 1 ≤ 10000 by decide)
  rw [show (((m + 1 : Nat)) : Int) = (m : Int) + 1 by omega] at hput
  have HPUT := Lib.hid hput
  have HAL := Lib.hid hal
  clear hal hone hput
  go_wp2_with fail
  refine wp_region_any (by kernel_rfl) ?_
  change wpAny _ _ _ _ _ _ _ (World.drew _)
  refine wpAny_of_held (S := fun (w' : World) => w'.cell? ⟨g, q * 4 + 3, none⟩ = some (.int .i64 m)) _ _ _ _ ?_
  have hS : (fun (w' : World) => w'.cell? ⟨g, q * 4 + 3, none⟩ = some (.int .i64 m)) _ := D3.out
  try simp only [Act.put, List.setIfInBounds_toArray, List.set_cons_zero, List.set_cons_succ]
  refine wpAnyH_take (i := 0) (oi := ⟨some 50, _, _, _, _, _⟩) (v := ?_) rfl (by kernel_rfl) (by kernel_rfl) (by kernel_rfl) (fun _ _ _ h => h) (Or.inl ⟨by simp only [Region.wanted], ?_⟩) hS ?_
  rotate_left
  ·intro wz hSw
   clear hSw
   go_simp
   first | done | with_reducible rfl
  try simp only [Act.put, List.setIfInBounds_toArray, List.set_cons_zero, List.set_cons_succ]
  refine wpAnyH_take (i := 1) (oi := ⟨some 51, _, _, _, _, _⟩) (v := ?_) rfl (by kernel_rfl) (by kernel_rfl) (by kernel_rfl) (fun _ _ _ h => h) (Or.inl ⟨by simp only [Region.wanted], ?_⟩) hS ?_
  rotate_left
  ·intro wz hSw
   clear hSw
   go_simp
   first | done | with_reducible rfl
  try simp only [Act.put, List.setIfInBounds_toArray, List.set_cons_zero, List.set_cons_succ]
  refine wpAnyH_take (i := 2) (oi := ⟨some 52, _, _, _, _, _⟩) (v := ?_) rfl (by kernel_rfl) (by kernel_rfl) (by kernel_rfl) (fun _ _ _ h => h) (Or.inl ⟨by simp only [Region.wanted], ?_⟩) hS ?_
  rotate_left
  ·intro wz hSw
   clear hSw
   go_simp
   first | done | with_reducible rfl
  try simp only [Act.put, List.setIfInBounds_toArray, List.set_cons_zero, List.set_cons_succ]
  refine wpAnyH_take (i := 3) (oi := ⟨some 53, _, _, _, _, _⟩) (v := ?_) rfl (by kernel_rfl) (by kernel_rfl) (by kernel_rfl) (fun _ _ _ h => h) (Or.inl ⟨by simp only [Region.wanted], ?_⟩) hS ?_
  rotate_left
  ·intro wz hSw
   clear hSw
   go_simp
   first | done | with_reducible rfl
  try simp only [Act.put, List.setIfInBounds_toArray, List.set_cons_zero, List.set_cons_succ]
  refine wpAnyH_take (i := 4) (oi := ⟨some 54, _, _, _, _, _⟩) (v := ?_) rfl (by kernel_rfl) (by kernel_rfl) (by kernel_rfl) (fun _ _ _ h => h) (Or.inl ⟨by simp only [Region.wanted], ?_⟩) hS ?_
  rotate_left
  ·intro wz hSw
   clear hSw
   go_simp
   first | done | with_reducible rfl
  try simp only [Act.put, List.setIfInBounds_toArray, List.set_cons_zero, List.set_cons_succ]
  refine wpAnyH_take (i := 5) (oi := ⟨some 55, _, _, _, _, _⟩) (v := ?_) rfl (by kernel_rfl) (by kernel_rfl) (by kernel_rfl) (fun _ _ _ h => h) (Or.inl ⟨by simp only [Region.wanted], ?_⟩) hS ?_
  rotate_left
  ·intro wz hSw
   clear hSw
   go_simp
   first | done | with_reducible rfl
  try simp only [Act.put, List.setIfInBounds_toArray, List.set_cons_zero, List.set_cons_succ]
  refine wpAnyH_take (i := 6) (oi := ⟨some 56, _, _, _, _, _⟩) (v := ?_) rfl (by kernel_rfl) (by kernel_rfl) (by kernel_rfl) (fun _ _ _ h => h) (Or.inl ⟨by simp only [Region.wanted], ?_⟩) hS ?_
  rotate_left
  ·intro wz hSw
   (try dsimp only at hSw)
   (try go_split_ands)
   go_simp
   first | done | with_reducible rfl
  try simp only [Act.put, List.setIfInBounds_toArray, List.set_cons_zero, List.set_cons_succ]
  refine wpAnyH_take (i := 7) (oi := ⟨some 57, _, _, _, _, _⟩) (v := ?_) rfl (by kernel_rfl) (by kernel_rfl) (by kernel_rfl) (fun _ _ _ h => h) (Or.inl ⟨by simp only [Region.wanted], ?_⟩) hS ?_
  rotate_left
  ·intro wz hSw
   clear hSw
   go_simp
   first | done | with_reducible rfl
  try simp only [Act.put, List.setIfInBounds_toArray, List.set_cons_zero, List.set_cons_succ]
  refine wpAnyH_take (i := 8) (oi := ⟨some 58, _, _, _, _, _⟩) (v := ?_) rfl (by kernel_rfl) (by kernel_rfl) (by kernel_rfl) (fun _ _ _ h => h) (Or.inl ⟨by simp only [Region.wanted], ?_⟩) hS ?_
  rotate_left
  ·intro wz hSw
   clear hSw
   go_simp
   first | done | with_reducible rfl
  try simp only [Act.put, List.setIfInBounds_toArray, List.set_cons_zero, List.set_cons_succ]
  refine wpAnyH_take (i := 9) (oi := ⟨some 59, _, _, _, _, _⟩) (v := ?_) rfl (by kernel_rfl) (by kernel_rfl) (by kernel_rfl) (fun _ _ _ h => h) (Or.inl ⟨by simp only [Region.wanted], ?_⟩) hS ?_
  rotate_left
  ·intro wz hSw
   clear hSw
   go_simp
   first | done | with_reducible rfl
  try simp only [Act.put, List.setIfInBounds_toArray, List.set_cons_zero, List.set_cons_succ]
  refine wpAnyH_take (i := 10) (oi := ⟨some 60, _, _, _, _, _⟩) (v := ?_) rfl (by kernel_rfl) (by kernel_rfl) (by kernel_rfl) (fun _ _ _ h => h) (Or.inl ⟨by simp only [Region.wanted], ?_⟩) hS ?_
  rotate_left
  ·intro wz hSw
   clear hSw
   go_simp
   first | done | with_reducible rfl
  try simp only [Act.put, List.setIfInBounds_toArray, List.set_cons_zero, List.set_cons_succ]
  refine wpAnyH_ready (rs := [11]) (by kernel_rfl) (by simp) ?_
  refine AllReadyH.cons (o := ⟨some 61, _, _, _, _, _⟩) rfl (fun K hK => ?_) AllReadyH.nil
  go_simp
  refine hK.out _ _ ((HAL.out.cell (show (⟨g, q * 4 + 3, none⟩ : Addr).block < _ from HG3.out.2)).trans D3.out) (fun hS => ?_)
  clear hK K
  try simp only [Act.put, List.setIfInBounds_toArray, List.set_cons_zero, List.set_cons_succ]
  refine wpAnyH_ready (rs := [12]) (by kernel_rfl) (by simp) ?_
  refine AllReadyH.cons (o := ⟨some 62, _, _, _, _, _⟩) rfl (fun K hK => ?_) AllReadyH.nil
  go_simp
  refine HPUT.out.mono ?_
  rintro en w5 ⟨rfl, v', w4, rfl, hb4, ho4⟩
  generalize hLE : s.es.take m ++ [⟨key, val, 0⟩] ++ s.es.drop (m + 1) = L at ho4
  have HLE := Lib.hid hLE
  clear hLE
  obtain ⟨ao4, cap4, rfl, -⟩ := ho4.form
  obtain ⟨nL, hnL⟩ : ∃ nL, nL = L.length := ⟨_, rfl⟩
  rw [← hnL] at ho4 ⊢
  have HNL := Lib.hid hnL
  clear hnL
  have HB4 := Lib.hid (HAL.out.trans (hb4.mono HAL.out.size))
  have HO4 := Lib.hid ho4
  clear hb4 ho4
  refine hK.out _ _ (by rw [World.cell?_setCell_other _ _ _ _ (by simp)]; exact (HB4.out.cell (show (⟨g, q * 4 + 3, none⟩ : Addr).block < _ from HG3.out.2)).trans D3.out) (fun hS => ?_)
  clear hK K
  try simp only [Act.put, List.setIfInBounds_toArray, List.set_cons_zero, List.set_cons_succ]
  refine wpAnyH_done (by kernel_rfl) ?_ _
  clear hS
  have hLs : L = setEs f.flat key val m := by
   rw [← HLE.out, ← HSE.out]
   unfold setEs
   rw [← HT.out]; rfl
  have hsf := setEs_facts (m := m) HF.out.1 HF.out.2.1 HF.out.2.2 hk hkv
  rw [← hLs] at hsf
  have hset := after_put HP1.out HB2.out (HB23.out.trans (HB4.out.mono HB23.out.size)) HST.out HHERE.out.1 HHERE.out.2.1 HHERE.out.2.2.1 HHERE.out.2.2.2.1 HHERE.out.2.2.2.2 HO4.out (Nat.le_trans HB23.out.size HAL.out.size) (InLg.chg HI.out hroom hsf.1 hsf.2.1 hsf.2.2) hc
  have HSET := Lib.hid hset
  have HLS := Lib.hid hLs
  clear hLs hsf hset d0 d1 d2 d3
  go_wp2_with fail
  refine HSET.out.mono ?_
  rintro en w6 ⟨m', t', H', c', rfl, hd⟩
  have HD := Lib.hid hd
  clear hd HSET
  go_wp2_with fail
  repeat rw [Exit.noGoto_ret]
  go_ret2
  have hd := HD.out
  have hco := hd.cost
  have hlow := HI.out.low
  rw [HLS.out, setEs_eq] at hd
  have hch := Done.set HI.out HON.out HPL.out hd
  rw [HPLUG.out] at hch
  have hpbx := hd.pb
  have hmx := Mx.trans HM1.out hd.mx
  have hcx : c' ≤ c + 110 := by omega
  refine ⟨m', t', H', c', rfl, hcx, ?_, hpbx, hmx⟩
  exact hch
 | false =>
  have hto : m ≤ n1 := by omega
  have hto' : ((m : Nat) : Int) ≤ n1 := by omega
  clear hml
  have hal : Below w3.heap.size w3 (w3.drew.alloc (.cells #[.string key, .string val, .int .i64 0] 121)) := (Below.refl w3.heap.size w3).drew.alloc (Nat.le_refl _) _
  have hone := Ens.one (w := (w3.drew.alloc (.cells #[.string key, .string val, .int .i64 0] 121))) (g := w3.heap.size) ⟨key, val, 0⟩ (Blk.new w3.drew #[.string key, .string val, .int .i64 0] 121)
  have hput := put_any g (q * 4) m (m) (.slice ao n1 ac) (.slice (some ⟨w3.heap.size, 0, none⟩) 1 1) s.es [⟨key, val, 0⟩] (w3.drew.alloc (.cells #[.string key, .string val, .int .i64 0] 121)) ((hal.cell (show (⟨g, q * 4 + 2, none⟩ : Addr).block < _ from HG3.out.2)).trans D2.out) ((World.frozen?_of_block (a := ⟨g, q * 4 + 2, none⟩) (hal.block g HG3.out.2)).trans DF.out) (Ens.below HEN3.out hal) hone (by rw [← HN1.out]; exact hmn) (by rw [← HN1.out]; exact hto) (by rw [← HN1.out]; exact hfew) (show 1 ≤ 10000 by decide)
  have HPUT := Lib.hid hput
  have HAL := Lib.hid hal
  clear hal hone hput
  go_wp2_with fail
  refine wp_region_any (by kernel_rfl) ?_
  change wpAny _ _ _ _ _ _ _ (World.drew _)
  refine wpAny_of_held (S := fun (w' : World) => w'.cell? ⟨g, q * 4 + 3, none⟩ = some (.int .i64 m)) _ _ _ _ ?_
  have hS : (fun (w' : World) => w'.cell? ⟨g, q * 4 + 3, none⟩ = some (.int .i64 m)) _ := D3.out
  try simp only [Act.put, List.setIfInBounds_toArray, List.set_cons_zero, List.set_cons_succ]
  refine wpAnyH_take (i := 0) (oi := ⟨some 50, _, _, _, _, _⟩) (v := ?_) rfl (by kernel_rfl) (by kernel_rfl) (by kernel_rfl) (fun _ _ _ h => h) (Or.inl ⟨by simp only [Region.wanted], ?_⟩) hS ?_
  rotate_left
  ·intro wz hSw
   clear hSw
   go_simp
   first | done | with_reducible rfl
  try simp only [Act.put, List.setIfInBounds_toArray, List.set_cons_zero, List.set_cons_succ]
  refine wpAnyH_take (i := 1) (oi := ⟨some 51, _, _, _, _, _⟩) (v := ?_) rfl (by kernel_rfl) (by kernel_rfl) (by kernel_rfl) (fun _ _ _ h => h) (Or.inl ⟨by simp only [Region.wanted], ?_⟩) hS ?_
  rotate_left
  ·intro wz hSw
   clear hSw
   go_simp
   first | done | with_reducible rfl
  try simp only [Act.put, List.setIfInBounds_toArray, List.set_cons_zero, List.set_cons_succ]
  refine wpAnyH_take (i := 2) (oi := ⟨some 52, _, _, _, _, _⟩) (v := ?_) rfl (by kernel_rfl) (by kernel_rfl) (by kernel_rfl) (fun _ _ _ h => h) (Or.inl ⟨by simp only [Region.wanted], ?_⟩) hS ?_
  rotate_left
  ·intro wz hSw
   clear hSw
   go_simp
   first | done | with_reducible rfl
  try simp only [Act.put, List.setIfInBounds_toArray, List.set_cons_zero, List.set_cons_succ]
  refine wpAnyH_take (i := 3) (oi := ⟨some 53, _, _, _, _, _⟩) (v := ?_) rfl (by kernel_rfl) (by kernel_rfl) (by kernel_rfl) (fun _ _ _ h => h) (Or.inl ⟨by simp only [Region.wanted], ?_⟩) hS ?_
  rotate_left
  ·intro wz hSw
   clear hSw
   go_simp
   first | done | with_reducible rfl
  try simp only [Act.put, List.setIfInBounds_toArray, List.set_cons_zero, List.set_cons_succ]
  refine wpAnyH_take (i := 4) (oi := ⟨some 54, _, _, _, _, _⟩) (v := ?_) rfl (by kernel_rfl) (by kernel_rfl) (by kernel_rfl) (fun _ _ _ h => h) (Or.inl ⟨by simp only [Region.wanted], ?_⟩) hS ?_
  rotate_left
  ·intro wz hSw
   clear hSw
   go_simp
   first | done | with_reducible rfl
  try simp only [Act.put, List.setIfInBounds_toArray, List.set_cons_zero, List.set_cons_succ]
  refine wpAnyH_take (i := 5) (oi := ⟨some 55, _, _, _, _, _⟩) (v := ?_) rfl (by kernel_rfl) (by kernel_rfl) (by kernel_rfl) (fun _ _ _ h => h) (Or.inl ⟨by simp only [Region.wanted], ?_⟩) hS ?_
  rotate_left
  ·intro wz hSw
   clear hSw
   go_simp
   first | done | with_reducible rfl
  try simp only [Act.put, List.setIfInBounds_toArray, List.set_cons_zero, List.set_cons_succ]
  refine wpAnyH_take (i := 6) (oi := ⟨some 56, _, _, _, _, _⟩) (v := ?_) rfl (by kernel_rfl) (by kernel_rfl) (by kernel_rfl) (fun _ _ _ h => h) (Or.inl ⟨by simp only [Region.wanted], ?_⟩) hS ?_
  rotate_left
  ·intro wz hSw
   (try dsimp only at hSw)
   (try go_split_ands)
   go_simp
   first | done | with_reducible rfl
  try simp only [Act.put, List.setIfInBounds_toArray, List.set_cons_zero, List.set_cons_succ]
  refine wpAnyH_take (i := 7) (oi := ⟨some 57, _, _, _, _, _⟩) (v := ?_) rfl (by kernel_rfl) (by kernel_rfl) (by kernel_rfl) (fun _ _ _ h => h) (Or.inl ⟨by simp only [Region.wanted], ?_⟩) hS ?_
  rotate_left
  ·intro wz hSw
   clear hSw
   go_simp
   first | done | with_reducible rfl
  try simp only [Act.put, List.setIfInBounds_toArray, List.set_cons_zero, List.set_cons_succ]
  refine wpAnyH_take (i := 8) (oi := ⟨some 58, _, _, _, _, _⟩) (v := ?_) rfl (by kernel_rfl) (by kernel_rfl) (by kernel_rfl) (fun _ _ _ h => h) (Or.inl ⟨by simp only [Region.wanted], ?_⟩) hS ?_
  rotate_left
  ·intro wz hSw
   clear hSw
   go_simp
   first | done | with_reducible rfl
  try simp only [Act.put, List.setIfInBounds_toArray, List.set_cons_zero, List.set_cons_succ]
  refine wpAnyH_take (i := 9) (oi := ⟨some 59, _, _, _, _, _⟩) (v := ?_) rfl (by kernel_rfl) (by kernel_rfl) (by kernel_rfl) (fun _ _ _ h => h) (Or.inl ⟨by simp only [Region.wanted], ?_⟩) hS ?_
  rotate_left
  ·intro wz hSw
   clear hSw
   go_simp
   first | done | with_reducible rfl
  try simp only [Act.put, List.setIfInBounds_toArray, List.set_cons_zero, List.set_cons_succ]
  refine wpAnyH_take (i := 10) (oi := ⟨some 60, _, _, _, _, _⟩) (v := ?_) rfl (by kernel_rfl) (by kernel_rfl) (by kernel_rfl) (fun _ _ _ h => h) (Or.inl ⟨by simp only [Region.wanted], ?_⟩) hS ?_
  rotate_left
  ·intro wz hSw
   clear hSw
   go_simp
   first | done | with_reducible rfl
  try simp only [Act.put, List.setIfInBounds_toArray, List.set_cons_zero, List.set_cons_succ]
  refine wpAnyH_ready (rs := [11]) (by kernel_rfl) (by simp) ?_
  refine AllReadyH.cons (o := ⟨some 61, _, _, _, _, _⟩) rfl (fun K hK => ?_) AllReadyH.nil
  go_simp
  refine hK.out _ _ ((HAL.out.cell (show (⟨g, q * 4 + 3, none⟩ : Addr).block < _ from HG3.out.2)).trans D3.out) (fun hS => ?_)
  clear hK K
  try simp only [Act.put, List.setIfInBounds_toArray, List.set_cons_zero, List.set_cons_succ]
  refine wpAnyH_ready (rs := [12]) (by kernel_rfl) (by simp) ?_
  refine AllReadyH.cons (o := ⟨some 62, _, _, _, _, _⟩) rfl (fun K hK => ?_) AllReadyH.nil
  go_simp
  refine HPUT.out.mono ?_
  rintro en w5 ⟨rfl, v', w4, rfl, hb4, ho4⟩
  generalize hLE : s.es.take m ++ [⟨key, val, 0⟩] ++ s.es.drop (m) = L at ho4
  have HLE := Lib.hid hLE
  clear hLE
  obtain ⟨ao4, cap4, rfl, -⟩ := ho4.form
  obtain ⟨nL, hnL⟩ : ∃ nL, nL = L.length := ⟨_, rfl⟩
  rw [← hnL] at ho4 ⊢
  have HNL := Lib.hid hnL
  clear hnL
  have HB4 := Lib.hid (HAL.out.trans (hb4.mono HAL.out.size))
  have HO4 := Lib.hid ho4
  clear hb4 ho4
  refine hK.out _ _ (by rw [World.cell?_setCell_other _ _ _ _ (by simp)]; exact (HB4.out.cell (show (⟨g, q * 4 + 3, none⟩ : Addr).block < _ from HG3.out.2)).trans D3.out) (fun hS => ?_)
  clear hK K
  try simp only [Act.put, List.setIfInBounds_toArray, List.set_cons_zero, List.set_cons_succ]
  refine wpAnyH_done (by kernel_rfl) ?_ _
  clear hS
  have hLs : L = setEs f.flat key val m := by
   rw [← HLE.out, ← HSE.out]
   unfold setEs
   rw [← HT.out]; rfl
  have hsf := setEs_facts (m := m) HF.out.1 HF.out.2.1 HF.out.2.2 hk hkv
  rw [← hLs] at hsf
  have hset := after_put HP1.out HB2.out (HB23.out.trans (HB4.out.mono HB23.out.size)) HST.out HHERE.out.1 HHERE.out.2.1 HHERE.out.2.2.1 HHERE.out.2.2.2.1 HHERE.out.2.2.2.2 HO4.out (Nat.le_trans HB23.out.size HAL.out.size) (InLg.chg HI.out hroom hsf.1 hsf.2.1 hsf.2.2) hc
  have HSET := Lib.hid hset
  have HLS := Lib.hid hLs
  clear hLs hsf hset d0 d1 d2 d3
  go_wp2_with fail
  refine HSET.out.mono ?_
  rintro en w6 ⟨m', t', H', c', rfl, hd⟩
  have HD := Lib.hid hd
  clear hd HSET
  go_wp2_with fail
  repeat rw [Exit.noGoto_ret]
  go_ret2
  have hd := HD.out
  have hco := hd.cost
  have hlow := HI.out.low
  rw [HLS.out, setEs_eq] at hd
  have hch := Done.set HI.out HON.out HPL.out hd
  rw [HPLUG.out] at hch
  have hpbx := hd.pb
  have hmx := Mx.trans HM1.out hd.mx
  have hcx : c' ≤ c + 110 := by omega
  refine ⟨m', t', H', c', rfl, hcx, ?_, hpbx, hmx⟩
  exact hch
end Go.Proofs.YtbpdapcmaioeiaaGreat
