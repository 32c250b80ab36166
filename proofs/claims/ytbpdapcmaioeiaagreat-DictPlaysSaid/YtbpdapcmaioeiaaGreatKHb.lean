/- Hb -/
import Derived.Test.YtbpdapcmaioeiaaGreatKHa
namespace Go.Proofs.YtbpdapcmaioeiaaGreat
open Go.RowKit Go.Maps
set_option maxRecDepth 100000
set_option linter.unusedVariables false
/-- The nodes of a way, and what stands beside it, are stored. -/
def PStored (N : Nat) (H : Lg) : {n M : Nat} → BT.Path Ent n M → Nat → Prop
 | _, _, .top, _ => True
 | n, _, .up page ka kb rest, cur => NodeAt N H (page : Int) ((n + 1 : Nat) : Int) ((ka.map BT.page ++ cur :: kb.map BT.page).map (fun q : Nat => kidE (q : Int))) ∧ (∀ k ∈ ka, Stored N H k) ∧ (∀ k ∈ kb, Stored N H k) ∧ PStored N H rest page
theorem kids_map {n : Nat} (ka kb : List (BT Ent n)) (t : BT Ent n) : (ka.map BT.page ++ t.page :: kb.map BT.page).map (fun q : Nat => kidE (q : Int)) = (ka ++ t :: kb).map (fun k => kidE (k.page : Int)) := by
 simp [List.map_append, Function.comp_def]
theorem Stored.split {N : Nat} {H : Lg} : {n M : Nat} → (p : BT.Path Ent n M) → (t : BT Ent n) → Stored N H (p.plug t) → PStored N H p t.page ∧ Stored N H t
 | _, _, .top, t, h => ⟨trivial, h⟩
 | n, M, .up page ka kb rest, t, h => by
  obtain ⟨h1, h2⟩ := Stored.split rest (BT.node page (ka ++ t :: kb)) h
  have hk := h2.kids
  have hk' : ∀ k ∈ ka ++ t :: kb, Stored N H k := hk
  refine ⟨⟨?_, fun k h => hk' k (by simp [h]), fun k h => hk' k (by simp [h]), h1⟩, hk' t (by simp)⟩
  rw [kids_map]
  exact h2.node
theorem PStored.plug {N : Nat} {H : Lg} : {n M : Nat} → (p : BT.Path Ent n M) → (t : BT Ent n) → PStored N H p t.page → Stored N H t → Stored N H (p.plug t)
 | _, _, .top, t, _, ht => ht
 | n, M, .up page ka kb rest, t, h, ht => by
  obtain ⟨h1, h2, h3, h4⟩ := h
  refine PStored.plug rest (BT.node page (ka ++ t :: kb)) h4 (Stored.of ?_ ?_)
  ·rw [kids_map] at h1
   exact h1
  ·intro x hx
   have hx' : x ∈ ka ++ t :: kb := hx
   rcases List.mem_append.1 hx' with hx' | hx'
   ·exact h2 x hx'
   ·rcases List.mem_cons.1 hx' with rfl | hx'
    ·exact ht
    ·exact h3 x hx'
theorem PStored.frame {N : Nat} {H H' : Lg} : {n M : Nat} → {p : BT.Path Ent n M} → {cur : Nat} → PStored N H p cur → (∀ q ∈ p.pages, H'.page q = H.page q ∧ q ∉ H'.free) → PStored N H' p cur
 | _, _, .top, _, _, _ => trivial
 | n, M, .up page ka kb rest, cur, h, hp => by
  obtain ⟨h1, h2, h3, h4⟩ := h
  have hq : ∀ q, q = page ∨ q ∈ ka.flatMap BT.pages ∨ q ∈ kb.flatMap BT.pages ∨ q ∈ rest.pages → H'.page q = H.page q ∧ q ∉ H'.free := fun q hq => hp q (by
   show q ∈ page :: (ka.flatMap BT.pages ++ kb.flatMap BT.pages) ++ rest.pages
   simp only [List.mem_append, List.mem_cons]
   rcases hq with h | h | h | h
   ·exact .inl (.inl h)
   ·exact .inl (.inr (.inl h))
   ·exact .inl (.inr (.inr h))
   ·exact .inr h)
  exact ⟨NodeAt.frame h1 (hq page (.inl rfl)).1 (hq page (.inl rfl)).2, fun k hk => (h2 k hk).frame (fun q h => hq q (.inr (.inl (List.mem_flatMap.2 ⟨k, hk, h⟩)))),
   fun k hk => (h3 k hk).frame (fun q h => hq q (.inr (.inr (.inl (List.mem_flatMap.2 ⟨k, hk, h⟩))))), PStored.frame h4 (fun q h => hq q (.inr (.inr (.inr h))))⟩
theorem layPage_other {lvl : Int} {ats : List Int} {ls : List (List Ent)} {H : Lg} {q : Nat} : ∀ k, (∀ j, j < k → (kidAt ats H j).toNat ≠ q) → layPage lvl ats ls H k q = H.page q
 | 0, _ => rfl
 | k + 1, h => by
  show upd _ _ _ q = _
  unfold upd
  rw [if_neg (fun e => h k (by omega) e.symm)]
  exact layPage_other k (fun j hj => h j (by omega))
theorem layPage_at {lvl : Int} {ats : List Int} {ls : List (List Ent)} {H : Lg} {j : Nat} : ∀ k, j < k → (∀ i, i < k → i ≠ j → (kidAt ats H i).toNat ≠ (kidAt ats H j).toNat) → layPage lvl ats ls H k (kidAt ats H j).toNat = page (enc lvl (ls.getD j []))
 | 0, h, _ => by omega
 | k + 1, h, hn => by
  show upd _ _ _ _ = _
  unfold upd
  by_cases e : j = k
  ·subst e; rw [if_pos rfl]
  ·rw [if_neg (fun e' => hn k (by omega) (fun e2 => e e2.symm) e'.symm)]
   exact layPage_at k (by omega) (fun i hi he => hn i (by omega) he)
/-- The pages once all parts are laid, and spare ones given back. -/
def layF (lvl : Int) (ats : List Int) (ls : List (List Ent)) (H : Lg) : Lg := { H with free := ((ats.drop ls.length).map Int.toNat).reverse ++ H.free.drop (ls.length - ats.length), page := layPage lvl ats ls H ls.length }
def atsOf {n : Nat} (old : List (BT Ent n)) : List Int := old.map (fun t => (t.page : Int))
theorem kidAt_eq {n : Nat} {old : List (BT Ent n)} {H : Lg} {k : Nat} (hk : k < (old.map BT.page ++ H.free).length) : kidAt (atsOf old) H k = (((old.map BT.page ++ H.free)[k] : Nat) : Int) := by
 have hl : (atsOf old).length = old.length := by unfold atsOf; rw [List.length_map]
 rw [List.length_append, List.length_map] at hk
 unfold kidAt
 rw [hl]
 by_cases h : k < old.length
 ·rw [if_pos h, List.getElem_append_left (by rw [List.length_map]; exact h)]
  unfold atsOf
  rw [List.getD_eq_getElem?_getD, List.getElem?_map, List.getElem?_eq_getElem h]
  simp
 ·rw [if_neg h, List.getElem_append_right (by rw [List.length_map]; omega), List.getD_eq_getElem?_getD, List.getElem?_eq_getElem (by omega)]
  simp
theorem layF_free {n : Nat} {lvl : Int} {old : List (BT Ent n)} {ls : List (List Ent)} {H : Lg} : (layF lvl (atsOf old) ls H).free = BT.laidFree old H.free ls.length := by
 unfold layF BT.laidFree atsOf
 simp only [List.length_map, ← List.map_drop, List.map_map]
 congr 2
theorem laidPages_get {n : Nat} {old : List (BT Ent n)} {f : List Nat} {L k : Nat} (hk : k < L) (hL : L ≤ old.length + f.length) :
 (BT.laidPages old f L)[k]? = some ((old.map BT.page ++ f)[k]'(by rw [List.length_append, List.length_map]; omega)) := by
 unfold BT.laidPages
 rw [List.getElem?_take, if_pos hk, List.getElem?_eq_getElem]
theorem nodup_inj {α : Type} {l : List α} (h : l.Nodup) {i j : Nat} {hi : i < l.length} {hj : j < l.length} (e : l[i] = l[j]) : i = j := by
 have hp := List.pairwise_iff_getElem.1 h
 rcases Nat.lt_trichotomy i j with k | k | k
 ·exact (hp i j hi hj k e).elim
 ·exact k
 ·exact (hp j i hj hi k e.symm).elim
/-- Each laid node is on its page; all other pages are what they were. -/
theorem layF_page {n : Nat} {old : List (BT Ent n)} {ls : List (List (BT.Item Ent n))} {H : Lg} (hn : (H.free ++ old.map BT.page).Nodup) (hL : ls.length ≤ old.length + H.free.length) :
 (∀ t ∈ BT.laid old H.free ls, (layF ((n : Nat) : Int) (atsOf old) (ls.map (List.map ient)) H).page t.page = page (enc ((n : Nat) : Int) (ents t)) ∧ t.page ∈ old.map BT.page ++ H.free ∧ t.page ∉ BT.laidFree old H.free ls.length ∧ ∃ l ∈ ls, t.items = l) ∧
 ∀ q, q ∉ old.map BT.page ++ H.free → (layF ((n : Nat) : Int) (atsOf old) (ls.map (List.map ient)) H).page q = H.page q := by
 have hn' : (old.map BT.page ++ H.free).Nodup := List.perm_append_comm.nodup hn
 have hlen : (old.map BT.page ++ H.free).length = old.length + H.free.length := by rw [List.length_append, List.length_map]
 have hk : ∀ j, j < ls.length → (kidAt (atsOf old) H j).toNat = (old.map BT.page ++ H.free)[j]! := fun j hj => by
  rw [kidAt_eq (by rw [hlen]; omega), getElem!_pos _ _ (by rw [hlen]; omega)]; simp
 have hget : ∀ j (hj : j < ls.length), (old.map BT.page ++ H.free)[j]! = (old.map BT.page ++ H.free)[j]'(by rw [hlen]; omega) := fun j hj => getElem!_pos _ _ (by rw [hlen]; omega)
 have hL' : (ls.map (List.map ient)).length = ls.length := List.length_map ..
 constructor
 ·intro t ht
  obtain ⟨j, hj, rfl⟩ := List.mem_iff_getElem.1 ht
  have hlp : (BT.laidPages old H.free ls.length).length = ls.length := by unfold BT.laidPages; rw [List.length_take, hlen]; omega
  have hj' : j < ls.length := by
   unfold BT.laid at hj
   rw [List.length_zipWith, hlp] at hj; omega
  have e : (BT.laid old H.free ls)[j] = BT.mk ((old.map BT.page ++ H.free)[j]'(by rw [hlen]; omega)) ls[j] := by
   have hg := laidPages_get (old := old) (f := H.free) hj' hL
   rw [List.getElem?_eq_getElem (by rw [hlp]; exact hj')] at hg
   have hg' := Option.some.inj hg
   have hz : ∀ (l : List (BT Ent n)) (hj : j < l.length), l = List.zipWith BT.mk (BT.laidPages old H.free ls.length) ls → l[j] = BT.mk ((old.map BT.page ++ H.free)[j]'(by rw [hlen]; omega)) ls[j] := by
    rintro l hj rfl
    rw [List.getElem_zipWith, hg']
   exact hz _ hj rfl
  rw [e, BT.page_mk]
  refine ⟨?_, List.getElem_mem _, ?_, ls[j], List.getElem_mem _, BT.items_mk _ _⟩
  ·show layPage _ _ _ _ _ _ = _
   rw [hL', ← hget j hj', ← hk j hj', layPage_at _ hj']
   ·unfold ents
    rw [BT.items_mk, List.getD_eq_getElem?_getD, List.getElem?_map, List.getElem?_eq_getElem hj']; rfl
   ·intro i hi hne
    rw [hk i hi, hk j hj', hget i hi, hget j hj']
    intro e'
    exact hne (nodup_inj hn' e')
  ·intro hm
   have hd : (old.map BT.page ++ H.free)[j]'(by rw [hlen]; omega) ∈ (old.map BT.page ++ H.free).drop ls.length := by
    unfold BT.laidFree at hm
    rw [List.drop_append, List.length_map]
    rcases List.mem_append.1 hm with h | h
    ·exact List.mem_append_left _ (List.mem_reverse.1 h)
    ·exact List.mem_append_right _ h
   obtain ⟨i, hi, he⟩ := List.mem_iff_getElem.1 hd
   rw [List.getElem_drop] at he
   have := nodup_inj hn' he
   omega
 ·intro q hq
  show layPage _ _ _ _ _ _ = _
  rw [hL']
  refine layPage_other _ (fun j hj e => hq ?_)
  rw [hk j hj, hget j hj] at e
  rw [← e]
  exact List.getElem_mem _
end Go.Proofs.YtbpdapcmaioeiaaGreat
namespace Go.Proofs.YtbpdapcmaioeiaaGreat
open Go.RowKit Go.Maps
set_option maxRecDepth 100000
set_option linter.unusedVariables false
/-- The pages with d of the spare ones given back. -/
def layD (lvl : Int) (ats : List Int) (ls : List (List Ent)) (H : Lg) (d : Nat) : Lg := { H with free := (((ats.drop ls.length).take d).map Int.toNat).reverse ++ H.free, page := layPage lvl ats ls H ls.length }
section
variable {lvl : Int} {ats : List Int} {ls : List (List Ent)} {H : Lg} {d N : Nat}
theorem layF_ge (h : ats.length ≤ ls.length) : layF lvl ats ls H = layH lvl ats ls H ls.length := by
 unfold layF layH
 rw [List.drop_eq_nil_of_le h]
 rfl
theorem layF_lt (h : d = ats.length - ls.length) (hl : ls.length ≤ ats.length) : layF lvl ats ls H = layD lvl ats ls H d := by
 unfold layF layD
 rw [List.take_of_length_le (by rw [List.length_drop]; omega), show ls.length - ats.length = 0 by omega, List.drop_zero]
theorem layD_zero (h : ls.length ≤ ats.length) : layD lvl ats ls H 0 = layH lvl ats ls H ls.length := by
 unfold layD layH
 rw [show ls.length - ats.length = 0 by omega]
 rfl
theorem layD_succ (h : ls.length + d < ats.length) : layD lvl ats ls H (d + 1) = { layD lvl ats ls H d with free := (ats[ls.length + d]).toNat :: (layD lvl ats ls H d).free } := by
 unfold layD
 have hd : d < (ats.drop ls.length).length := by rw [List.length_drop]; omega
 rw [List.take_succ_eq_append_getElem hd]
 simp [List.getElem_drop]
theorem layD_used (hn : ats.Nodup) (hu : ∀ a ∈ ats, lgUsed N H a) (h : ls.length + d < ats.length) : lgUsed N (layD lvl ats ls H d) ats[ls.length + d] := by
 have h1 := hu _ (List.getElem_mem h)
 refine ⟨h1.1, h1.2.1, fun hm => ?_⟩
 rcases List.mem_append.1 hm with hm | hm
 ·rw [List.mem_reverse, List.mem_map] at hm
  obtain ⟨a, ha, he⟩ := hm
  have ha' : a ∈ ats := List.mem_of_mem_drop (List.mem_of_mem_take ha)
  have h2 := (hu a ha').1
  have e : a = ats[ls.length + d] := by have := h1.1; omega
  obtain ⟨i, hi, hie⟩ := List.mem_iff_getElem.1 ha
  rw [List.getElem_take, List.getElem_drop] at hie
  rw [List.length_take, List.length_drop] at hi
  rw [e] at hie
  have := nodup_inj hn hie
  omega
 ·exact h1.2.2 hm
end
set_option maxHeartbeats 4000000 in
theorem lay_all {w0 w : World} {X : Nat → Prop} {r p N M c : Nat} {G H : Lg} (h : Pb w0 w X r p N M c G (some H)) (v : Value) (ns : List Nd') (S : Nat → Prop) (hv : Nds w S v ns) (hS : ∀ q, S q → q < w0.heap.size ∨ X q) (h0 : 0 < ns.length) (hn : ns.length ≤ 10) (hne : (allEs ns).length ≤ 9000) (hok : ∀ e ∈ allEs ns, EntOk e)
 (lvl : Int) (hlvl : ns[0].lvl = lvl) (ats : List Int) (hats : ats = ns.map (·.at')) (hus : ∀ a ∈ ats, lgUsed N H a) (hwf : ∀ a ∈ ats, (Lit.int .i64 a).wf = true)
 (hfit : ∀ ls, EvenOf lvl (allEs ns) ls → ls.length ≤ ats.length + H.free.length ∧ ∀ l ∈ ls, PartOk lvl l) (hnd : ats.Nodup) (hc : c + 100000 < 500000) :
 Calls Tryz.prog 118 #[.pointer (some ⟨p, 0, none⟩), v] w fun e w' => ∃ (v' : Value) (ls : List (List Ent)) (F : Nat → Prop) (c' : Nat), EvenOf lvl (allEs ns) ls ∧ e = .returned (.tuple #[v', .int .i64 0]) ∧ c' ≤ c + 2 * ls.length + ns.length ∧
  (∀ k, F k → w.heap.size ≤ k ∧ k < w'.heap.size) ∧ Pb w0 w' (fun k => X k ∨ F k) r p N M c' G (some (layF lvl ats ls H)) ∧ Mx w0 X w w' ∧ Owe w' w.heap.size v' ((kidsOf ats H ls.length).map kidE) ∧ ∀ q, v'.ownBlock = some q → F q := by
 have hev := even_any S v ns w.drew (show Nds w.drew S v ns from hv) h0 hn (by omega) hok lvl hlvl
 obtain ⟨ao, cap, rfl, hc1, hc2, hE⟩ := id hv
 obtain ⟨b, off, rfl, hbw, hSb, u0, e0, e1, e2, -, -⟩ := hE 0 h0
 rw [hlvl, Nat.zero_mul, Nat.add_zero] at e1
 obtain ⟨n, hn'⟩ : ∃ n, n = ns.length := ⟨_, rfl⟩
 have HN := Lib.hid hn'
 have HV := Lib.hid hv
 have HP := Lib.hid h
 have HEV := Lib.hid hev
 have HFIT := Lib.hid hfit
 have HATS := Lib.hid hats
 have HUS := Lib.hid hus
 have HWF := Lib.hid hwf
 have HND := Lib.hid hnd
 have HNE := Lib.hid hne
 have HS := Lib.hid hS
 have HBW := Lib.hid hbw
 have E1 := Lib.hid e1
 rw [← hn'] at hc1 h0 hn HV HEV ⊢
 have i1 : (0 : Int) < n := by omega
 clear h hv hev hfit hats hus hwf hnd hS hn' hE e0 e2 hok hne hbw e1
 go_enter Tryz.func118, Tryz.ntmps118
 go_wp2_with fail
 go_step3
 go_wp2_with fail
 refine wp_region_any (by kernel_rfl) ?_
 change wpAny _ _ _ _ _ _ _ (World.drew _)
 refine wpAny_of_held (S := fun (w' : World) => w'.cell? ⟨b, off + 1, none⟩ = some (.int .i64 lvl)) _ _ _ _ ?_
 have hS : (fun (w' : World) => w'.cell? ⟨b, off + 1, none⟩ = some (.int .i64 lvl)) _ := E1.out
 try simp only [Act.put, List.setIfInBounds_toArray, List.set_cons_zero, List.set_cons_succ]
 refine wpAnyH_take (i := 0) (oi := ⟨some 15, _, _, _, _, _⟩) (v := ?_) rfl (by kernel_rfl) (by kernel_rfl) (by kernel_rfl) (fun _ _ _ h => h) (Or.inl ⟨by simp only [Region.wanted], ?_⟩) hS ?_
 rotate_left
 ·intro wz hSw
  clear hSw
  go_simp
  first | done | with_reducible rfl
 try simp only [Act.put, List.setIfInBounds_toArray, List.set_cons_zero, List.set_cons_succ]
 refine wpAnyH_take (i := 1) (oi := ⟨some 16, _, _, _, _, _⟩) (v := ?_) rfl (by kernel_rfl) (by kernel_rfl) (by kernel_rfl) (fun _ _ _ h => h) (Or.inl ⟨by simp only [Region.wanted], ?_⟩) hS ?_
 rotate_left
 ·intro wz hSw
  clear hSw
  go_simp
  first | done | with_reducible rfl
 try simp only [Act.put, List.setIfInBounds_toArray, List.set_cons_zero, List.set_cons_succ]
 refine wpAnyH_take (i := 2) (oi := ⟨some 17, _, _, _, _, _⟩) (v := ?_) rfl (by kernel_rfl) (by kernel_rfl) (by kernel_rfl) (fun _ _ _ h => h) (Or.inl ⟨by simp only [Region.wanted], ?_⟩) hS ?_
 rotate_left
 ·intro wz hSw
  clear hSw
  go_simp
  first | done | with_reducible rfl
 try simp only [Act.put, List.setIfInBounds_toArray, List.set_cons_zero, List.set_cons_succ]
 refine wpAnyH_take (i := 3) (oi := ⟨some 18, _, _, _, _, _⟩) (v := ?_) rfl (by kernel_rfl) (by kernel_rfl) (by kernel_rfl) (fun _ _ _ h => h) (Or.inl ⟨by simp only [Region.wanted], ?_⟩) hS ?_
 rotate_left
 ·intro wz hSw
  (try dsimp only at hSw)
  (try go_split_ands)
  go_simp
  first | done | with_reducible rfl
 try simp only [Act.put, List.setIfInBounds_toArray, List.set_cons_zero, List.set_cons_succ]
 refine wpAnyH_take (i := 4) (oi := ⟨some 19, _, _, _, _, _⟩) (v := ?_) rfl (by kernel_rfl) (by kernel_rfl) (by kernel_rfl) (fun _ _ _ h => h) (Or.inl ⟨by simp only [Region.wanted], ?_⟩) hS ?_
 rotate_left
 ·intro wz hSw
  clear hSw
  go_simp
  first | done | with_reducible rfl
 try simp only [Act.put, List.setIfInBounds_toArray, List.set_cons_zero, List.set_cons_succ]
 refine wpAnyH_ready (rs := [5]) (by kernel_rfl) (by simp) ?_
 refine AllReadyH.cons (o := ⟨some 20, _, _, _, _, _⟩) rfl (fun K hK => ?_) AllReadyH.nil
 go_simp
 refine (HEV.out).mono ?_
 rintro en w1 ⟨v1, ls, rfl, hls, ho1, hb1⟩
 obtain ⟨ao1, cap1, rfl, k1, k2⟩ := ho1.form
 obtain ⟨nl, hnl⟩ : ∃ nl, nl = ls.length := ⟨_, rfl⟩
 rw [← hnl] at k1 ho1 ⊢
 have HO1 := Lib.hid ho1
 have HB1 := Lib.hid hb1
 have HLS := Lib.hid hls
 have HNL := Lib.hid hnl
 clear ho1 hb1 hls hnl
 refine hK.out _ _ ((HB1.out.cell (show (⟨b, off + 1, none⟩ : Addr).block < _ from HBW.out)).trans E1.out) (fun hS => ?_)
 clear hK K
 try simp only [Act.put, List.setIfInBounds_toArray, List.set_cons_zero, List.set_cons_succ]
 refine wpAnyH_take (i := 6) (oi := ⟨some 8, _, _, _, _, _⟩) (v := ?_) rfl (by kernel_rfl) (by kernel_rfl) (by kernel_rfl) (fun _ _ _ h => h) (Or.inl ⟨by simp only [Region.wanted], ?_⟩) hS ?_
 rotate_left
 ·intro wz hSw
  clear hSw
  go_simp
  first | done | with_reducible rfl
 try simp only [Act.put, List.setIfInBounds_toArray, List.set_cons_zero, List.set_cons_succ]
 refine wpAnyH_take (i := 7) (oi := ⟨some 9, _, _, _, _, _⟩) (v := ?_) rfl (by kernel_rfl) (by kernel_rfl) (by kernel_rfl) (fun _ _ _ h => h) (Or.inl ⟨by simp only [Region.wanted], ?_⟩) hS ?_
 rotate_left
 ·intro wz hSw
  clear hSw
  go_simp
  first | done | with_reducible rfl
 try simp only [Act.put, List.setIfInBounds_toArray, List.set_cons_zero, List.set_cons_succ]
 refine wpAnyH_done (by kernel_rfl) ?_ _
 clear hS
 have HBW1 := Lib.hid ((Below.refl w.heap.size w).drew.trans HB1.out)
 have HROW := Lib.hid (show Owr w1 w.heap.size (fun q => w.heap.size ≤ q ∧ q < w1.heap.size) (.slice ao1 nl cap1) ls from HO1.out)
 have HP1 := Lib.hid (HP.out.take HBW1.out)
 have hfit := HFIT.out ls HLS.out
 have HNF := Lib.hid hfit.1
 have HPO := Lib.hid hfit.2
 have hnl1 : nl ≤ 100000 / 4 := by
  rw [HNL.out]
  obtain ⟨m, -, e, -⟩ := HLS.out
  rw [e]
  have := (partedOf_len lvl m (allEs ns)).1
  have := HNE.out
  omega
 have HAN := Lib.hid (show ats.length = n by rw [HATS.out, List.length_map, ← HN.out])
 have HX1 := Lib.hid (show ∀ q, S q → q < w0.heap.size ∨ (fun k => X k ∨ (w.heap.size ≤ k ∧ k < w1.heap.size)) q from fun q hq => (HS.out q hq).imp id .inl)
 obtain ⟨X1, hX1⟩ : ∃ X1 : Nat → Prop, X1 = fun k => X k ∨ (w.heap.size ≤ k ∧ k < w1.heap.size) := ⟨_, rfl⟩
 rw [← hX1] at HP1 HX1
 have HXE := Lib.hid hX1
 clear hfit hX1 HO1 HB1
 go_wp2_with fail
 go_loopw [6, 7, 10, 11, 12, 23] (fun v6 v7 _ _ _ i wr => ∃ (k : Nat) (a6 : Option Addr) (c6 : Nat) (F : Nat → Prop), k ≤ nl ∧ i = .int .i64 k ∧ v7 = .int .i64 0 ∧ v6 = .slice a6 k c6 ∧ k ≤ c6 ∧ c6 ≤ 9223372036854775807 ∧ (∀ j, F j → w1.heap.size ≤ j ∧ j < wr.heap.size) ∧ Pb w0 wr (fun j => X1 j ∨ F j) r p N M (c + 2 * k) G (some (layH lvl ats ls H k)) ∧
  Mx w0 X1 w1 wr ∧ Owe wr w1.heap.size v6 ((kidsOf ats H k).map kidE) ∧ ∀ q, v6.ownBlock = some q → F q) (fun _ _ _ _ _ i _ => nl - (intOf i).toNat)
 case atStart => exact ⟨0, none, 0, fun _ => False, Nat.zero_le _, rfl, rfl, rfl, Nat.le_refl _, by decide, fun j hj => hj.elim, by rw [layH_zero]; exact HP1.out.less (fun k hk => hk.elim id (fun h => h.elim)), Mx.refl _ _ _, Owe.nil _ _, fun q hq => by cases hq⟩
 case round =>
  obtain ⟨k, a6, c6, F, hk, rfl, rfl, rfl, hk1, hk2, hF, hpb, hmx, hkd, hkF⟩ := hrel
  have HF := Lib.hid hF
  have HPB := Lib.hid hpb
  have HMX := Lib.hid hmx
  have HKD := Lib.hid hkd
  have HKF := Lib.hid hkF
  have hw0 := hpb.below.size
  clear hF hpb hmx hkd hkF
  by_cases hlt : k < nl
  ·have hkl : k < ls.length := by rw [← HNL.out]; exact hlt
   have hpm : ∀ q, (w.heap.size ≤ q ∧ q < w1.heap.size) → ¬ (w0.heap.size ≤ q ∧ ¬ X1 q) := fun q hq h => h.2 (by rw [HXE.out]; exact .inr hq)
   have hro := HROW.out.moved HMX.out (fun q hq => hpm q (HROW.out.lt q hq)) hpm
   obtain ⟨g1, cp, u, hsl, -, hg1, cu, hu, hub⟩ := hro.at k hkl
   rw [← HNL.out] at hsl
   simp only [Value.slice.injEq, true_and] at hsl
   obtain ⟨rfl, rfl⟩ := hsl
   obtain ⟨l, hl⟩ : ∃ l, l = ls[k] := ⟨_, rfl⟩
   have hlg : ls.getD k [] = l := by rw [List.getD_eq_getElem?_getD, List.getElem?_eq_getElem hkl, hl]; rfl
   have hpo := HPO.out l (by rw [hl]; exact List.getElem_mem _)
   rw [← hl] at hu
   obtain ⟨uo, uc, rfl, -⟩ := hu.form
   obtain ⟨lq, hlq⟩ : ∃ lq, lq = l.length := ⟨_, rfl⟩
   rw [← hlq] at cu hu hub
   have huv : 0 < l.length → ∀ g, (Value.slice uo lq uc).ownBlock = some g → g < w0.heap.size ∨ (fun j => X1 j ∨ F j) g := fun _ g hg => .inr (.inl (by rw [HXE.out]; exact .inr (hub g hg)))
   have HU := Lib.hid hu
   have HUV := Lib.hid huv
   have HPO1 := Lib.hid hpo
   have HLG := Lib.hid hlg
   have hlt' : (k : Int) < nl := by omega
   by_cases hkn : k < n
   ·have hkn' : (k : Int) < n := by omega
    have hkns : k < ns.length := by rw [← HN.out]; exact hkn
    have hka : k < ats.length := by rw [HAN.out]; exact hkn
    have hnv := (HV.out.below HBW1.out).moved HMX.out (fun q hq h => by rcases HX1.out q hq with e | e; omega; exact h.2 e)
    obtain ⟨ao', cap', hsl, -, -, hE⟩ := hnv
    rw [← HN.out] at hsl
    simp only [Value.slice.injEq, true_and] at hsl
    obtain ⟨rfl, rfl⟩ := hsl
    obtain ⟨b', off', hbe, -, -, uu, e0, -⟩ := hE k hkns
    simp only [Option.some.injEq, Addr.mk.injEq, and_true] at hbe
    obtain ⟨rfl, rfl⟩ := hbe
    have hak : ns[k].at' = ats.getD k 0 := by rw [HATS.out, List.getD_eq_getElem?_getD, List.getElem?_map, List.getElem?_eq_getElem hkns]; rfl
    obtain ⟨ak, hak'⟩ : ∃ ak, ak = ats.getD k 0 := ⟨_, rfl⟩
    rw [hak, ← hak'] at e0
    have hmem : ak ∈ ats := by rw [hak', List.getD_eq_getElem?_getD, List.getElem?_eq_getElem hka]; exact List.getElem_mem _
    have hkid : kidAt ats H k = ak := by unfold kidAt; rw [if_pos hka, hak']
    have hw := bt_write HPB.out (by omega) ak lvl (HWF.out ak hmem) _ l HU.out HUV.out HPO1.out.ok HPO1.out.pre HPO1.out.few
    rw [lgPut_some, if_pos (layH_used (HUS.out ak hmem)), if_neg (by have := HPO1.out.size; omega)] at hw
    have hnx : layH lvl ats ls H (k + 1) = { layH lvl ats ls H k with page := upd (layH lvl ats ls H k).page ak.toNat (page (enc lvl l)) } := by rw [layH_put hka, hkid, HLG.out]
    have HW := Lib.hid hw
    have HNX := Lib.hid hnx
    have HKID := Lib.hid hkid
    clear hE hak hak' hmem hkid hw hnx hpm hro hl hlg hpo hu huv hlq hub
    go_wp2_with fail
    refine HW.out.mono ?_
    rintro en w2 ⟨rfl, h9, hm9⟩
    have H9 := Lib.hid h9
    have HM9 := Lib.hid hm9
    clear h9 hm9 HW
    have HKD9 := Lib.hid (HKD.out.moved HM9.out (fun q hq e => e.2 (.inr (HKF.out q hq))))
    have hal : Below w2.heap.size w2 (w2.alloc (.cells #[.string ⟨#[]⟩, .string ⟨#[]⟩, .int .i64 ak] 121)) := (Below.refl _ w2).alloc (Nat.le_refl _) _
    have HBK := Lib.hid (show Blk _ w2.heap.size #[.string (kidE ak).key, .string (kidE ak).val, .int .i64 (kidE ak).kid] _ from Blk.new w2 #[.string ⟨#[]⟩, .string ⟨#[]⟩, .int .i64 ak] 121)
    have HKD10 := Lib.hid (HKD9.out.below hal)
    have HAL := Lib.hid hal
    have hs12 : w1.heap.size ≤ w2.heap.size := Nat.le_trans HMX.out.size HM9.out.size
    have HS12 := Lib.hid (Nat.le_trans hs12 hal.size)
    have HKL := Lib.hid (show k + 1 = ((kidsOf ats H k).map kidE).length + 1 by rw [kidsOf_len])
    have HKB := Lib.hid (show k + 1 ≤ 1000000 by omega)
    have HS2 := Lib.hid hs12
    clear hal hs12
    go_wp2_with (at_builtin; refine wpList_append_ent rfl _ _ rfl w1.heap.size HS12.out (.slice a6 k c6) ((kidsOf ats H k).map kidE) rfl HKD10.out w2.heap.size rfl (kidE ak) HBK.out (k + 1) HKL.out HKB.out ?_; intro ao5 cap5 w5 ho5 hx5 hy5 hg5 hq5)
    have HO5 := Lib.hid ho5
    have HG5 := Lib.hid hg5
    have HQ5 := Lib.hid hq5
    clear ho5 hg5 hq5
    go_roundw
    case rel =>
     have hsz5 : w2.heap.size ≤ w5.heap.size := Nat.le_trans HAL.out.size HG5.out.size
     have hb1 := HP1.out.below.size
     refine ⟨k + 1, _, _, fun j => F j ∨ (w2.heap.size ≤ j ∧ j < w5.heap.size), by omega, by go_num, rfl, rfl, hx5, hy5, fun j hj => ?_, ?_, ?_, ?_, fun q hq => ?_⟩
     ·rcases hj with hj | hj
      ·have h1 := HF.out j hj
       have h2 := HM9.out.size
       exact ⟨h1.1, by omega⟩
      ·exact ⟨Nat.le_trans HS2.out hj.1, hj.2⟩
     ·rw [HNX.out]
      refine ((H9.out.take HAL.out).grown HG5.out (fun q hq => ⟨.inl (.inr (HKF.out q hq)), ?_⟩) (fun j hj => ?_)).more _ (by omega)
      ·have := (HF.out q (HKF.out q hq)).1
       omega
      ·rcases hj with hj | hj | hj
       ·exact .inl (.inl (.inl hj))
       ·exact .inl (.inl (.inr hj))
       ·by_cases hlt3 : j < (w2.alloc (.cells #[.string ⟨#[]⟩, .string ⟨#[]⟩, .int .i64 ak] 121)).heap.size
        ·exact .inl (.inr ⟨hj.1, hlt3⟩)
        ·exact .inr ⟨by omega, hj.2⟩
     ·exact Moved.grown ((HMX.out.trans (HM9.out.mono (fun j hj => ⟨hj.1, fun e => hj.2 (.inl e)⟩))).trans (Mx.of HAL.out)) HG5.out (fun q hq => .inr (HF.out q (HKF.out q hq)).1)
     ·rw [kidsOf_succ, HKID.out]
      exact HO5.out
     ·rcases HQ5.out q hq with e | e
      ·exact .inl (HKF.out q e)
      ·refine .inr ⟨Nat.le_trans HAL.out.size e, ?_⟩
       exact (HO5.out.lt q hq).2
    case measure => simp [intOf]; omega
   ·have hle : ¬ (k : Int) < n := by omega
    obtain ⟨a, rest, hf, hkid, hnx⟩ := layH_new (lvl := lvl) (ats := ats) (ls := ls) (H := H) (k := k) (by rw [HAN.out]; omega) (by have := HNF.out; have := HAN.out; omega)
    rw [hlg] at hnx
    have hw := bt_add HPB.out (by omega) hf lvl _ l HU.out HUV.out HPO1.out.ok HPO1.out.pre HPO1.out.few HPO1.out.size
    have HW := Lib.hid hw
    have HNX := Lib.hid hnx
    have HKID := Lib.hid hkid
    clear hf hkid hw hnx hpm hro hl hlg hpo hu huv hlq hub
    go_wp2_with fail
    refine HW.out.mono ?_
    rintro en w2 ⟨rfl, h9, hm9⟩
    have H9 := Lib.hid h9
    have HM9 := Lib.hid hm9
    clear h9 hm9 HW
    have HKD9 := Lib.hid (HKD.out.moved HM9.out (fun q hq e => e.2 (.inr (HKF.out q hq))))
    have hal : Below w2.heap.size w2 (w2.alloc (.cells #[.string ⟨#[]⟩, .string ⟨#[]⟩, .int .i64 (a : Int)] 121)) := (Below.refl _ w2).alloc (Nat.le_refl _) _
    have HBK := Lib.hid (show Blk _ w2.heap.size #[.string (kidE (a : Int)).key, .string (kidE (a : Int)).val, .int .i64 (kidE (a : Int)).kid] _ from Blk.new w2 #[.string ⟨#[]⟩, .string ⟨#[]⟩, .int .i64 (a : Int)] 121)
    have HKD10 := Lib.hid (HKD9.out.below hal)
    have HAL := Lib.hid hal
    have hs12 : w1.heap.size ≤ w2.heap.size := Nat.le_trans HMX.out.size HM9.out.size
    have HS12 := Lib.hid (Nat.le_trans hs12 hal.size)
    have HKL := Lib.hid (show k + 1 = ((kidsOf ats H k).map kidE).length + 1 by rw [kidsOf_len])
    have HKB := Lib.hid (show k + 1 ≤ 1000000 by omega)
    have HS2 := Lib.hid hs12
    clear hal hs12
    go_wp2_with (at_builtin; refine wpList_append_ent rfl _ _ rfl w1.heap.size HS12.out (.slice a6 k c6) ((kidsOf ats H k).map kidE) rfl HKD10.out w2.heap.size rfl (kidE (a : Int)) HBK.out (k + 1) HKL.out HKB.out ?_; intro ao5 cap5 w5 ho5 hx5 hy5 hg5 hq5)
    have HO5 := Lib.hid ho5
    have HG5 := Lib.hid hg5
    have HQ5 := Lib.hid hq5
    clear ho5 hg5 hq5
    go_roundw
    case rel =>
     have hsz5 : w2.heap.size ≤ w5.heap.size := Nat.le_trans HAL.out.size HG5.out.size
     have hb1 := HP1.out.below.size
     refine ⟨k + 1, _, _, fun j => F j ∨ (w2.heap.size ≤ j ∧ j < w5.heap.size), by omega, by go_num, rfl, rfl, hx5, hy5, fun j hj => ?_, ?_, ?_, ?_, fun q hq => ?_⟩
     ·rcases hj with hj | hj
      ·have h1 := HF.out j hj
       have h2 := HM9.out.size
       exact ⟨h1.1, by omega⟩
      ·exact ⟨Nat.le_trans HS2.out hj.1, hj.2⟩
     ·rw [HNX.out]
      refine ((H9.out.take HAL.out).grown HG5.out (fun q hq => ⟨.inl (.inr (HKF.out q hq)), ?_⟩) (fun j hj => ?_)).more _ (by omega)
      ·have := (HF.out q (HKF.out q hq)).1
       omega
      ·rcases hj with hj | hj | hj
       ·exact .inl (.inl (.inl hj))
       ·exact .inl (.inl (.inr hj))
       ·by_cases hlt3 : j < (w2.alloc (.cells #[.string ⟨#[]⟩, .string ⟨#[]⟩, .int .i64 (a : Int)] 121)).heap.size
        ·exact .inl (.inr ⟨hj.1, hlt3⟩)
        ·exact .inr ⟨by omega, hj.2⟩
     ·exact Moved.grown ((HMX.out.trans (HM9.out.mono (fun j hj => ⟨hj.1, fun e => hj.2 (.inl e)⟩))).trans (Mx.of HAL.out)) HG5.out (fun q hq => .inr (HF.out q (HKF.out q hq)).1)
     ·rw [kidsOf_succ, HKID.out]
      exact HO5.out
     ·rcases HQ5.out q hq with e | e
      ·exact .inl (HKF.out q e)
      ·refine .inr ⟨Nat.le_trans HAL.out.size e, ?_⟩
       exact (HO5.out.lt q hq).2
    case measure => simp [intOf]; omega
  ·obtain rfl : nl = k := by omega
   have hb1 := HBW1.out.size
   by_cases hnn : n ≤ nl
   ·have hnn' : (n : Int) ≤ nl := by omega
    have hfe : layF lvl ats ls H = layH lvl ats ls H ls.length := layF_ge (by rw [HAN.out, ← HNL.out]; exact hnn)
    have HFE := Lib.hid hfe
    clear hfe
    by_cases heq : nl = n
    ·subst heq
     go_wp2_with fail
     all_goals
      refine wp_loop_rounds 1 ?_
      rw [rounds_succ]
      go_wp2_with fail
      rw [Exit.noGoto_ret]
      go_ret2
      refine ⟨.slice a6 nl c6, ls, fun j => (w.heap.size ≤ j ∧ j < w1.heap.size) ∨ F j, c + 2 * nl, HLS.out, rfl, by have := HNL.out; have := HN.out; omega, fun j hj => ?_, ?_, ?_, ?_, fun q hq => .inr (HKF.out q hq)⟩
      ·rcases hj with hj | hj
       ·have := HMX.out.size
        exact ⟨hj.1, by omega⟩
       ·have := HF.out j hj
        exact ⟨by omega, this.2⟩
      ·have hpb := HPB.out
       rw [HXE.out, HNL.out, ← HFE.out] at hpb
       rw [HNL.out]
       exact hpb.less (fun j hj => by rcases hj with hj | hj | hj; exact .inl (.inl hj); exact .inl (.inr hj); exact .inr hj)
      ·have hm := HMX.out
       rw [HXE.out] at hm
       exact (Mx.of HBW1.out).trans (hm.mono (fun j hj => ⟨hj.1, fun e => hj.2 (.inl e)⟩))
      ·rw [← HNL.out]
       exact HKD.out.mono hb1
    ·have hlt2 : (n : Int) < nl := by omega
     go_wp2_with fail
     all_goals
      refine wp_loop_rounds 1 ?_
      rw [rounds_succ]
      go_wp2_with fail
      rw [Exit.noGoto_ret]
      go_ret2
      refine ⟨.slice a6 nl c6, ls, fun j => (w.heap.size ≤ j ∧ j < w1.heap.size) ∨ F j, c + 2 * nl, HLS.out, rfl, by have := HNL.out; have := HN.out; omega, fun j hj => ?_, ?_, ?_, ?_, fun q hq => .inr (HKF.out q hq)⟩
      ·rcases hj with hj | hj
       ·have := HMX.out.size
        exact ⟨hj.1, by omega⟩
       ·have := HF.out j hj
        exact ⟨by omega, this.2⟩
      ·have hpb := HPB.out
       rw [HXE.out, HNL.out, ← HFE.out] at hpb
       rw [HNL.out]
       exact hpb.less (fun j hj => by rcases hj with hj | hj | hj; exact .inl (.inl hj); exact .inl (.inr hj); exact .inr hj)
      ·have hm := HMX.out
       rw [HXE.out] at hm
       exact (Mx.of HBW1.out).trans (hm.mono (fun j hj => ⟨hj.1, fun e => hj.2 (.inl e)⟩))
      ·rw [← HNL.out]
       exact HKD.out.mono hb1
   ·have hgt : nl < n := by omega
    have hgt' : (nl : Int) < n := by omega
    have hcn : ¬ cap = nl := by omega
    have hcn' : (n : Int) ≤ cap := by omega
    have hcn2 : (nl : Int) ≤ cap := by omega
    obtain ⟨dn, hdn⟩ : ∃ dn, dn = n - nl := ⟨_, rfl⟩
    have HDN := Lib.hid hdn
    have hdi : (n : Int) - nl = dn := by omega
    have HLY := Lib.hid (show layH lvl ats ls H nl = layD lvl ats ls H 0 by rw [HNL.out]; exact (layD_zero (by rw [HAN.out, ← HNL.out]; omega)).symm)
    obtain ⟨wo, rfl⟩ : ∃ wo, wo = wr := ⟨_, rfl⟩
    go_wp2_with fail
    go_loopw [7, 14, 65] (fun v7 _ i wr => ∃ d : Nat, d ≤ dn ∧ i = .int .i64 d ∧ v7 = .int .i64 0 ∧ Pb w0 wr (fun j => X1 j ∨ F j) r p N M (c + 2 * nl + d) G (some (layD lvl ats ls H d)) ∧ Mx w0 (fun j => X1 j ∨ F j) wo wr) (fun _ _ i _ => dn - (intOf i).toNat)
    case atStart => exact ⟨0, Nat.zero_le _, rfl, rfl, by rw [← HLY.out]; exact HPB.out, Mx.refl _ _ _⟩
    case round =>
     obtain ⟨d, hd, rfl, rfl, hpd, hmd⟩ := hrel
     have HPD := Lib.hid hpd
     have HMD := Lib.hid hmd
     clear hpd hmd
     by_cases hdl : d < dn
     ·have hdl' : (d : Int) < dn := by omega
      have hkns : nl + d < ns.length := by rw [← HN.out, ]; have := HDN.out; omega
      have hka : nl + d < ats.length := by rw [HAN.out, HN.out]; exact hkns
      have hnv := ((HV.out.below HBW1.out).moved HMX.out (fun q hq h => by rcases HX1.out q hq with e | e; omega; exact h.2 e)).moved HMD.out (fun q hq h => by rcases HX1.out q hq with e | e; omega; exact h.2 (.inl e))
      obtain ⟨ao', cap', hsl, -, -, hE⟩ := hnv
      rw [← HN.out] at hsl
      simp only [Value.slice.injEq, true_and] at hsl
      obtain ⟨rfl, rfl⟩ := hsl
      obtain ⟨b', off', hbe, -, -, uu, e0, e1, e2, hue, -⟩ := hE (nl + d) hkns
      simp only [Option.some.injEq, Addr.mk.injEq, and_true] at hbe
      obtain ⟨rfl, rfl⟩ := hbe
      have hoff : off + (nl + d) * 3 = off + nl * 3 + d * 3 := by omega
      rw [hoff] at e0 e1 e2
      obtain ⟨uo, uc, huf, -⟩ := hue.form
      obtain ⟨lq, hlq⟩ : ∃ lq, lq = ns[nl + d].es.length := ⟨_, rfl⟩
      rw [← hlq] at huf
      subst huf
      have hak : ns[nl + d].at' = ats[nl + d] := by simp [HATS.out]
      obtain ⟨ak, hak'⟩ : ∃ ak, ak = ats[nl + d] := ⟨_, rfl⟩
      obtain ⟨lk, hlk⟩ : ∃ lk, lk = ns[nl + d].lvl := ⟨_, rfl⟩
      rw [hak, ← hak'] at e0
      rw [← hlk] at e1
      have hnx := layD_succ (lvl := lvl) (ls := ls) (H := H) (d := d) (ats := ats) (by rw [← HNL.out]; exact hka)
      have hus : lgUsed N (layD lvl ats ls H d) ak := by
       rw [hak']
       have h := layD_used (lvl := lvl) (ls := ls) (H := H) (d := d) (N := N) HND.out HUS.out (by rw [← HNL.out]; exact hka)
       simpa [← HNL.out] using h
      have hnx' : layD lvl ats ls H (d + 1) = { layD lvl ats ls H d with free := ak.toNat :: (layD lvl ats ls H d).free } := by
       rw [hnx, hak']
       simp [← HNL.out]
      have hpd := pb_drop ak (HPD.out.grow (((Below.refl _ wr).alloc (Nat.le_refl _) (.cells #[.int .i64 ak, .int .i64 lk, .slice uo lq uc] 140))))
      rw [lgDrop_some, if_pos hus, ← hnx'] at hpd
      have HPD2 := Lib.hid hpd
      have HMD2 := Lib.hid (HMD.out.trans (Mx.of ((Below.refl _ wr).alloc (Nat.le_refl _) (.cells #[.int .i64 ak, .int .i64 lk, .slice uo lq uc] 140))))
      clear hE hue hak hak' hlk hlq hnx hus hnx' hpd hoff
      go_wp2_with fail
      refine HPD2.out.mono ?_
      rintro en w9 ⟨rfl, h9, hm9⟩
      have H9 := Lib.hid h9
      have HM9 := Lib.hid (HMD2.out.trans hm9)
      clear h9 hm9 HPD2 HMD2
      go_wp2_with fail
      go_roundw
      case rel => exact ⟨d + 1, by omega, by go_num, rfl, H9.out, HM9.out⟩
      case measure => simp [intOf]; omega
     ·obtain rfl : dn = d := by omega
      go_wp2_with fail
      rw [Exit.noGoto_ret]
      go_ret2
      have hmd := HMD.out.size
      refine ⟨.slice a6 nl c6, ls, fun j => (w.heap.size ≤ j ∧ j < w1.heap.size) ∨ F j, c + 2 * nl + dn, HLS.out, rfl, by have := HNL.out; have := HN.out; omega, fun j hj => ?_, ?_, ?_, ?_, fun q hq => .inr (HKF.out q hq)⟩
      ·rcases hj with hj | hj
       ·have := HMX.out.size
        exact ⟨hj.1, by omega⟩
       ·have := HF.out j hj
        exact ⟨by omega, by omega⟩
      ·have hpb := HPD.out
       have hfe : layF lvl ats ls H = layD lvl ats ls H dn := layF_lt (by rw [HAN.out, ← HNL.out]; exact HDN.out) (by rw [HAN.out, ← HNL.out]; omega)
       rw [hfe]
       rw [HXE.out] at hpb
       exact hpb.less (fun j hj => by rcases hj with hj | hj | hj; exact .inl (.inl hj); exact .inl (.inr hj); exact .inr hj)
      ·have hm := HMX.out
       have hm2 := HMD.out
       rw [HXE.out] at hm hm2
       exact ((Mx.of HBW1.out).trans (hm.mono (fun j hj => ⟨hj.1, fun e => hj.2 (.inl e)⟩))).trans (hm2.mono (fun j hj => ⟨hj.1, fun e => hj.2 (.inl (.inl e))⟩))
      ·rw [← HNL.out]
       exact (HKD.out.moved HMD.out (fun q hq e => e.2 (.inr (HKF.out q hq)))).mono hb1
end Go.Proofs.YtbpdapcmaioeiaaGreat
namespace Go.Proofs.YtbpdapcmaioeiaaGreat
open Go.RowKit Go.Maps
set_option maxRecDepth 100000
set_option linter.unusedVariables false
set_option maxHeartbeats 4000000 in
/-- top, where the root has not one kid alone. -/
theorem top_lay {w0 w : World} {X : Nat → Prop} {r p N M c : Nat} {G H : Lg} (h : Pb w0 w X r p N M c G (some H)) (at' lvl : Int) (v : Value) (es : List Ent) (hes : Ens w v es) (hv : ∀ g, v.ownBlock = some g → g < w0.heap.size ∨ X g) (hn : es.length ≤ 9000) (hok : ∀ e ∈ es, EntOk e)
 (hk : lvl = 0 ∨ es.length ≠ 1) (hl0 : 0 ≤ lvl) (hl : lvl ≤ 11) (hus : lgUsed N H at') (hwf : (Lit.int .i64 at').wf = true)
 (hfit : ∀ ls, EvenOf lvl es ls → ls.length ≤ 1 + H.free.length ∧ ∀ l ∈ ls, PartOk lvl l)
 (hroot : ∀ ls, EvenOf lvl es ls → 1 < ls.length → (∃ a rest, (layF lvl [at'] ls H).free = a :: rest) ∧ PartOk (lvl + 1) ((kidsOf [at'] H ls.length).map kidE)) (hc : c + 200000 < 500000) :
 Calls Tryz.prog 115 #[.pointer (some ⟨p, 0, none⟩), nodeV at' lvl v] w fun e w' => ∃ (i : Int) (ls : List (List Ent)) (c' : Nat) (H' : Lg), EvenOf lvl es ls ∧ e = .returned (.tuple #[.int .i64 i, .int .i64 0]) ∧ c' ≤ c + 2 * ls.length + 3 ∧ Pb w0 w' X r p N M c' G (some H') ∧ Mx w0 X w w' ∧
  (ls.length = 1 ∧ i = at' ∧ H' = layF lvl [at'] ls H ∨ 1 < ls.length ∧ ∃ a rest, (layF lvl [at'] ls H).free = a :: rest ∧ i = (a : Int) ∧
   H' = { layF lvl [at'] ls H with free := rest, page := upd (layF lvl [at'] ls H).page a (page (enc (lvl + 1) ((kidsOf [at'] H ls.length).map kidE))) }) := by
 obtain ⟨ao, cap, rfl, hc1, hc2⟩ := hes.form
 obtain ⟨n, hn'⟩ : ∃ n, n = es.length := ⟨_, rfl⟩
 have hal : Below w.heap.size w (w.alloc (.cells #[.int .i64 at', .int .i64 lvl, .slice ao n cap] 140)) := (Below.refl _ w).alloc (Nat.le_refl _) _
 have hb := Blk.new w #[.int .i64 at', .int .i64 lvl, .slice ao n cap] 140
 have hsz : (w.alloc (.cells #[.int .i64 at', .int .i64 lvl, .slice ao n cap] 140)).heap.size = w.heap.size + 1 := by simp
 obtain ⟨w1, hw1⟩ : ∃ w1, w1 = w.alloc (.cells #[.int .i64 at', .int .i64 lvl, .slice ao n cap] 140) := ⟨_, rfl⟩
 rw [← hw1] at hal hb hsz
 have HN := Lib.hid hn'
 rw [← hn'] at hes hv hc1 ⊢
 have a0 : w1.cell? ⟨w.heap.size, 0, none⟩ = some (.int .i64 at') := by rw [hb.cell]; rfl
 have a1 : w1.cell? ⟨w.heap.size, 1, none⟩ = some (.int .i64 lvl) := by rw [hb.cell]; rfl
 have a2 : w1.cell? ⟨w.heap.size, 2, none⟩ = some (.slice ao n cap) := by rw [hb.cell]; rfl
 have hki := fun w => kids_any at' lvl ao n cap (by omega) w
 have hkn : (if lvl = 0 then 0 else (n : Int)) ≠ 1 := by
  rcases hk with e | e
  ·rw [if_pos e]; decide
  ·split
   ·decide
   ·omega
 obtain ⟨kq, hkq⟩ : ∃ kq : Int, kq = if lvl = 0 then 0 else (n : Int) := ⟨_, rfl⟩
 rw [← hkq] at hkn
 have HKI := Lib.hid (show ∀ w, Calls Tryz.prog 89 #[nodeV at' lvl (.slice ao n cap)] w fun e w' => e = .returned (.int .i64 kq) ∧ Below w.heap.size w w' by rw [hkq]; exact hki)
 have HES := Lib.hid (Ens.below hes hal)
 have HV := Lib.hid hv
 have HP := Lib.hid (h.take hal)
 have HPB := Lib.hid h.below.size
 have HBK := Lib.hid hb
 have HW1 := Lib.hid hw1
 have HAL := Lib.hid hal
 have HSZ := Lib.hid hsz
 have HOK := Lib.hid hok
 have HUS := Lib.hid hus
 have HFIT := Lib.hid hfit
 have HROOT := Lib.hid hroot
 have HWF := Lib.hid hwf
 have HLT := Lib.hid hb.lt
 unfold nodeV
 rw [hw1] at a0 a1 a2
 clear h hes hv hok hus hfit hroot hwf hal hb hw1 hsz hki hkq hk hn'
 go_enter Tryz.func115, Tryz.ntmps115
 go_wp2_with fail
 go_step3
 go_wp2_with fail
 refine (HKI.out _).mono ?_
 rintro en w2 ⟨rfl, hb2⟩
 rw [← HW1.out] at hb2
 have HB2 := Lib.hid hb2
 have hbk2 := HBK.out.moved (Moved.of_below hb2 (fun _ => False)) (fun h => h)
 have a0 : w2.cell? ⟨w.heap.size, 0, none⟩ = some (.int .i64 at') := by rw [hbk2.cell]; rfl
 have a1 : w2.cell? ⟨w.heap.size, 1, none⟩ = some (.int .i64 lvl) := by rw [hbk2.cell]; rfl
 have a2 : w2.cell? ⟨w.heap.size, 2, none⟩ = some (.slice ao n cap) := by rw [hbk2.cell]; rfl
 have A1 := Lib.hid a1
 have hal3 : Below w2.heap.size w2 (w2.alloc (.cells #[.int .i64 at', .int .i64 lvl, .slice ao n cap] 140)) := (Below.refl _ w2).alloc (Nat.le_refl _) _
 have hb3 := Blk.new w2 #[.int .i64 at', .int .i64 lvl, .slice ao n cap] 140
 have hs3 : (w2.alloc (.cells #[.int .i64 at', .int .i64 lvl, .slice ao n cap] 140)).heap.size = w2.heap.size + 1 := by simp
 obtain ⟨w3, hw3⟩ : ∃ w3, w3 = w2.alloc (.cells #[.int .i64 at', .int .i64 lvl, .slice ao n cap] 140) := ⟨_, rfl⟩
 rw [← hw3] at hal3 hb3 hs3
 have hb13 : Below w1.heap.size w1 w3 := hb2.trans (hal3.mono hb2.size)
 have HP3 := Lib.hid (HP.out.take hb13)
 have hnds : Nds w3 (fun q => q = w2.heap.size ∨ (Value.slice ao n cap).ownBlock = some q) (.slice (some ⟨w2.heap.size, 0, none⟩) 1 1) [⟨at', lvl, es⟩] := by
  refine ⟨_, 1, rfl, Nat.le_refl _, by decide, fun k hk => ⟨w2.heap.size, 0, rfl, hb3.lt, .inl rfl, .slice ao n cap, ?_⟩⟩
  obtain rfl : k = 0 := by simp at hk; exact hk
  exact ⟨by rw [hb3.cell]; rfl, by rw [hb3.cell]; rfl, by rw [hb3.cell]; rfl, HES.out.below hb13, fun q hq => .inr hq⟩
 have hae : allEs [⟨at', lvl, es⟩] = es := by simp [allEs]
 have hly := lay_all HP3.out _ [⟨at', lvl, es⟩] _ hnds (fun q hq => by
  rcases hq with rfl | hq
  ·exact .inr (.inr ⟨hb2.size, by omega⟩)
  ·exact (HV.out q hq).imp id (fun h => .inl (.inl h))) (show 0 < 1 by decide) (show 1 ≤ 10 by decide) (by rw [hae, ← HN.out]; rw [← HN.out] at hn; exact hn) (by rw [hae]; exact HOK.out) lvl rfl [at'] rfl (fun a ha => by simp at ha; subst ha; exact HUS.out) (fun a ha => by simp at ha; subst ha; exact HWF.out)
  (by rw [hae]; exact HFIT.out) (by simp) (by omega)
 rw [hae] at hly
 have HLY := Lib.hid hly
 have HW3 := Lib.hid hw3
 have HB13 := Lib.hid hb13
 clear hb2 hbk2 hal3 hb3 hs3 hw3 hb13 hnds hae hly
 go_wp2_with fail
 rw [← HW3.out]
 refine HLY.out.mono ?_
 rintro en w4 ⟨v4, ls, F, c4, hls, rfl, hc4, hF, hp4, hm4, ho4, hq4⟩
 simp only [List.length_cons, List.length_nil] at hc4
 obtain ⟨nl, hnl⟩ : ∃ nl, nl = ls.length := ⟨_, rfl⟩
 have hkl := kidsOf_len [at'] H ls.length
 obtain ⟨ao4, cap4, rfl, hx4, -⟩ := ho4.form
 rw [hkl, ← hnl] at hx4 ⊢
 have ho4' := ho4
 rw [hkl, ← hnl] at ho4'
 have hm14 : Mx w0 X w w4 := ((Mx.of HAL.out).trans (Mx.of HB13.out)).trans (hm4.mono (fun j hj => ⟨hj.1, fun e => hj.2 (.inl (.inl e))⟩))
 have hlt4 : w.heap.size < w4.heap.size := Nat.lt_of_lt_of_le HLT.out (Nat.le_trans HB13.out.size hm4.size)
 have hcell : w4.cell? ⟨w.heap.size, 1, none⟩ = some (.int .i64 lvl) := by
  have hin : (fun k => (X k ∨ (w.heap.size ≤ k ∧ k < w1.heap.size)) ∨ (w1.heap.size ≤ k ∧ k < w3.heap.size)) w.heap.size := .inl (.inr ⟨Nat.le_refl _, HLT.out⟩)
  have h13 := HB13.out.cell (show (⟨w.heap.size, 1, none⟩ : Addr).block < _ from HLT.out)
  rw [World.cell?_of_block (hm4.block w.heap.size (Nat.lt_of_lt_of_le HLT.out HB13.out.size) (fun e => e.2 hin)), h13, HBK.out.cell]
  rfl
 have hnl1 : 1 ≤ nl := by rw [hnl]; obtain ⟨m, -, e, -⟩ := hls; rw [e]; exact (partedOf_len _ _ _).2
 have hnl9 : nl ≤ 9001 := by
  rw [hnl]; obtain ⟨m, -, e, -⟩ := hls; rw [e]
  have := (partedOf_len lvl m es).1
  omega
 have HLS := Lib.hid hls
 have HC4 := Lib.hid hc4
 have HNL := Lib.hid hnl
 have HP4 := Lib.hid hp4
 have HM4 := Lib.hid hm14
 have HO4 := Lib.hid ho4'
 have HQ4 := Lib.hid hq4
 rw [hkl, ← hnl] at HQ4
 clear hnl hls hkl hF hp4 hm4 ho4 ho4' hq4 hm14 hlt4 HLY hx4
 obtain ⟨H1, hH1⟩ : ∃ H1, H1 = layF lvl [at'] ls H := ⟨_, rfl⟩
 have HP4' := HP4.out
 rw [← hH1] at HP4'
 have HP5 := Lib.hid HP4'
 have HH1 := Lib.hid hH1
 clear HP4 HP4' hH1
 by_cases h1 : nl = 1
 ·have h1' : ¬ (1 : Int) < nl := by omega
  go_wp2_with fail
  go_step3
  go_wp2_with fail
  rw [Exit.noGoto_ret]
  go_ret2
  refine ⟨at', ls, c4, H1, HLS.out, rfl, by have := HC4.out; have := HNL.out; omega, HP5.out.less (fun j hj => .inl (.inl (.inl hj))), HM4.out, .inl ⟨by have := HNL.out; omega, rfl, HH1.out⟩⟩
 ·have h1' : (1 : Int) < nl := by omega
  have hrt := HROOT.out ls HLS.out (by have := HNL.out; omega)
  rw [← HH1.out, ← HNL.out] at hrt
  obtain ⟨⟨a, rest, hf⟩, hpo⟩ := hrt
  obtain ⟨ks, hks⟩ : ∃ ks, ks = (kidsOf [at'] H nl).map kidE := ⟨_, rfl⟩
  have ho4 := HO4.out
  rw [← hks] at hpo ho4
  have hadd := bt_add HP5.out (by have := HC4.out; have := HNL.out; omega) hf (lvl + 1) _ _ ho4.ens (fun _ q hq => .inr (.inr (HQ4.out q hq))) hpo.ok hpo.pre hpo.few hpo.size
  obtain ⟨H2, hH2⟩ : ∃ H2 : Lg, H2 = { H1 with free := rest, page := upd H1.page a (page (enc (lvl + 1) ks)) } := ⟨_, rfl⟩
  rw [← hH2] at hadd
  have HADD := Lib.hid hadd
  have HF := Lib.hid hf
  have HH2 := Lib.hid hH2
  have HKS := Lib.hid hks
  clear hadd hpo hf ho4 hH2 hks
  go_wp2_with fail
  refine HADD.out.mono ?_
  rintro en w5 ⟨rfl, h5, hm5⟩
  have H5 := Lib.hid h5
  have HM5 := Lib.hid (HM4.out.trans (hm5.mono (fun j hj => ⟨hj.1, fun e => hj.2 (.inl (.inl (.inl e)))⟩)))
  clear h5 hm5 HADD
  go_wp2_with fail
  go_step3
  go_wp2_with fail
  rw [Exit.noGoto_ret]
  go_ret2
  refine ⟨a, ls, c4 + 2, H2, HLS.out, rfl, by have := HC4.out; have := HNL.out; omega, H5.out.less (fun j hj => .inl (.inl (.inl hj))), HM5.out, .inr ⟨by have := HNL.out; omega, a, rest, ?_, rfl, ?_⟩⟩
  ·rw [← HH1.out]; exact HF.out
  ·rw [HH2.out, HKS.out, HH1.out, HNL.out]
set_option maxHeartbeats 4000000 in
/-- top, where the root has one kid. -/
theorem top_kid {w0 w : World} {X : Nat → Prop} {r p N M c : Nat} {G H : Lg} (h : Pb w0 w X r p N M c G (some H)) (at' lvl : Int) (v : Value) (kp : Int) (hes : Ens w v [kidE kp]) (hv : ∀ g, v.ownBlock = some g → g < w0.heap.size ∨ X g) (hl0 : 0 < lvl) (hus : lgUsed N H at') :
 Calls Tryz.prog 115 #[.pointer (some ⟨p, 0, none⟩), nodeV at' lvl v] w fun e w' => e = .returned (.tuple #[.int .i64 kp, .int .i64 0]) ∧ Pb w0 w' X r p N M (c + 1) G (some { H with free := at'.toNat :: H.free }) ∧ Mx w0 X w w' := by
 obtain ⟨b, off, cap, rfl, hc1, hc2, hbs, hce⟩ := hes.at (by simp)
 obtain ⟨-, -, d2⟩ := hce 0 (by simp)
 simp only [List.length_cons, List.length_nil, Nat.zero_add, Nat.zero_mul, Nat.add_zero] at hc1 d2 hes hv ⊢
 have d2' : w.cell? ⟨b, off + 2, none⟩ = some (.int .i64 kp) := d2
 have hal : Below w.heap.size w (w.alloc (.cells #[.int .i64 at', .int .i64 lvl, .slice (some ⟨b, off, none⟩) 1 cap] 140)) := (Below.refl _ w).alloc (Nat.le_refl _) _
 have hb := Blk.new w #[.int .i64 at', .int .i64 lvl, .slice (some ⟨b, off, none⟩) 1 cap] 140
 obtain ⟨w1, hw1⟩ : ∃ w1, w1 = w.alloc (.cells #[.int .i64 at', .int .i64 lvl, .slice (some ⟨b, off, none⟩) 1 cap] 140) := ⟨_, rfl⟩
 rw [← hw1] at hal hb
 have a0 : w1.cell? ⟨w.heap.size, 0, none⟩ = some (.int .i64 at') := by rw [hb.cell]; rfl
 have a1 : w1.cell? ⟨w.heap.size, 1, none⟩ = some (.int .i64 lvl) := by rw [hb.cell]; rfl
 have a2 : w1.cell? ⟨w.heap.size, 2, none⟩ = some (.slice (some ⟨b, off, none⟩) 1 cap) := by rw [hb.cell]; rfl
 have hki := fun w => kids_any at' lvl (some ⟨b, off, none⟩) 1 cap (by omega) w
 have hkn : (if lvl = 0 then 0 else ((1 : Nat) : Int)) = 1 := by rw [if_neg (by omega)]; rfl
 rw [hkn] at hki
 have HKI := Lib.hid hki
 have HP := Lib.hid (h.take hal)
 have HPB := Lib.hid h.below.size
 have HBK := Lib.hid hb
 have HW1 := Lib.hid hw1
 have HAL := Lib.hid hal
 have HUS := Lib.hid hus
 have HV := Lib.hid hv
 have HLT := Lib.hid hb.lt
 have HBS := Lib.hid hbs
 have D2 := Lib.hid d2'
 unfold nodeV
 unfold nodeV at HKI
 rw [hw1] at a0 a1 a2
 clear h hes hv hus hal hb hw1 hki hkn hce d2 d2' hbs
 go_enter Tryz.func115, Tryz.ntmps115
 go_wp2_with fail
 refine wp_scope_jumps 0 (fun a' w' => ∃ u0 u1 u2 u3 u4 u5 u6 u9 u10 u11 u12 u13 u14 u15 u16 u17 u18 u19 u20 u21 u22 u23 u24 u25 u26 u27 u28 u29 u30 u31 u32 u33 u34 u35 u36 u37 u38 u39 u40 u41 u42 u43 u44 u45 u46 u47 u48 u49 : Value, a' = { tmps := #[u0, u1, u2, u3, u4, u5, u6, .int .i64 kp, .int .i64 0, u9, u10, u11, u12, u13, u14, u15, u16, u17, u18, u19, u20, u21, u22, u23, u24, u25, u26, u27, u28, u29, u30, u31, u32, u33, u34, u35, u36, u37, u38, u39, u40, u41, u42, u43, u44, u45, u46, u47, u48, u49], defers := [] } ∧ Pb w0 w' X r p N M (c + 1) G (some { H with free := at'.toNat :: H.free }) ∧ Mx w0 X w w') (fun _ _ => 0) rfl ?_ ?_
 rotate_left
 ·rintro a' w' ⟨u0, u1, u2, u3, u4, u5, u6, u9, u10, u11, u12, u13, u14, u15, u16, u17, u18, u19, u20, u21, u22, u23, u24, u25, u26, u27, u28, u29, u30, u31, u32, u33, u34, u35, u36, u37, u38, u39, u40, u41, u42, u43, u44, u45, u46, u47, u48, u49, rfl, ⟨h1, h2⟩⟩
  have H1 := Lib.hid h1
  have H2 := Lib.hid h2
  clear h1 h2
  go_wp2
  try simp only [Exit.jump]
  go_ret2
  exact ⟨rfl, H1.out, H2.out⟩
 go_wp2_with fail
 refine (HKI.out _).mono ?_
 rintro en w2 ⟨rfl, hb2⟩
 rw [← HW1.out] at hb2
 have hb02 := HAL.out.trans (hb2.mono HAL.out.size)
 have hbk2 := HBK.out.moved (Moved.of_below hb2 (fun _ => False)) (fun h => h)
 have k0 : w2.cell? ⟨w.heap.size, 0, none⟩ = some (.int .i64 at') := by rw [hbk2.cell]; rfl
 have k2 : w2.cell? ⟨w.heap.size, 2, none⟩ = some (.slice (some ⟨b, off, none⟩) 1 cap) := by rw [hbk2.cell]; rfl
 have kd : w2.cell? ⟨b, off + 2, none⟩ = some (.int .i64 kp) := (hb02.cell (show (⟨b, off + 2, none⟩ : Addr).block < _ from HBS.out)).trans D2.out
 have hdp := pb_drop at' ((HP.out.take hb2).grow ((Below.refl w2.heap.size w2).drew))
 rw [lgDrop_some, if_pos HUS.out] at hdp
 have HDP := Lib.hid hdp
 have K0 := Lib.hid k0
 have K2 := Lib.hid k2
 have KD := Lib.hid kd
 have HL2 := Lib.hid (show w.heap.size < w2.heap.size from hbk2.lt)
 have HL3 := Lib.hid (show b < w2.heap.size from Nat.lt_of_lt_of_le HBS.out hb02.size)
 have HB02 := Lib.hid hb02
 have HS1 := Lib.hid hb2.size
 clear hb2 hb02 hbk2 k0 k2 kd hdp a0 a1 a2 HKI
 go_wp2_with fail
 refine wp_region_any (by kernel_rfl) ?_
 change wpAny _ _ _ _ _ _ _ (World.drew _)
 refine wpAny_of_held (S := fun (w' : World) => w'.cell? ⟨w.heap.size, 2, none⟩ = some (.slice (some ⟨b, off, none⟩) 1 cap) ∧ w'.cell? ⟨w.heap.size, 0, none⟩ = some (.int .i64 at') ∧ w'.cell? ⟨b, off + 2, none⟩ = some (.int .i64 kp)) _ _ _ _ ?_
 have hS : (fun (w' : World) => w'.cell? ⟨w.heap.size, 2, none⟩ = some (.slice (some ⟨b, off, none⟩) 1 cap) ∧ w'.cell? ⟨w.heap.size, 0, none⟩ = some (.int .i64 at') ∧ w'.cell? ⟨b, off + 2, none⟩ = some (.int .i64 kp)) _ := ⟨K2.out, K0.out, KD.out⟩
 try simp only [Act.put, List.setIfInBounds_toArray, List.set_cons_zero, List.set_cons_succ]
 refine wpAnyH_take (i := 0) (oi := ⟨some 14, _, _, _, _, _⟩) (v := ?_) rfl (by kernel_rfl) (by kernel_rfl) (by kernel_rfl) (fun _ _ _ h => h) (Or.inl ⟨by simp only [Region.wanted], ?_⟩) hS ?_
 rotate_left
 ·intro wz hSw
  clear hSw
  go_simp
  first | done | with_reducible rfl
 try simp only [Act.put, List.setIfInBounds_toArray, List.set_cons_zero, List.set_cons_succ]
 refine wpAnyH_take (i := 1) (oi := ⟨some 15, _, _, _, _, _⟩) (v := ?_) rfl (by kernel_rfl) (by kernel_rfl) (by kernel_rfl) (fun _ _ _ h => h) (Or.inl ⟨by simp only [Region.wanted], ?_⟩) hS ?_
 rotate_left
 ·intro wz hSw
  (try dsimp only at hSw)
  (try go_split_ands)
  go_simp
  first | done | with_reducible rfl
 try simp only [Act.put, List.setIfInBounds_toArray, List.set_cons_zero, List.set_cons_succ]
 refine wpAnyH_take (i := 2) (oi := ⟨some 16, _, _, _, _, _⟩) (v := ?_) rfl (by kernel_rfl) (by kernel_rfl) (by kernel_rfl) (fun _ _ _ h => h) (Or.inl ⟨by simp only [Region.wanted], ?_⟩) hS ?_
 rotate_left
 ·intro wz hSw
  clear hSw
  go_simp
  first | done | with_reducible rfl
 try simp only [Act.put, List.setIfInBounds_toArray, List.set_cons_zero, List.set_cons_succ]
 refine wpAnyH_take (i := 3) (oi := ⟨some 17, _, _, _, _, _⟩) (v := ?_) rfl (by kernel_rfl) (by kernel_rfl) (by kernel_rfl) (fun _ _ _ h => h) (Or.inl ⟨by simp only [Region.wanted], ?_⟩) hS ?_
 rotate_left
 ·intro wz hSw
  clear hSw
  go_simp
  first | done | with_reducible rfl
 try simp only [Act.put, List.setIfInBounds_toArray, List.set_cons_zero, List.set_cons_succ]
 refine wpAnyH_take (i := 4) (oi := ⟨some 18, _, _, _, _, _⟩) (v := ?_) rfl (by kernel_rfl) (by kernel_rfl) (by kernel_rfl) (fun _ _ _ h => h) (Or.inl ⟨by simp only [Region.wanted], ?_⟩) hS ?_
 rotate_left
 ·intro wz hSw
  (try dsimp only at hSw)
  (try go_split_ands)
  go_simp
  first | done | with_reducible rfl
 try simp only [Act.put, List.setIfInBounds_toArray, List.set_cons_zero, List.set_cons_succ]
 refine wpAnyH_take (i := 5) (oi := ⟨some 19, _, _, _, _, _⟩) (v := ?_) rfl (by kernel_rfl) (by kernel_rfl) (by kernel_rfl) (fun _ _ _ h => h) (Or.inl ⟨by simp only [Region.wanted], ?_⟩) hS ?_
 rotate_left
 ·intro wz hSw
  clear hSw
  go_simp
  first | done | with_reducible rfl
 try simp only [Act.put, List.setIfInBounds_toArray, List.set_cons_zero, List.set_cons_succ]
 refine wpAnyH_take (i := 6) (oi := ⟨some 20, _, _, _, _, _⟩) (v := ?_) rfl (by kernel_rfl) (by kernel_rfl) (by kernel_rfl) (fun _ _ _ h => h) (Or.inl ⟨by simp only [Region.wanted], ?_⟩) hS ?_
 rotate_left
 ·intro wz hSw
  clear hSw
  go_simp
  first | done | with_reducible rfl
 try simp only [Act.put, List.setIfInBounds_toArray, List.set_cons_zero, List.set_cons_succ]
 refine wpAnyH_take (i := 7) (oi := ⟨some 21, _, _, _, _, _⟩) (v := ?_) rfl (by kernel_rfl) (by kernel_rfl) (by kernel_rfl) (fun _ _ _ h => h) (Or.inl ⟨by simp only [Region.wanted], ?_⟩) hS ?_
 rotate_left
 ·intro wz hSw
  (try dsimp only at hSw)
  (try go_split_ands)
  go_simp
  first | done | with_reducible rfl
 try simp only [Act.put, List.setIfInBounds_toArray, List.set_cons_zero, List.set_cons_succ]
 refine wpAnyH_ready (rs := [8]) (by kernel_rfl) (by simp) ?_
 refine AllReadyH.cons (o := ⟨some 22, _, _, _, _, _⟩) rfl (fun K hK => ?_) AllReadyH.nil
 go_simp
 refine HDP.out.mono ?_
 rintro en w4 ⟨rfl, h4, hm4⟩
 have H4 := Lib.hid h4
 have HM4 := Lib.hid hm4
 clear h4 hm4 HDP
 have hin : ∀ k, (k = w.heap.size ∨ k = b) → ¬ (w0.heap.size ≤ k ∧ ¬ ((X k ∨ (w.heap.size ≤ k ∧ k < w1.heap.size)) ∨ (w1.heap.size ≤ k ∧ k < w2.heap.size))) := fun k hk e => by
  rcases hk with rfl | rfl
  ·exact e.2 (.inl (.inr ⟨Nat.le_refl _, HLT.out⟩))
  ·rcases HV.out k rfl with h | h
   ·omega
   ·exact e.2 (.inl (.inl h))
 refine hK.out _ _ (⟨(World.cell?_of_block (HM4.out.block w.heap.size HL2.out (hin _ (.inl rfl)))).trans K2.out, (World.cell?_of_block (HM4.out.block w.heap.size HL2.out (hin _ (.inl rfl)))).trans K0.out, (World.cell?_of_block (HM4.out.block b HL3.out (hin _ (.inr rfl)))).trans KD.out⟩) (fun hS => ?_)
 clear hK K
 try simp only [Act.put, List.setIfInBounds_toArray, List.set_cons_zero, List.set_cons_succ]
 refine wpAnyH_take (i := 9) (oi := ⟨some 7, _, _, _, _, _⟩) (v := ?_) rfl (by kernel_rfl) (by kernel_rfl) (by kernel_rfl) (fun _ _ _ h => h) (Or.inl ⟨by simp only [Region.wanted], ?_⟩) hS ?_
 rotate_left
 ·intro wz hSw
  clear hSw
  go_simp
  first | done | with_reducible rfl
 try simp only [Act.put, List.setIfInBounds_toArray, List.set_cons_zero, List.set_cons_succ]
 refine wpAnyH_take (i := 10) (oi := ⟨some 8, _, _, _, _, _⟩) (v := ?_) rfl (by kernel_rfl) (by kernel_rfl) (by kernel_rfl) (fun _ _ _ h => h) (Or.inl ⟨by simp only [Region.wanted], ?_⟩) hS ?_
 rotate_left
 ·intro wz hSw
  clear hSw
  go_simp
  first | done | with_reducible rfl
 try simp only [Act.put, List.setIfInBounds_toArray, List.set_cons_zero, List.set_cons_succ]
 refine wpAnyH_done (by kernel_rfl) ?_ _
 clear hS
 go_wp2_with fail
 go_step3
 refine ⟨rfl, ⟨_, _, _, _, _, _, _, _, _, _, _, _, _, _, _, _, _, _, _, _, _, _, _, _, _, _, _, _, _, _, _, _, _, _, _, _, _, _, _, _, _, _, _, _, _, _, _, _, rfl, ⟨H4.out.less (fun k hk => .inl (.inl hk)), ?_⟩⟩⟩
 exact (Mx.of HB02.out).trans ((Mx.of ((Below.refl w2.heap.size w2).drew)).trans (HM4.out.mono (fun j hj => ⟨hj.1, fun e => hj.2 (.inl (.inl e))⟩)))
end Go.Proofs.YtbpdapcmaioeiaaGreat
