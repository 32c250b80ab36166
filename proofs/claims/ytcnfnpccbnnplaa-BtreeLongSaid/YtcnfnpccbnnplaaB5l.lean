/- lay. -/
import Derived.Test.YtcnfnpccbnnplaaB5k
namespace Go.Proofs.Ytcnfnpccbnnplaa
open Go.RowKit Go.Maps
set_option maxRecDepth 100000
set_option linter.unusedVariables false

section
variable {w0 w w' : World} {X : Nat → Prop} {r p N M c : Nat} {G : Lg} {H : Option Lg}
theorem Pb.less {X' : Nat → Prop} (h : Pb w0 w X r p N M c G H) (hX : ∀ k, X' k → X k) : Pb w0 w X' r p N M c G H := by
  obtain ⟨A, K, T, h, k⟩ := h; exact ⟨A, K, T, h.less hX, k⟩
/-- A row of X was written, or a new one was made. -/
theorem Pb.grown {X' : Nat → Prop} {row : Option Nat} (h : Pb w0 w X r p N M c G H) (hg : w.grownBy w' row) (hr : ∀ k, row = some k → X k ∧ w0.heap.size ≤ k) (hX : ∀ k, X' k → X k ∨ (w.heap.size ≤ k ∧ k < w'.heap.size)) :
    Pb w0 w' X' r p N M c G H := by
  obtain ⟨A, K, T, ⟨h1, h2, P, Q, h3, h4, h5, h6⟩, k⟩ := h
  have hm : Moved (fun k => row = some k) w w' := ⟨hg.os, hg.tape, hg.output, hg.size, fun k hk hne => hg.block k hk (fun e => hne e.symm)⟩
  have hs := hg.size
  refine ⟨A, K, T, ⟨h1.trans (hm.below (fun k hk => (hr k hk).2) h1.size), fun k hk => ?_, P, Q, h3.moved hm (fun k hk e => (h5 k hk).2.2 (hr k e).1), h4.moved hm (fun k hk e => (h6 k hk).2.2.1 (hr k e).1), fun k hk => ?_, fun k hk => ?_⟩, k⟩
  · rcases hX k hk with e | e
    · exact Nat.lt_of_lt_of_le (h2 k e) hs
    · exact e.2
  · have := h5 k hk
    exact ⟨this.1, by omega, fun e => by rcases hX k e with e | e; exact this.2.2 e; omega⟩
  · have := h6 k hk
    exact ⟨this.1, by omega, fun e => by rcases hX k e with e | e; exact this.2.2.1 e; omega, this.2.2.2⟩
theorem Pb.lt (h : Pb w0 w X r p N M c G H) (k : Nat) (hk : X k) : k < w.heap.size := by
  obtain ⟨A, K, T, ⟨-, h2, -⟩, -⟩ := h; exact h2 k hk
end

/-- l = append(l, e) -/
theorem wpList_append_ent {w : World} {ops : Array Oper} {rest : List Oper} {o : Oper} {a : Act} {Q : Exit → Act → World → Prop} (hgd : o.guard = none) (s x : Operand)
    (ho : o.op = .call { callee := .builtin .append, args := #[s, x], argTypes := #[109, 109] }) (base : Nat) (hbase : base ≤ w.heap.size)
    (v : Value) (es : List Ent) (hs : a.eval s = v) (hown : Owe w base v es) (g0 : Nat) (hx : a.eval x = .slice (some ⟨g0, 0, none⟩) 1 1) (e : Ent) (hg : Blk w g0 #[.string e.key, .string e.val, .int .i64 e.kid] 117) (n : Nat) (hn : n = es.length + 1) (hl : n ≤ 1000000)
    (h : ∀ ao cap w', Owe w' base (.slice ao n cap) (es ++ [e]) → n ≤ cap → cap ≤ 9223372036854775807 → w.grownBy w' v.ownBlock → (∀ q, (Value.slice ao n cap).ownBlock = some q → v.ownBlock = some q ∨ w.heap.size ≤ q) → wpList Try.prog ops Q rest (a.put o.dst (.slice ao n cap)) w') :
    wpList Try.prog ops Q (o :: rest) a w := by
  obtain ⟨i0, hi, hz0, hz1, hz2⟩ := info_parts Try.infoEnt
  refine wpList_append_lies w hgd s x _ ho base 117 i0 _ 3 40 Try.underlying109 hi hz0 hz1 hz2 rfl (by decide) v es.length (ecells es) hs hown ⟨g0, 0, none⟩ 1 1 (Ent.cells e) hx rfl ?_ ?_ (by decide) (by simp [maxLen]; omega) (by omega) hbase _ rfl ?_
  · intro j u hj
    rw [show (⟨g0, 0, none⟩ : Addr).add j = ⟨g0, j, none⟩ from by unfold Addr.add; split <;> simp_all, hg.cell]
    simpa [Ent.cells] using hj
  · intro u hu
    simp [Ent.cells] at hu
    rcases hu with rfl | rfl | rfl <;> rfl
  · intro g cap w' k1 k2 k3 k4
    subst hn
    obtain ⟨aox, capx, ex, hx1, hx2⟩ := owns_form k1
    simp only [Value.slice.injEq] at ex
    obtain ⟨-, -, rfl⟩ := ex
    refine h _ _ w' ?_ hx1 hx2 k2 (fun q hq => ?_)
    · unfold Owe
      rw [ecells_append, List.length_append]
      simpa [ecells] using k1
    · have : g = q := Option.some.inj hq
      subst this
      rcases k3 with k3 | k3
      · exact .inl k3
      · exact .inr (by omega)

def kidE (k : Int) : Ent := ⟨⟨#[]⟩, ⟨#[]⟩, k⟩
/-- The page of part k. -/
def kidAt (ats : List Int) (H : Lg) (k : Nat) : Int := if k < ats.length then ats.getD k 0 else ((H.free.getD (k - ats.length) 0 : Nat) : Int)
def kidsOf (ats : List Int) (H : Lg) (n : Nat) : List Int := (List.range n).map (kidAt ats H)
def layPage (lvl : Int) (ats : List Int) (ls : List (List Ent)) (H : Lg) : Nat → (Nat → List UInt8)
  | 0 => H.page
  | k + 1 => upd (layPage lvl ats ls H k) (kidAt ats H k).toNat (page (enc lvl (ls.getD k [])))
/-- The pages when k parts are laid. -/
def layH (lvl : Int) (ats : List Int) (ls : List (List Ent)) (H : Lg) (k : Nat) : Lg := { H with free := H.free.drop (k - ats.length), page := layPage lvl ats ls H k }
/-- And when spare ones are given back. -/
def dropH (ats : List Int) (H : Lg) : Lg := { H with free := (ats.map Int.toNat).reverse ++ H.free }

theorem layH_put {lvl : Int} {ats : List Int} {ls : List (List Ent)} {H : Lg} {k : Nat} (hk : k < ats.length) :
    layH lvl ats ls H (k + 1) = { layH lvl ats ls H k with page := upd (layH lvl ats ls H k).page (kidAt ats H k).toNat (page (enc lvl (ls.getD k []))) } := by
  unfold layH
  rw [show k + 1 - ats.length = k - ats.length by omega]
  rfl
theorem layH_new {lvl : Int} {ats : List Int} {ls : List (List Ent)} {H : Lg} {k : Nat} (hk : ats.length ≤ k) (hf : k - ats.length < H.free.length) :
    ∃ (a : Nat) (rest : List Nat), (layH lvl ats ls H k).free = a :: rest ∧ kidAt ats H k = (a : Int) ∧ layH lvl ats ls H (k + 1) = { layH lvl ats ls H k with free := rest, page := upd (layH lvl ats ls H k).page a (page (enc lvl (ls.getD k []))) } := by
  refine ⟨H.free[k - ats.length], H.free.drop (k - ats.length + 1), ?_, ?_, ?_⟩
  · show H.free.drop _ = _
    exact List.drop_eq_getElem_cons hf
  · unfold kidAt
    rw [if_neg (by omega), List.getD_eq_getElem?_getD, List.getElem?_eq_getElem hf]; rfl
  · have e : kidAt ats H k = ((H.free[k - ats.length] : Nat) : Int) := by
      unfold kidAt
      rw [if_neg (by omega), List.getD_eq_getElem?_getD, List.getElem?_eq_getElem hf]; rfl
    unfold layH
    rw [show k + 1 - ats.length = k - ats.length + 1 by omega]
    show (⟨_, _, upd (layPage lvl ats ls H k) (kidAt ats H k).toNat _⟩ : Lg) = _
    rw [e]
    rfl
theorem layH_used {lvl : Int} {ats : List Int} {ls : List (List Ent)} {H : Lg} {N k : Nat} {i : Int} (hu : lgUsed N H i) : lgUsed N (layH lvl ats ls H k) i :=
  ⟨hu.1, hu.2.1, fun h => hu.2.2 (List.mem_of_mem_drop h)⟩
theorem layH_zero {lvl : Int} {ats : List Int} {ls : List (List Ent)} {H : Lg} : layH lvl ats ls H 0 = H := by
  unfold layH
  rw [Nat.zero_sub]
  rfl
theorem kidsOf_succ (ats : List Int) (H : Lg) (k : Nat) : (kidsOf ats H (k + 1)).map kidE = (kidsOf ats H k).map kidE ++ [kidE (kidAt ats H k)] := by
  unfold kidsOf
  rw [List.range_succ, List.map_append, List.map_append]; rfl
theorem kidsOf_len (ats : List Int) (H : Lg) (k : Nat) : ((kidsOf ats H k).map kidE).length = k := by unfold kidsOf; simp

/-- What a part must be to lie on a page. -/
structure PartOk (lvl : Int) (es : List Ent) : Prop where
  ok : ∀ e ∈ es, EntOk e
  size : (enc lvl es).length ≤ 504
  pre : ∀ k, (encs lvl (es.take k)).length ≤ 90000
  few : es.length ≤ 1000

set_option maxHeartbeats 4000000 in
theorem lay_any {w0 w : World} {X : Nat → Prop} {r p N M c : Nat} {G H : Lg} (h : Pb w0 w X r p N M c G (some H)) (v : Value) (ns : List Nd') (S : Nat → Prop) (hv : Nds w S v ns) (hS : ∀ q, S q → q < w0.heap.size ∨ X q) (h0 : 0 < ns.length) (hn : ns.length ≤ 10) (hne : (allEs ns).length ≤ 9000) (hok : ∀ e ∈ allEs ns, EntOk e)
    (lvl : Int) (hlvl : ns[0].lvl = lvl) (ats : List Int) (hats : ats = ns.map (·.at')) (hus : ∀ a ∈ ats, lgUsed N H a) (hwf : ∀ a ∈ ats, (Lit.int .i64 a).wf = true)
    (hfit : ∀ ls, EvenOf lvl (allEs ns) ls → ls.length ≤ ats.length + H.free.length ∧ ∀ l ∈ ls, PartOk lvl l) (hge : ∀ ls, EvenOf lvl (allEs ns) ls → ns.length ≤ ls.length) (hc : c + 100000 < 500000) :
    Calls Try.prog 98 #[.pointer (some ⟨p, 0, none⟩), v] w fun e w' => ∃ (v' : Value) (ls : List (List Ent)) (F : Nat → Prop) (c' : Nat), EvenOf lvl (allEs ns) ls ∧ e = .returned (.tuple #[v', .int .i64 0]) ∧ c' ≤ c + 100000 ∧
      (∀ k, F k → w.heap.size ≤ k ∧ k < w'.heap.size) ∧ Pb w0 w' (fun k => X k ∨ F k) r p N M c' G (some (layH lvl ats ls H ls.length)) ∧ Mx w0 X w w' ∧ Owe w' w.heap.size v' ((kidsOf ats H ls.length).map kidE) ∧ ∀ q, v'.ownBlock = some q → F q := by
  have hev := even_any S v ns w.drew (show Nds w.drew S v ns from hv) h0 hn (by omega) hok lvl hlvl
  obtain ⟨ao, cap, rfl, hc1, hc2, hE⟩ := id hv
  obtain ⟨b, off, rfl, hbw, hSb, u0, e0, e1, e2, -, -⟩ := hE 0 h0
  rw [hlvl, Nat.zero_mul, Nat.add_zero] at e1
  obtain ⟨n, hn'⟩ : ∃ n, n = ns.length := ⟨_, rfl⟩
  have HN := Lib.hid hn'
  have HV := Lib.hid hv
  have HP := Lib.hid h
  have HEV := Lib.hid hev
  have HFIT := Lib.hid hfit
  have HATS := Lib.hid hats
  have HUS := Lib.hid hus
  have HWF := Lib.hid hwf
  have HGE := Lib.hid hge
  have HNE := Lib.hid hne
  have HS := Lib.hid hS
  have HBW := Lib.hid hbw
  have E1 := Lib.hid e1
  rw [← hn'] at hc1 h0 hn HV HEV ⊢
  have i1 : (0 : Int) < n := by omega
  clear h hv hev hfit hats hus hwf hge hS hn' hE e0 e2 hok hne hbw e1
  go_enter Try.func98, Try.ntmps98
  go_wp2_with fail
  go_step3
  go_wp2_with fail
  refine wp_region_any (by kernel_rfl) ?_
  change wpAny _ _ _ _ _ _ _ (World.drew _)
  refine wpAny_of_held (S := fun (w' : World) => w'.cell? ⟨b, off + 1, none⟩ = some (.int .i64 lvl)) _ _ _ _ ?_
  have hS : (fun (w' : World) => w'.cell? ⟨b, off + 1, none⟩ = some (.int .i64 lvl)) _ := E1.out
  try simp only [Act.put, List.setIfInBounds_toArray, List.set_cons_zero, List.set_cons_succ]
  refine wpAnyH_take (i := 0) (oi := ⟨some 15, _, _, _, _, _⟩) (v := ?_) rfl (by kernel_rfl) (by kernel_rfl) (by kernel_rfl) (fun _ _ _ h => h) (Or.inl ⟨by simp only [Region.wanted], ?_⟩) hS ?_
  rotate_left
  · intro wz hSw
    clear hSw
    go_simp
    first | done | with_reducible rfl
  try simp only [Act.put, List.setIfInBounds_toArray, List.set_cons_zero, List.set_cons_succ]
  refine wpAnyH_take (i := 1) (oi := ⟨some 16, _, _, _, _, _⟩) (v := ?_) rfl (by kernel_rfl) (by kernel_rfl) (by kernel_rfl) (fun _ _ _ h => h) (Or.inl ⟨by simp only [Region.wanted], ?_⟩) hS ?_
  rotate_left
  · intro wz hSw
    clear hSw
    go_simp
    first | done | with_reducible rfl
  try simp only [Act.put, List.setIfInBounds_toArray, List.set_cons_zero, List.set_cons_succ]
  refine wpAnyH_take (i := 2) (oi := ⟨some 17, _, _, _, _, _⟩) (v := ?_) rfl (by kernel_rfl) (by kernel_rfl) (by kernel_rfl) (fun _ _ _ h => h) (Or.inl ⟨by simp only [Region.wanted], ?_⟩) hS ?_
  rotate_left
  · intro wz hSw
    clear hSw
    go_simp
    first | done | with_reducible rfl
  try simp only [Act.put, List.setIfInBounds_toArray, List.set_cons_zero, List.set_cons_succ]
  refine wpAnyH_take (i := 3) (oi := ⟨some 18, _, _, _, _, _⟩) (v := ?_) rfl (by kernel_rfl) (by kernel_rfl) (by kernel_rfl) (fun _ _ _ h => h) (Or.inl ⟨by simp only [Region.wanted], ?_⟩) hS ?_
  rotate_left
  · intro wz hSw
    (try dsimp only at hSw)
    (try go_split_ands)
    go_simp
    first | done | with_reducible rfl
  try simp only [Act.put, List.setIfInBounds_toArray, List.set_cons_zero, List.set_cons_succ]
  refine wpAnyH_take (i := 4) (oi := ⟨some 19, _, _, _, _, _⟩) (v := ?_) rfl (by kernel_rfl) (by kernel_rfl) (by kernel_rfl) (fun _ _ _ h => h) (Or.inl ⟨by simp only [Region.wanted], ?_⟩) hS ?_
  rotate_left
  · intro wz hSw
    clear hSw
    go_simp
    first | done | with_reducible rfl
  try simp only [Act.put, List.setIfInBounds_toArray, List.set_cons_zero, List.set_cons_succ]
  refine wpAnyH_ready (rs := [5]) (by kernel_rfl) (by simp) ?_
  refine AllReadyH.cons (o := ⟨some 20, _, _, _, _, _⟩) rfl (fun K hK => ?_) AllReadyH.nil
  go_simp
  refine (HEV.out).mono ?_
  rintro en w1 ⟨v1, ls, rfl, hls, ho1, hb1⟩
  obtain ⟨ao1, cap1, rfl, k1, k2⟩ := ho1.form
  obtain ⟨nl, hnl⟩ : ∃ nl, nl = ls.length := ⟨_, rfl⟩
  rw [← hnl] at k1 ho1 ⊢
  have HO1 := Lib.hid ho1
  have HB1 := Lib.hid hb1
  have HLS := Lib.hid hls
  have HNL := Lib.hid hnl
  clear ho1 hb1 hls hnl
  refine hK.out _ _ ((HB1.out.cell (show (⟨b, off + 1, none⟩ : Addr).block < _ from HBW.out)).trans E1.out) (fun hS => ?_)
  clear hK K
  try simp only [Act.put, List.setIfInBounds_toArray, List.set_cons_zero, List.set_cons_succ]
  refine wpAnyH_take (i := 6) (oi := ⟨some 8, _, _, _, _, _⟩) (v := ?_) rfl (by kernel_rfl) (by kernel_rfl) (by kernel_rfl) (fun _ _ _ h => h) (Or.inl ⟨by simp only [Region.wanted], ?_⟩) hS ?_
  rotate_left
  · intro wz hSw
    clear hSw
    go_simp
    first | done | with_reducible rfl
  try simp only [Act.put, List.setIfInBounds_toArray, List.set_cons_zero, List.set_cons_succ]
  refine wpAnyH_take (i := 7) (oi := ⟨some 9, _, _, _, _, _⟩) (v := ?_) rfl (by kernel_rfl) (by kernel_rfl) (by kernel_rfl) (fun _ _ _ h => h) (Or.inl ⟨by simp only [Region.wanted], ?_⟩) hS ?_
  rotate_left
  · intro wz hSw
    clear hSw
    go_simp
    first | done | with_reducible rfl
  try simp only [Act.put, List.setIfInBounds_toArray, List.set_cons_zero, List.set_cons_succ]
  refine wpAnyH_done (by kernel_rfl) ?_ _
  clear hS
  have HBW1 := Lib.hid ((Below.refl w.heap.size w).drew.trans HB1.out)
  have HROW := Lib.hid (show Owr w1 w.heap.size (fun q => w.heap.size ≤ q ∧ q < w1.heap.size) (.slice ao1 nl cap1) ls from HO1.out)
  have HP1 := Lib.hid (HP.out.take HBW1.out)
  have hfit := HFIT.out ls HLS.out
  have HNF := Lib.hid hfit.1
  have HPO := Lib.hid hfit.2
  have hnl1 : nl ≤ 100000 / 4 := by
    rw [HNL.out]
    obtain ⟨m, -, e, -⟩ := HLS.out
    rw [e]
    have := (partedOf_len lvl m (allEs ns)).1
    have := HNE.out
    omega
  have HAN := Lib.hid (show ats.length = n by rw [HATS.out, List.length_map, ← HN.out])
  have HX1 := Lib.hid (show ∀ q, S q → q < w0.heap.size ∨ (fun k => X k ∨ (w.heap.size ≤ k ∧ k < w1.heap.size)) q from fun q hq => (HS.out q hq).imp id .inl)
  obtain ⟨X1, hX1⟩ : ∃ X1 : Nat → Prop, X1 = fun k => X k ∨ (w.heap.size ≤ k ∧ k < w1.heap.size) := ⟨_, rfl⟩
  rw [← hX1] at HP1 HX1
  have HXE := Lib.hid hX1
  clear hfit hX1 HO1 HB1
  go_wp2_with fail
  go_loopw [6, 7, 10, 11, 12, 23] (fun v6 v7 _ _ _ i wr => ∃ (k : Nat) (a6 : Option Addr) (c6 : Nat) (F : Nat → Prop), k ≤ nl ∧ i = .int .i64 k ∧ v7 = .int .i64 0 ∧ v6 = .slice a6 k c6 ∧ k ≤ c6 ∧ c6 ≤ 9223372036854775807 ∧ (∀ j, F j → w1.heap.size ≤ j ∧ j < wr.heap.size) ∧ Pb w0 wr (fun j => X1 j ∨ F j) r p N M (c + 2 * k) G (some (layH lvl ats ls H k)) ∧
      Mx w0 X1 w1 wr ∧ Owe wr w1.heap.size v6 ((kidsOf ats H k).map kidE) ∧ ∀ q, v6.ownBlock = some q → F q) (fun _ _ _ _ _ i _ => nl - (intOf i).toNat)
  case atStart => exact ⟨0, none, 0, fun _ => False, Nat.zero_le _, rfl, rfl, rfl, Nat.le_refl _, by decide, fun j hj => hj.elim, by rw [layH_zero]; exact HP1.out.less (fun k hk => hk.elim id (fun h => h.elim)), Mx.refl _ _ _, Owe.nil _ _, fun q hq => by cases hq⟩
  case round =>
    obtain ⟨k, a6, c6, F, hk, rfl, rfl, rfl, hk1, hk2, hF, hpb, hmx, hkd, hkF⟩ := hrel
    have HF := Lib.hid hF
    have HPB := Lib.hid hpb
    have HMX := Lib.hid hmx
    have HKD := Lib.hid hkd
    have HKF := Lib.hid hkF
    have hw0 := hpb.below.size
    clear hF hpb hmx hkd hkF
    by_cases hlt : k < nl
    · have hkl : k < ls.length := by rw [← HNL.out]; exact hlt
      have hpm : ∀ q, (w.heap.size ≤ q ∧ q < w1.heap.size) → ¬ (w0.heap.size ≤ q ∧ ¬ X1 q) := fun q hq h => h.2 (by rw [HXE.out]; exact .inr hq)
      have hro := HROW.out.moved HMX.out (fun q hq => hpm q (HROW.out.lt q hq)) hpm
      obtain ⟨g1, cp, u, hsl, -, hg1, cu, hu, hub⟩ := hro.at k hkl
      rw [← HNL.out] at hsl
      simp only [Value.slice.injEq, true_and] at hsl
      obtain ⟨rfl, rfl⟩ := hsl
      obtain ⟨l, hl⟩ : ∃ l, l = ls[k] := ⟨_, rfl⟩
      have hlg : ls.getD k [] = l := by rw [List.getD_eq_getElem?_getD, List.getElem?_eq_getElem hkl, hl]; rfl
      have hpo := HPO.out l (by rw [hl]; exact List.getElem_mem _)
      rw [← hl] at hu
      obtain ⟨uo, uc, rfl, -⟩ := hu.form
      obtain ⟨lq, hlq⟩ : ∃ lq, lq = l.length := ⟨_, rfl⟩
      rw [← hlq] at cu hu hub
      have huv : 0 < l.length → ∀ g, (Value.slice uo lq uc).ownBlock = some g → g < w0.heap.size ∨ (fun j => X1 j ∨ F j) g := fun _ g hg => .inr (.inl (by rw [HXE.out]; exact .inr (hub g hg)))
      have HU := Lib.hid hu
      have HUV := Lib.hid huv
      have HPO1 := Lib.hid hpo
      have HLG := Lib.hid hlg
      have hlt' : (k : Int) < nl := by omega
      by_cases hkn : k < n
      · have hkn' : (k : Int) < n := by omega
        have hkns : k < ns.length := by rw [← HN.out]; exact hkn
        have hka : k < ats.length := by rw [HAN.out]; exact hkn
        have hnv := (HV.out.below HBW1.out).moved HMX.out (fun q hq h => by rcases HX1.out q hq with e | e; omega; exact h.2 e)
        obtain ⟨ao', cap', hsl, -, -, hE⟩ := hnv
        rw [← HN.out] at hsl
        simp only [Value.slice.injEq, true_and] at hsl
        obtain ⟨rfl, rfl⟩ := hsl
        obtain ⟨b', off', hbe, -, -, uu, e0, -⟩ := hE k hkns
        simp only [Option.some.injEq, Addr.mk.injEq, and_true] at hbe
        obtain ⟨rfl, rfl⟩ := hbe
        have hak : ns[k].at' = ats.getD k 0 := by rw [HATS.out, List.getD_eq_getElem?_getD, List.getElem?_map, List.getElem?_eq_getElem hkns]; rfl
        obtain ⟨ak, hak'⟩ : ∃ ak, ak = ats.getD k 0 := ⟨_, rfl⟩
        rw [hak, ← hak'] at e0
        have hmem : ak ∈ ats := by rw [hak', List.getD_eq_getElem?_getD, List.getElem?_eq_getElem hka]; exact List.getElem_mem _
        have hkid : kidAt ats H k = ak := by unfold kidAt; rw [if_pos hka, hak']
        have hw := bt_write HPB.out (by omega) ak lvl (HWF.out ak hmem) _ l HU.out HUV.out HPO1.out.ok HPO1.out.pre HPO1.out.few
        rw [lgPut_some, if_pos (layH_used (HUS.out ak hmem)), if_neg (by have := HPO1.out.size; omega)] at hw
        have hnx : layH lvl ats ls H (k + 1) = { layH lvl ats ls H k with page := upd (layH lvl ats ls H k).page ak.toNat (page (enc lvl l)) } := by rw [layH_put hka, hkid, HLG.out]
        have HW := Lib.hid hw
        have HNX := Lib.hid hnx
        have HKID := Lib.hid hkid
        clear hE hak hak' hmem hkid hw hnx hpm hro hl hlg hpo hu huv hlq hub
        go_wp2_with fail
        refine HW.out.mono ?_
        rintro en w2 ⟨rfl, h9, hm9⟩
        have H9 := Lib.hid h9
        have HM9 := Lib.hid hm9
        clear h9 hm9 HW
        have HKD9 := Lib.hid (HKD.out.moved HM9.out (fun q hq e => e.2 (.inr (HKF.out q hq))))
        have hal : Below w2.heap.size w2 (w2.alloc (.cells #[.string ⟨#[]⟩, .string ⟨#[]⟩, .int .i64 ak] 117)) := (Below.refl _ w2).alloc (Nat.le_refl _) _
        have HBK := Lib.hid (show Blk _ w2.heap.size #[.string (kidE ak).key, .string (kidE ak).val, .int .i64 (kidE ak).kid] _ from Blk.new w2 #[.string ⟨#[]⟩, .string ⟨#[]⟩, .int .i64 ak] 117)
        have HKD10 := Lib.hid (HKD9.out.below hal)
        have HAL := Lib.hid hal
        have hs12 : w1.heap.size ≤ w2.heap.size := Nat.le_trans HMX.out.size HM9.out.size
        have HS12 := Lib.hid (Nat.le_trans hs12 hal.size)
        have HKL := Lib.hid (show k + 1 = ((kidsOf ats H k).map kidE).length + 1 by rw [kidsOf_len])
        have HKB := Lib.hid (show k + 1 ≤ 1000000 by omega)
        have HS2 := Lib.hid hs12
        clear hal hs12
        go_wp2_with (at_builtin; refine wpList_append_ent rfl _ _ rfl w1.heap.size HS12.out (.slice a6 k c6) ((kidsOf ats H k).map kidE) rfl HKD10.out w2.heap.size rfl (kidE ak) HBK.out (k + 1) HKL.out HKB.out ?_; intro ao5 cap5 w5 ho5 hx5 hy5 hg5 hq5)
        have HO5 := Lib.hid ho5
        have HG5 := Lib.hid hg5
        have HQ5 := Lib.hid hq5
        clear ho5 hg5 hq5
        go_roundw
        case rel =>
          have hsz5 : w2.heap.size ≤ w5.heap.size := Nat.le_trans HAL.out.size HG5.out.size
          have hb1 := HP1.out.below.size
          refine ⟨k + 1, _, _, fun j => F j ∨ (w2.heap.size ≤ j ∧ j < w5.heap.size), by omega, by go_num, rfl, rfl, hx5, hy5, fun j hj => ?_, ?_, ?_, ?_, fun q hq => ?_⟩
          · rcases hj with hj | hj
            · have h1 := HF.out j hj
              have h2 := HM9.out.size
              exact ⟨h1.1, by omega⟩
            · exact ⟨Nat.le_trans HS2.out hj.1, hj.2⟩
          · rw [HNX.out]
            refine ((H9.out.take HAL.out).grown HG5.out (fun q hq => ⟨.inl (.inr (HKF.out q hq)), ?_⟩) (fun j hj => ?_)).more _ (by omega)
            · have := (HF.out q (HKF.out q hq)).1
              omega
            · rcases hj with hj | hj | hj
              · exact .inl (.inl (.inl hj))
              · exact .inl (.inl (.inr hj))
              · by_cases hlt3 : j < (w2.alloc (.cells #[.string ⟨#[]⟩, .string ⟨#[]⟩, .int .i64 ak] 117)).heap.size
                · exact .inl (.inr ⟨hj.1, hlt3⟩)
                · exact .inr ⟨by omega, hj.2⟩
          · exact Moved.grown ((HMX.out.trans (HM9.out.mono (fun j hj => ⟨hj.1, fun e => hj.2 (.inl e)⟩))).trans (Mx.of HAL.out)) HG5.out (fun q hq => .inr (HF.out q (HKF.out q hq)).1)
          · rw [kidsOf_succ, HKID.out]
            exact HO5.out
          · rcases HQ5.out q hq with e | e
            · exact .inl (HKF.out q e)
            · refine .inr ⟨Nat.le_trans HAL.out.size e, ?_⟩
              exact (HO5.out.lt q hq).2
        case measure => simp [intOf]; omega
      · have hle : ¬ (k : Int) < n := by omega
        obtain ⟨a, rest, hf, hkid, hnx⟩ := layH_new (lvl := lvl) (ats := ats) (ls := ls) (H := H) (k := k) (by rw [HAN.out]; omega) (by have := HNF.out; have := HAN.out; omega)
        rw [hlg] at hnx
        have hw := bt_add HPB.out (by omega) hf lvl _ l HU.out HUV.out HPO1.out.ok HPO1.out.pre HPO1.out.few HPO1.out.size
        have HW := Lib.hid hw
        have HNX := Lib.hid hnx
        have HKID := Lib.hid hkid
        clear hf hkid hw hnx hpm hro hl hlg hpo hu huv hlq hub
        go_wp2_with fail
        refine HW.out.mono ?_
        rintro en w2 ⟨rfl, h9, hm9⟩
        have H9 := Lib.hid h9
        have HM9 := Lib.hid hm9
        clear h9 hm9 HW
        have HKD9 := Lib.hid (HKD.out.moved HM9.out (fun q hq e => e.2 (.inr (HKF.out q hq))))
        have hal : Below w2.heap.size w2 (w2.alloc (.cells #[.string ⟨#[]⟩, .string ⟨#[]⟩, .int .i64 (a : Int)] 117)) := (Below.refl _ w2).alloc (Nat.le_refl _) _
        have HBK := Lib.hid (show Blk _ w2.heap.size #[.string (kidE (a : Int)).key, .string (kidE (a : Int)).val, .int .i64 (kidE (a : Int)).kid] _ from Blk.new w2 #[.string ⟨#[]⟩, .string ⟨#[]⟩, .int .i64 (a : Int)] 117)
        have HKD10 := Lib.hid (HKD9.out.below hal)
        have HAL := Lib.hid hal
        have hs12 : w1.heap.size ≤ w2.heap.size := Nat.le_trans HMX.out.size HM9.out.size
        have HS12 := Lib.hid (Nat.le_trans hs12 hal.size)
        have HKL := Lib.hid (show k + 1 = ((kidsOf ats H k).map kidE).length + 1 by rw [kidsOf_len])
        have HKB := Lib.hid (show k + 1 ≤ 1000000 by omega)
        have HS2 := Lib.hid hs12
        clear hal hs12
        go_wp2_with (at_builtin; refine wpList_append_ent rfl _ _ rfl w1.heap.size HS12.out (.slice a6 k c6) ((kidsOf ats H k).map kidE) rfl HKD10.out w2.heap.size rfl (kidE (a : Int)) HBK.out (k + 1) HKL.out HKB.out ?_; intro ao5 cap5 w5 ho5 hx5 hy5 hg5 hq5)
        have HO5 := Lib.hid ho5
        have HG5 := Lib.hid hg5
        have HQ5 := Lib.hid hq5
        clear ho5 hg5 hq5
        go_roundw
        case rel =>
          have hsz5 : w2.heap.size ≤ w5.heap.size := Nat.le_trans HAL.out.size HG5.out.size
          have hb1 := HP1.out.below.size
          refine ⟨k + 1, _, _, fun j => F j ∨ (w2.heap.size ≤ j ∧ j < w5.heap.size), by omega, by go_num, rfl, rfl, hx5, hy5, fun j hj => ?_, ?_, ?_, ?_, fun q hq => ?_⟩
          · rcases hj with hj | hj
            · have h1 := HF.out j hj
              have h2 := HM9.out.size
              exact ⟨h1.1, by omega⟩
            · exact ⟨Nat.le_trans HS2.out hj.1, hj.2⟩
          · rw [HNX.out]
            refine ((H9.out.take HAL.out).grown HG5.out (fun q hq => ⟨.inl (.inr (HKF.out q hq)), ?_⟩) (fun j hj => ?_)).more _ (by omega)
            · have := (HF.out q (HKF.out q hq)).1
              omega
            · rcases hj with hj | hj | hj
              · exact .inl (.inl (.inl hj))
              · exact .inl (.inl (.inr hj))
              · by_cases hlt3 : j < (w2.alloc (.cells #[.string ⟨#[]⟩, .string ⟨#[]⟩, .int .i64 (a : Int)] 117)).heap.size
                · exact .inl (.inr ⟨hj.1, hlt3⟩)
                · exact .inr ⟨by omega, hj.2⟩
          · exact Moved.grown ((HMX.out.trans (HM9.out.mono (fun j hj => ⟨hj.1, fun e => hj.2 (.inl e)⟩))).trans (Mx.of HAL.out)) HG5.out (fun q hq => .inr (HF.out q (HKF.out q hq)).1)
          · rw [kidsOf_succ, HKID.out]
            exact HO5.out
          · rcases HQ5.out q hq with e | e
            · exact .inl (HKF.out q e)
            · refine .inr ⟨Nat.le_trans HAL.out.size e, ?_⟩
              exact (HO5.out.lt q hq).2
        case measure => simp [intOf]; omega
    · obtain rfl : nl = k := by omega
      have hnn : n ≤ nl := by rw [HNL.out, HN.out]; exact HGE.out ls HLS.out
      have hnn' : (n : Int) ≤ nl := by omega
      by_cases heq : nl = n
      · subst heq
        go_wp2_with fail
        all_goals
          refine wp_loop_rounds 1 ?_
          rw [rounds_succ]
          go_wp2_with fail
          rw [Exit.noGoto_ret]
          go_ret2
          have hb1 := HBW1.out.size
          refine ⟨.slice a6 nl c6, ls, fun j => (w.heap.size ≤ j ∧ j < w1.heap.size) ∨ F j, c + 2 * nl, HLS.out, rfl, by omega, fun j hj => ?_, ?_, ?_, ?_, fun q hq => .inr (HKF.out q hq)⟩
          · rcases hj with hj | hj
            · have := HMX.out.size
              exact ⟨hj.1, by omega⟩
            · have := HF.out j hj
              exact ⟨by omega, this.2⟩
          · have hpb := HPB.out
            rw [HXE.out, HNL.out] at hpb
            rw [HNL.out]
            exact hpb.less (fun j hj => by rcases hj with hj | hj | hj; exact .inl (.inl hj); exact .inl (.inr hj); exact .inr hj)
          · have hm := HMX.out
            rw [HXE.out] at hm
            exact (Mx.of HBW1.out).trans (hm.mono (fun j hj => ⟨hj.1, fun e => hj.2 (.inl e)⟩))
          · rw [← HNL.out]
            exact HKD.out.mono hb1
      · have hlt2 : (n : Int) < nl := by omega
        go_wp2_with fail
        all_goals
          refine wp_loop_rounds 1 ?_
          rw [rounds_succ]
          go_wp2_with fail
          rw [Exit.noGoto_ret]
          go_ret2
          have hb1 := HBW1.out.size
          refine ⟨.slice a6 nl c6, ls, fun j => (w.heap.size ≤ j ∧ j < w1.heap.size) ∨ F j, c + 2 * nl, HLS.out, rfl, by omega, fun j hj => ?_, ?_, ?_, ?_, fun q hq => .inr (HKF.out q hq)⟩
          · rcases hj with hj | hj
            · have := HMX.out.size
              exact ⟨hj.1, by omega⟩
            · have := HF.out j hj
              exact ⟨by omega, this.2⟩
          · have hpb := HPB.out
            rw [HXE.out, HNL.out] at hpb
            rw [HNL.out]
            exact hpb.less (fun j hj => by rcases hj with hj | hj | hj; exact .inl (.inl hj); exact .inl (.inr hj); exact .inr hj)
          · have hm := HMX.out
            rw [HXE.out] at hm
            exact (Mx.of HBW1.out).trans (hm.mono (fun j hj => ⟨hj.1, fun e => hj.2 (.inl e)⟩))
          · rw [← HNL.out]
            exact HKD.out.mono hb1
end Go.Proofs.Ytcnfnpccbnnplaa
