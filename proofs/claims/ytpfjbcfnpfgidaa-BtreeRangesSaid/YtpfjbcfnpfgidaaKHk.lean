/- Hk -/
import Derived.Test.YtpfjbcfnpfgidaaKHj
namespace Go.Proofs.Ytpfjbcfnpfgidaa
open Go.RowKit Go.Maps
set_option maxRecDepth 100000
set_option linter.unusedVariables false
/-- New blocks all, writes to one's own: the pager is beside them. -/
theorem Pb.wide {w0 w w' : World} {X P : Nat → Prop} {r p N M c : Nat} {G : Lg} {H : Option Lg} (h : Pb w0 w X r p N M c G H) (hm : Moved P w w') (hP : ∀ k, P k → k < w.heap.size → X k ∧ w0.heap.size ≤ k) :
 Pb w0 w' (fun k => X k ∨ (w.heap.size ≤ k ∧ k < w'.heap.size)) r p N M c G H := by
 obtain ⟨A, K, T, ⟨h1, h2, P', Q, h3, h4, h5, h6⟩, k⟩ := h
 have hs := hm.size
 have h1s := h1.size
 refine ⟨A, K, T, ⟨h1.trans (hm.below (fun k hk => by
  rcases Nat.lt_or_ge k w.heap.size with hlt | hge
  ·exact (hP k hk hlt).2
  ·omega) h1.size), fun k hk => ?_, P', Q, h3.moved hm (fun k hk e => (h5 k hk).2.2 (hP k e (h5 k hk).2.1).1), h4.moved hm (fun k hk e => (h6 k hk).2.2.1 (hP k e (h6 k hk).2.1).1), fun k hk => ?_, fun k hk => ?_⟩, k⟩
 ·rcases hk with e | e
  ·exact Nat.lt_of_lt_of_le (h2 k e) hs
  ·exact e.2
 ·have := h5 k hk
  exact ⟨this.1, by omega, fun e => by rcases e with e | e; exact this.2.2 e; omega⟩
 ·have := h6 k hk
  exact ⟨this.1, by omega, fun e => by rcases e with e | e; exact this.2.2.1 e; omega, this.2.2.2⟩
set_option maxHeartbeats 8000000 in
theorem walk_cnt {w0 w : World} {X : Nat → Prop} {r p N M c : Nat} {G : Lg} {H : Option Lg} (h : Pb w0 w X r p N M c G H) {R : Nat} {t : BT Ent R} (hs : Stored N (H.getD G) t) (hr : BT.Root t) (hso : t.flat.Pairwise rK) (hR : R ≤ 10) (hpg : t.pages.length ≤ 2000) (key : ByteArray) (k0 : Value)
 (I : List Ent → (Nat → Prop) → World → Prop) (Fin : (Nat → Prop) → World → Prop) (hI : ∀ l D P a b, I l D a → Moved P a b → (∀ q, D q → ¬ P q) → I l D b) (hF : ∀ D P a b, Fin D a → Moved P a b → (∀ q, D q → ¬ P q) → Fin D b) (hend : ∀ D a, I [] D a → Fin D a)
 (hsee : ∀ x l D a, I (x :: l) D a → Calls Try.prog 31 #[x.agg, k0] a fun e b => ∃ D' : Nat → Prop, (∀ q, D' q → D q ∨ (a.heap.size ≤ q ∧ q < b.heap.size)) ∧ Moved D a b ∧ ((e = .returned (.bool true) ∧ I l D' b) ∨ (e = .returned (.bool false) ∧ Fin D' b)))
 (D0 : Nat → Prop) (hI0 : I (t.flat.filter (gK key)) D0 w) (hD0 : ∀ q, D0 q → X q ∧ w0.heap.size ≤ q ∧ q < w.heap.size) :
 Calls Try.prog 29 #[.pointer (some ⟨p, 0, none⟩), .int .i64 (t.page : Int), .string key, .func (.func 31) #[] #[k0]] w fun e w' => e = .returned (.int .i64 0) ∧ ∃ D' : Nat → Prop, (∀ q, D' q → D0 q ∨ w.heap.size ≤ q) ∧ Fin D' w' ∧ Moved D0 w w' := by
 have HWAY := Lib.hid (way_any h hs hr hso key (by omega))
 obtain ⟨pg, hpg'⟩ : ∃ pg : Int, pg = (t.page : Int) := ⟨_, rfl⟩
 rw [← hpg'] at HWAY ⊢
 have HP := Lib.hid h
 have HS := Lib.hid hs
 have HRT := Lib.hid hr
 have HSO := Lib.hid hso
 have HI := Lib.hid hI
 have HF := Lib.hid hF
 have HEND := Lib.hid hend
 have HSEE := Lib.hid hsee
 have HI0 := Lib.hid hI0
 have HD0 := Lib.hid hD0
 clear h hs hr hso hI hF hend hsee hI0 hD0 hpg'
 go_enter Try.func29, Try.ntmps29
 go_wp2_with fail
 go_step3
 go_wp2_with fail
 refine HWAY.out.mono ?_
 rintro en w1 ⟨P, f, m, ss, lv, rfl, h1, h2, h3, h4, h5, h6⟩
 have hst : Sts w1 (fun q => w.heap.size ≤ q ∧ q < w1.heap.size ∧ ¬ D0 q) lv ss := h5.more (fun q hq _ => ⟨hq.1, hq.2, fun e => by have := (HD0.out q e).2.2; omega⟩)
 have hcut : f.flat.drop m ++ P.post = t.flat.filter (gK key) := by
  have hc := (BT.root_cut (gK_up key) (le_below key) (not_le key) (le_down key) (by rw [h1]; exact HSO.out) (by rw [h1]; exact HRT.out) h2 (place_cut (leaf_sorted (by rw [h1]; exact HSO.out)) h3)).1
  have he := hc.eq.2
  rw [he, ← h1, P.flat]
  congr 1
  rw [List.append_assoc, ← List.append_assoc (f.flat.take m), List.take_append_drop]
 have hi1 : I (f.flat.drop m ++ P.post) D0 w1 := by
  rw [hcut]
  exact HI.out _ _ _ _ _ HI0.out (Moved.of_below h6 (fun _ => False)) (fun _ _ h => h)
 have HST := Lib.hid hst
 have HI1 := Lib.hid hi1
 have HB1 := Lib.hid h6
 have HW := Lib.hid h4
 have HPL := Lib.hid (And.intro h1 h3.1)
 clear h1 h2 h3 h4 h5 h6 hst hcut hi1 HWAY
 go_wp2_with fail
 go_step3
 go_wp2_with fail
 go_loopw [9, 10, 11, 12, 14, 46] (fun lv e left _ _ _ wr => ∃ (D : Nat → Prop) (v : Nat), e = .int .i64 0 ∧ left = .int .i64 (3000 - (v : Int)) ∧ v ≤ 2000 ∧ (∀ q, D q → D0 q ∨ (w.heap.size ≤ q ∧ q < wr.heap.size)) ∧ Moved D0 w wr ∧
  ((lv = .slice none 0 0 ∧ Fin D wr) ∨ ∃ (path : BT.Path Ent 0 R) (f : BT Ent 0) (m : Nat) (full : List Stp) (ao : Option Addr) (an ac : Nat), lv = .slice ao an ac ∧ an = full.length ∧ an ≤ ac ∧ ac ≤ 9223372036854775807 ∧ 0 < an ∧ path.plug f = t ∧ v ≤ ahead path ∧ m ≤ f.flat.length ∧ Way path f m full ∧ Sts wr (fun q => w.heap.size ≤ q ∧ q < wr.heap.size ∧ ¬ D q) lv full ∧ I (f.flat.drop m ++ path.post) D wr)) (fun _ _ left _ _ _ _ => (intOf left).toNat)
 case atStart =>
  obtain ⟨ao, ac, e1, e2, e3⟩ := HST.out.form
  refine ⟨D0, 0, rfl, by go_num, by omega, fun q hq => .inl hq, Moved.of_below HB1.out _, .inr ⟨P, f, m, ss, ao, ss.length, ac, e1, rfl, e2, e3, ?_, HPL.out.1, Nat.zero_le _, HPL.out.2, HW.out, HST.out, HI1.out⟩⟩
  obtain ⟨⟨ss', s, rfl, -⟩⟩ := HW.out
  rw [List.length_append]; simp
 case round =>
  obtain ⟨D, v, rfl, rfl, hv, hD, hmv, hcase⟩ := hrel
  rcases hcase with ⟨rfl, hfin⟩ | ⟨path, f, m, full, ao, an, ac, rfl, han, hac1, hac2, han0, hplug, hva, hml, hway, hst, hi⟩
  ·have HX := Lib.hid (And.intro hD (And.intro hmv hfin))
   clear hD hmv hfin
   go_wp2_with fail
   repeat rw [Exit.noGoto_ret]
   go_ret
   exact ⟨rfl, D, fun q hq => (HX.out.1 q hq).imp id (fun e => e.1), HX.out.2.2, HX.out.2.1⟩
  ·obtain ⟨⟨ss', s, hfull, hsa, hsl, hse, hsi, how⟩⟩ := id hway
   obtain ⟨q, hq⟩ : ∃ q, q = ss'.length := ⟨_, rfl⟩
   have hanq : an = q + 1 := by rw [han, hfull, hq, List.length_append]; rfl
   have hql : q < full.length := by omega
   have hlast : full[q]'hql = s := by simp [hfull, hq]
   obtain ⟨g, cp, hsg, hg, hgT, -, -, -, d0, d1, d2, d3⟩ := hst.at q hql
   obtain ⟨hen, hob⟩ := hst.ens q hql
   simp only [Value.slice.injEq] at hsg
   obtain ⟨rfl, -, rfl⟩ := hsg
   rw [hlast] at d0 d1 d2 d3 hen hob
   rw [hse] at hen
   rw [hsi] at d3
   rw [hsl] at d1
   obtain ⟨n1, hn1⟩ : ∃ n1, n1 = f.flat.length := ⟨_, rfl⟩
   obtain ⟨eo, ec, hsv, hec1, hec2⟩ := hen.form
   rw [← hn1] at hsv hec1 hml
   rw [hsv] at d2 hen hob
   obtain ⟨sa, hsa'⟩ : ∃ sa, sa = s.at' := ⟨_, rfl⟩
   rw [← hsa'] at d0
   have hfew : n1 ≤ 255 := by
    have h2 := HS.out
    rw [← hplug] at h2
    have h3 := (Stored.split path f h2).2.node.few
    rw [ents_flat] at h3
    omega
   have i1 : (an : Int) - 1 = q := by omega
   have i2 : (q : Int) < an := by omega
   have i3 : ((3000 : Int) - v == 0) = false := by simp; omega
   have i4 : (0 : Int) < an := by omega
   have i5 : (m : Int) ≤ n1 := by omega
   have i6 : (n1 : Int) ≤ ec := by omega
   have hal : Below wr.heap.size wr (wr.alloc (.cells #[.int .i64 sa, .int .i64 0, .slice eo n1 ec, .int .i64 m] 64)) := (Below.refl _ wr).alloc (Nat.le_refl _) _
   obtain ⟨wl, hwl⟩ : ∃ wl, wl = wr.alloc (.cells #[.int .i64 sa, .int .i64 0, .slice eo n1 ec, .int .i64 m] 64) := ⟨_, rfl⟩
   rw [← hwl] at hal
   have hsTD : ∀ q, (w.heap.size ≤ q ∧ q < wr.heap.size ∧ ¬ D q) → ¬ D q := fun q h => h.2.2
   have HAL := Lib.hid hal
   have HWL := Lib.hid hwl
   have HEN := Lib.hid (Ens.below hen hal)
   have HOB := Lib.hid hob
   have HN1 := Lib.hid hn1
   have HST2 := Lib.hid (hst.below hal)
   have HII := Lib.hid (HI.out _ _ _ _ _ hi (Moved.of_below hal (fun _ => False)) (fun _ _ h => h))
   have HD := Lib.hid (And.intro hD hmv)
   have HWY := Lib.hid (And.intro hway (And.intro hplug (And.intro hva (And.intro hml hgT))))
   have HAN := Lib.hid han
   obtain ⟨wo, rfl⟩ : ∃ wo, wo = wr := ⟨_, rfl⟩
   clear hst hen hob hn1 hsv hi hD hmv hway hplug hva hgT hal hwl hfull hsa hsl hse hsi how hq hanq hql hlast hsa' han hsTD
   by_cases hmn : m < n1
   ·have i7 : ¬ ec = m := by omega
    obtain ⟨rm, hrm⟩ : ∃ rm, rm = n1 - m := ⟨_, rfl⟩
    have i8 : (n1 : Int) - m = rm := by omega
    have i9 : n1 - m = rm := by omega
    have HRM := Lib.hid hrm
    clear hrm
    obtain ⟨b, off, cpx, hslx, -, -, hbs, hce⟩ := HEN.out.at (by have := HN1.out; omega)
    rw [← HN1.out] at hslx
    simp only [Value.slice.injEq, true_and] at hslx
    obtain ⟨rfl, rfl⟩ := hslx
    have HCE := Lib.hid (And.intro hbs hce)
    clear hbs hce
    go_wp2_with fail
    rw [← HWL.out]
    go_loopw [14, 46] (fun _ i wr => ∃ (k : Nat) (Dk : Nat → Prop), k ≤ rm ∧ i = .int .i64 k ∧ (∀ q, Dk q → D q ∨ (wl.heap.size ≤ q ∧ q < wr.heap.size)) ∧ Moved D wl wr ∧ I ((f.flat.drop m).drop k ++ path.post) Dk wr) (fun _ i _ => rm - (intOf i).toNat)
    case atStart => exact ⟨0, D, Nat.zero_le _, rfl, fun q hq => .inl hq, Moved.refl _ _, HII.out⟩
    case round =>
     obtain ⟨k, Dk, hk, rfl, hDk, hmk, hik⟩ := hrel
     have HK := Lib.hid (And.intro hDk (And.intro hmk hik))
     clear hDk hmk hik
     by_cases hlt : k < rm
     ·have hlt' : (k : Int) < rm := by omega
      have hkl : m + k < f.flat.length := by have := HN1.out; have := HRM.out; omega
      obtain ⟨e, he⟩ : ∃ e, e = f.flat[m + k]'hkl := ⟨_, rfl⟩
      have hdrop : (f.flat.drop m).drop k = e :: (f.flat.drop m).drop (k + 1) := by
       rw [List.drop_drop, List.drop_drop, List.drop_eq_getElem_cons hkl, he]; rfl
      obtain ⟨c0, c1, c2⟩ := HCE.out.2 (m + k) hkl
      rw [← he] at c0 c1 c2
      have hbD : ¬ D b := ((HOB.out b rfl).1).2.2
      have hbk := HK.out.2.1.block b HCE.out.1 hbD
      have hoff : off + (m + k) * 3 = off + m * 3 + k * 3 := by omega
      rw [hoff] at c0 c1 c2
      have e0 := (World.cell?_of_block (a := ⟨b, off + m * 3 + k * 3, none⟩) hbk).trans c0
      have e1 := (World.cell?_of_block (a := ⟨b, off + m * 3 + k * 3 + 1, none⟩) hbk).trans c1
      have e2 := (World.cell?_of_block (a := ⟨b, off + m * 3 + k * 3 + 2, none⟩) hbk).trans c2
      have hi2 := HK.out.2.2
      rw [hdrop] at hi2
      have hal2 : Below wr.heap.size wr (wr.alloc (.cells #[.string e.key, .string e.val, .int .i64 e.kid] 68)) := (Below.refl _ wr).alloc (Nat.le_refl _) _
      have hsee := HSEE.out e _ Dk _ (HI.out _ _ _ _ _ hi2 (Moved.of_below hal2 (fun _ => False)) (fun _ _ h => h))
      unfold Ent.agg at hsee
      have HSE := Lib.hid hsee
      have HAL2 := Lib.hid hal2
      clear he hdrop c0 c1 c2 hbk hoff hi2 hal2 hsee
      go_wp2_with fail
      refine HSE.out.mono ?_
      rintro en w3 ⟨Dn, hDn, hmn3, hcs⟩
      have hDn2 : ∀ q, Dn q → D q ∨ (wl.heap.size ≤ q ∧ q < w3.heap.size) := fun q hq => by
       have h3 := hmn3.size
       have h4 := HAL2.out.size
       have h5 := HK.out.2.1.size
       have h6 := HAL.out.size
       rcases hDn q hq with h | h
       ·exact (HK.out.1 q h).imp id (fun e => ⟨e.1, by omega⟩)
       ·exact .inr ⟨by omega, h.2⟩
      have hmn4 : Moved D wl w3 := (HK.out.2.1.trans (Moved.of_below HAL2.out (fun _ => False)) (fun _ h => h.elim)).trans hmn3 (fun q hq => (HK.out.1 q hq).imp id (fun e => e.1))
      have HN := Lib.hid (And.intro hDn2 hmn4)
      clear hDn hmn3 hDn2 hmn4
      rcases hcs with ⟨rfl, hi3⟩ | ⟨rfl, hf3⟩
      ·have HI3 := Lib.hid hi3
       clear hi3
       go_wp2_with fail
       go_roundw
       case rel => exact ⟨k + 1, Dn, by omega, by go_num, HN.out.1, HN.out.2, HI3.out⟩
       case measure => simp [intOf]; omega
      ·have HF3 := Lib.hid hf3
       clear hf3
       go_wp2_with fail
       repeat rw [Exit.noGoto_ret]
       go_ret
       have h6 := HAL.out.size
       have h7 := HD.out.2.size
       refine ⟨rfl, Dn, fun q hq => ?_, HF3.out, (HD.out.2.trans (Moved.of_below HAL.out (fun _ => False)) (fun _ h => h.elim)).trans HN.out.2 (fun q hq => (HD.out.1 q hq).imp id (fun e => e.1))⟩
       rcases HN.out.1 q hq with h | h
       ·exact (HD.out.1 q h).imp id (fun e => e.1)
       ·exact .inr (by omega)
     ·obtain rfl : rm = k := by omega
      have hnil : (f.flat.drop m).drop rm = [] := List.drop_eq_nil_of_le (by rw [List.length_drop, ← HN1.out]; omega)
      have hik := HK.out.2.2
      rw [hnil, List.nil_append] at hik
      have h6 := HAL.out.size
      have h7 := HD.out.2.size
      have hDk2 : ∀ q, Dk q → D0 q ∨ (w.heap.size ≤ q ∧ q < wr.heap.size) := fun q hq => by
       have h8 := (HK.out.2.1).size
       rcases (HK.out.1) q hq with h | h
       ·exact (HD.out.1 q h).imp id (fun e => ⟨e.1, by omega⟩)
       ·exact .inr ⟨by omega, by omega⟩
      have hmw : Moved D0 w wr := (HD.out.2.trans (Moved.of_below HAL.out (fun _ => False)) (fun _ h => h.elim)).trans (HK.out.2.1) (fun q hq => (HD.out.1 q hq).imp id (fun e => e.1))
      have hpb := HP.out.wide hmw (fun k hk hlt => ⟨(HD0.out k hk).1, (HD0.out k hk).2.1⟩)
      have hst2 : Sts wr (fun q => w.heap.size ≤ q ∧ q < wr.heap.size ∧ ¬ Dk q) (.slice (some ⟨g, 0, none⟩) an ac) full := (HST2.out.moved (HK.out.2.1) (fun q hq _ => hq.2.2)).more (fun q hq hlt => ⟨hq.1, by have h8 := (HK.out.2.1).size; omega, fun e => by
       rcases (HK.out.1) q e with h | h
       ·exact hq.2.2 h
       ·omega⟩)
      have hw0 := HP.out.below.size
      obtain ⟨hway, hplug, hva, hml, hgT⟩ := HWY.out
      have how := onward_any hpb (path := path) (f := f) (by rw [hplug]; exact HS.out) (by rw [hplug]; exact HRT.out) (by rw [hplug]; exact HSO.out) _ full hst2 (fun q hq => ⟨.inr ⟨hq.1, hq.2.1⟩, by omega, hq.2.1⟩) hway (by omega)
      have HON := Lib.hid how
      have HPO := Lib.hid (show I path.post Dk wr from hik)
      have HDK := Lib.hid (And.intro hDk2 hmw)
      have HG := Lib.hid (show ¬ Dk g from fun e => by
       rcases (HK.out.1) g e with h | h
       ·exact hgT.2.2 h
       ·have := hgT.2.1; omega)
      clear hDk2 hmw hpb hst2 hway hplug hva hml hgT how
      go_wp2_with fail
      refine HON.out.mono ?_
      rintro en w5 ⟨lv5, rfl, hmv5, hcs5⟩
      have hmv6 : Moved D0 w w5 := HDK.out.2.trans hmv5 (fun q hq => by
       have h1 : g = q := Option.some.inj hq
       subst h1
       exact .inr HWY.out.2.2.2.2.1)
      have hDk6 : ∀ q, Dk q → D0 q ∨ (w.heap.size ≤ q ∧ q < w5.heap.size) := fun q hq => (HDK.out.1 q hq).imp id (fun e => ⟨e.1, Nat.lt_of_lt_of_le e.2 hmv5.size⟩)
      have hip : I path.post Dk w5 := HI.out _ _ _ _ _ HPO.out hmv5 (fun q hq e => by
       have h1 : g = q := Option.some.inj e
       subst h1
       exact HG.out hq)
      have HM6 := Lib.hid (And.intro hDk6 (And.intro hmv6 hip))
      have HM5 := Lib.hid hmv5
      clear hmv5 hmv6 hDk6 hip HON
      rcases hcs5 with ⟨rfl, hpost⟩ | ⟨path', f', full', hp1, hp2, hp3, hp4, hp5, hp6⟩
      ·have HPS := Lib.hid hpost
       clear hpost
       go_wp2_with fail
       go_roundw
       case rel =>
        have hva := HWY.out.2.2.1
        have hal1 := ahead_le path f
        rw [HWY.out.2.1] at hal1
        have hfp : f.pages.length = 1 := rfl
        exact ⟨Dk, v + 1, rfl, by go_num, by omega, HM6.out.1, HM6.out.2.1, .inl ⟨rfl, HEND.out _ _ (by rw [← HPS.out]; exact HM6.out.2.2)⟩⟩
       case measure => simp [intOf]; omega
      ·obtain ⟨ao', ac', rfl, hx1, hx2⟩ := hp6.form
       obtain ⟨an', han'⟩ : ∃ an', an' = full'.length := ⟨_, rfl⟩
       rw [← han'] at hx1 ⊢
       have hpos : 0 < an' := by
        obtain ⟨⟨ss2, s2, rfl, -⟩⟩ := hp5
        rw [han', List.length_append]; simp
       have HNX := Lib.hid (And.intro hp1 (And.intro hp2 (And.intro hp4 (And.intro hp5 (And.intro hp6 han')))))
       clear hp1 hp2 hp3 hp4 hp5 hp6 han'
       go_wp2_with fail
       go_roundw
       case rel =>
        obtain ⟨hp1, hp2, hp4, hp5, hp6, han'⟩ := HNX.out
        have hva := HWY.out.2.2.1
        have hpl : path'.plug f' = t := hp1.trans HWY.out.2.1
        have hal1 := ahead_le path' f'
        rw [hpl] at hal1
        have hfp : f'.pages.length = 1 := rfl
        refine ⟨Dk, v + 1, rfl, by go_num, by omega, HM6.out.1, HM6.out.2.1, .inr ⟨path', f', 0, full', ao', an', ac', rfl, han', hx1, hx2, hpos, hpl, by omega, Nat.zero_le _, hp5, ?_, ?_⟩⟩
        ·rw [han']
         refine hp6.more (fun q hq hlt => ?_)
         rcases hq with hq | hq
         ·exact ⟨hq.1, hlt, hq.2.2⟩
         ·refine ⟨by have := HDK.out.2.size; omega, hlt, fun e => ?_⟩
          rcases HDK.out.1 q e with h | h
          ·have := (HD0.out q h).2.2; have := HDK.out.2.size; omega
          ·omega
        ·rw [List.drop_zero, hp2]
         exact HM6.out.2.2
       case measure => simp [intOf]; omega
   ·have hmn2 : m = n1 := by omega
    have hik := HII.out
    have hnil : f.flat.drop m = [] := List.drop_eq_nil_of_le (by rw [← HN1.out]; omega)
    rw [hnil, List.nil_append] at hik
    have HIK := Lib.hid hik
    subst hmn2
    clear hik hnil
    by_cases hem : ec = m
    ·subst hem
     go_wp2_with fail
     rw [← HWL.out]
     refine wp_loop_rounds 1 ?_
     rw [rounds_succ]
     have h6 := HAL.out.size
     have h7 := HD.out.2.size
     have hDk2 : ∀ q, D q → D0 q ∨ (w.heap.size ≤ q ∧ q < wl.heap.size) := fun q hq => by
      have h8 := (Moved.refl D wl).size
      rcases (fun q (hq : D q) => (Or.inl hq : D q ∨ (wl.heap.size ≤ q ∧ q < wl.heap.size))) q hq with h | h
      ·exact (HD.out.1 q h).imp id (fun e => ⟨e.1, by omega⟩)
      ·exact .inr ⟨by omega, by omega⟩
     have hmw : Moved D0 w wl := (HD.out.2.trans (Moved.of_below HAL.out (fun _ => False)) (fun _ h => h.elim)).trans (Moved.refl D wl) (fun q hq => (HD.out.1 q hq).imp id (fun e => e.1))
     have hpb := HP.out.wide hmw (fun k hk hlt => ⟨(HD0.out k hk).1, (HD0.out k hk).2.1⟩)
     have hst2 : Sts wl (fun q => w.heap.size ≤ q ∧ q < wl.heap.size ∧ ¬ D q) (.slice (some ⟨g, 0, none⟩) an ac) full := (HST2.out.moved (Moved.refl D wl) (fun q hq _ => hq.2.2)).more (fun q hq hlt => ⟨hq.1, by have h8 := (Moved.refl D wl).size; omega, fun e => by
      rcases (fun q (hq : D q) => (Or.inl hq : D q ∨ (wl.heap.size ≤ q ∧ q < wl.heap.size))) q e with h | h
      ·exact hq.2.2 h
      ·omega⟩)
     have hw0 := HP.out.below.size
     obtain ⟨hway, hplug, hva, hml, hgT⟩ := HWY.out
     have how := onward_any hpb (path := path) (f := f) (by rw [hplug]; exact HS.out) (by rw [hplug]; exact HRT.out) (by rw [hplug]; exact HSO.out) _ full hst2 (fun q hq => ⟨.inr ⟨hq.1, hq.2.1⟩, by omega, hq.2.1⟩) hway (by omega)
     have HON := Lib.hid how
     have HPO := Lib.hid (show I path.post D wl from HIK.out)
     have HDK := Lib.hid (And.intro hDk2 hmw)
     have HG := Lib.hid (show ¬ D g from fun e => by
      rcases (fun q (hq : D q) => (Or.inl hq : D q ∨ (wl.heap.size ≤ q ∧ q < wl.heap.size))) g e with h | h
      ·exact hgT.2.2 h
      ·have := hgT.2.1; omega)
     clear hDk2 hmw hpb hst2 hway hplug hva hml hgT how
     go_wp2_with fail
     refine HON.out.mono ?_
     rintro en w5 ⟨lv5, rfl, hmv5, hcs5⟩
     have hmv6 : Moved D0 w w5 := HDK.out.2.trans hmv5 (fun q hq => by
      have h1 : g = q := Option.some.inj hq
      subst h1
      exact .inr HWY.out.2.2.2.2.1)
     have hDk6 : ∀ q, D q → D0 q ∨ (w.heap.size ≤ q ∧ q < w5.heap.size) := fun q hq => (HDK.out.1 q hq).imp id (fun e => ⟨e.1, Nat.lt_of_lt_of_le e.2 hmv5.size⟩)
     have hip : I path.post D w5 := HI.out _ _ _ _ _ HPO.out hmv5 (fun q hq e => by
      have h1 : g = q := Option.some.inj e
      subst h1
      exact HG.out hq)
     have HM6 := Lib.hid (And.intro hDk6 (And.intro hmv6 hip))
     have HM5 := Lib.hid hmv5
     clear hmv5 hmv6 hDk6 hip HON
     rcases hcs5 with ⟨rfl, hpost⟩ | ⟨path', f', full', hp1, hp2, hp3, hp4, hp5, hp6⟩
     ·have HPS := Lib.hid hpost
      clear hpost
      go_wp2_with fail
      go_roundw
      case rel =>
       have hva := HWY.out.2.2.1
       have hal1 := ahead_le path f
       rw [HWY.out.2.1] at hal1
       have hfp : f.pages.length = 1 := rfl
       exact ⟨D, v + 1, rfl, by go_num, by omega, HM6.out.1, HM6.out.2.1, .inl ⟨rfl, HEND.out _ _ (by rw [← HPS.out]; exact HM6.out.2.2)⟩⟩
      case measure => simp [intOf]; omega
     ·obtain ⟨ao', ac', rfl, hx1, hx2⟩ := hp6.form
      obtain ⟨an', han'⟩ : ∃ an', an' = full'.length := ⟨_, rfl⟩
      rw [← han'] at hx1 ⊢
      have hpos : 0 < an' := by
       obtain ⟨⟨ss2, s2, rfl, -⟩⟩ := hp5
       rw [han', List.length_append]; simp
      have HNX := Lib.hid (And.intro hp1 (And.intro hp2 (And.intro hp4 (And.intro hp5 (And.intro hp6 han')))))
      clear hp1 hp2 hp3 hp4 hp5 hp6 han'
      go_wp2_with fail
      go_roundw
      case rel =>
       obtain ⟨hp1, hp2, hp4, hp5, hp6, han'⟩ := HNX.out
       have hva := HWY.out.2.2.1
       have hpl : path'.plug f' = t := hp1.trans HWY.out.2.1
       have hal1 := ahead_le path' f'
       rw [hpl] at hal1
       have hfp : f'.pages.length = 1 := rfl
       refine ⟨D, v + 1, rfl, by go_num, by omega, HM6.out.1, HM6.out.2.1, .inr ⟨path', f', 0, full', ao', an', ac', rfl, han', hx1, hx2, hpos, hpl, by omega, Nat.zero_le _, hp5, ?_, ?_⟩⟩
       ·rw [han']
        refine hp6.more (fun q hq hlt => ?_)
        rcases hq with hq | hq
        ·exact ⟨hq.1, hlt, hq.2.2⟩
        ·refine ⟨by have := HDK.out.2.size; omega, hlt, fun e => ?_⟩
         rcases HDK.out.1 q e with h | h
         ·have := (HD0.out q h).2.2; have := HDK.out.2.size; omega
         ·omega
       ·rw [List.drop_zero, hp2]
        exact HM6.out.2.2
      case measure => simp [intOf]; omega
    ·have i7 : ¬ ec = m := hem
     go_wp2_with fail
     rw [← HWL.out]
     refine wp_loop_rounds 1 ?_
     rw [rounds_succ]
     have h6 := HAL.out.size
     have h7 := HD.out.2.size
     have hDk2 : ∀ q, D q → D0 q ∨ (w.heap.size ≤ q ∧ q < wl.heap.size) := fun q hq => by
      have h8 := (Moved.refl D wl).size
      rcases (fun q (hq : D q) => (Or.inl hq : D q ∨ (wl.heap.size ≤ q ∧ q < wl.heap.size))) q hq with h | h
      ·exact (HD.out.1 q h).imp id (fun e => ⟨e.1, by omega⟩)
      ·exact .inr ⟨by omega, by omega⟩
     have hmw : Moved D0 w wl := (HD.out.2.trans (Moved.of_below HAL.out (fun _ => False)) (fun _ h => h.elim)).trans (Moved.refl D wl) (fun q hq => (HD.out.1 q hq).imp id (fun e => e.1))
     have hpb := HP.out.wide hmw (fun k hk hlt => ⟨(HD0.out k hk).1, (HD0.out k hk).2.1⟩)
     have hst2 : Sts wl (fun q => w.heap.size ≤ q ∧ q < wl.heap.size ∧ ¬ D q) (.slice (some ⟨g, 0, none⟩) an ac) full := (HST2.out.moved (Moved.refl D wl) (fun q hq _ => hq.2.2)).more (fun q hq hlt => ⟨hq.1, by have h8 := (Moved.refl D wl).size; omega, fun e => by
      rcases (fun q (hq : D q) => (Or.inl hq : D q ∨ (wl.heap.size ≤ q ∧ q < wl.heap.size))) q e with h | h
      ·exact hq.2.2 h
      ·omega⟩)
     have hw0 := HP.out.below.size
     obtain ⟨hway, hplug, hva, hml, hgT⟩ := HWY.out
     have how := onward_any hpb (path := path) (f := f) (by rw [hplug]; exact HS.out) (by rw [hplug]; exact HRT.out) (by rw [hplug]; exact HSO.out) _ full hst2 (fun q hq => ⟨.inr ⟨hq.1, hq.2.1⟩, by omega, hq.2.1⟩) hway (by omega)
     have HON := Lib.hid how
     have HPO := Lib.hid (show I path.post D wl from HIK.out)
     have HDK := Lib.hid (And.intro hDk2 hmw)
     have HG := Lib.hid (show ¬ D g from fun e => by
      rcases (fun q (hq : D q) => (Or.inl hq : D q ∨ (wl.heap.size ≤ q ∧ q < wl.heap.size))) g e with h | h
      ·exact hgT.2.2 h
      ·have := hgT.2.1; omega)
     clear hDk2 hmw hpb hst2 hway hplug hva hml hgT how
     go_wp2_with fail
     refine HON.out.mono ?_
     rintro en w5 ⟨lv5, rfl, hmv5, hcs5⟩
     have hmv6 : Moved D0 w w5 := HDK.out.2.trans hmv5 (fun q hq => by
      have h1 : g = q := Option.some.inj hq
      subst h1
      exact .inr HWY.out.2.2.2.2.1)
     have hDk6 : ∀ q, D q → D0 q ∨ (w.heap.size ≤ q ∧ q < w5.heap.size) := fun q hq => (HDK.out.1 q hq).imp id (fun e => ⟨e.1, Nat.lt_of_lt_of_le e.2 hmv5.size⟩)
     have hip : I path.post D w5 := HI.out _ _ _ _ _ HPO.out hmv5 (fun q hq e => by
      have h1 : g = q := Option.some.inj e
      subst h1
      exact HG.out hq)
     have HM6 := Lib.hid (And.intro hDk6 (And.intro hmv6 hip))
     have HM5 := Lib.hid hmv5
     clear hmv5 hmv6 hDk6 hip HON
     rcases hcs5 with ⟨rfl, hpost⟩ | ⟨path', f', full', hp1, hp2, hp3, hp4, hp5, hp6⟩
     ·have HPS := Lib.hid hpost
      clear hpost
      go_wp2_with fail
      go_roundw
      case rel =>
       have hva := HWY.out.2.2.1
       have hal1 := ahead_le path f
       rw [HWY.out.2.1] at hal1
       have hfp : f.pages.length = 1 := rfl
       exact ⟨D, v + 1, rfl, by go_num, by omega, HM6.out.1, HM6.out.2.1, .inl ⟨rfl, HEND.out _ _ (by rw [← HPS.out]; exact HM6.out.2.2)⟩⟩
      case measure => simp [intOf]; omega
     ·obtain ⟨ao', ac', rfl, hx1, hx2⟩ := hp6.form
      obtain ⟨an', han'⟩ : ∃ an', an' = full'.length := ⟨_, rfl⟩
      rw [← han'] at hx1 ⊢
      have hpos : 0 < an' := by
       obtain ⟨⟨ss2, s2, rfl, -⟩⟩ := hp5
       rw [han', List.length_append]; simp
      have HNX := Lib.hid (And.intro hp1 (And.intro hp2 (And.intro hp4 (And.intro hp5 (And.intro hp6 han')))))
      clear hp1 hp2 hp3 hp4 hp5 hp6 han'
      go_wp2_with fail
      go_roundw
      case rel =>
       obtain ⟨hp1, hp2, hp4, hp5, hp6, han'⟩ := HNX.out
       have hva := HWY.out.2.2.1
       have hpl : path'.plug f' = t := hp1.trans HWY.out.2.1
       have hal1 := ahead_le path' f'
       rw [hpl] at hal1
       have hfp : f'.pages.length = 1 := rfl
       refine ⟨D, v + 1, rfl, by go_num, by omega, HM6.out.1, HM6.out.2.1, .inr ⟨path', f', 0, full', ao', an', ac', rfl, han', hx1, hx2, hpos, hpl, by omega, Nat.zero_le _, hp5, ?_, ?_⟩⟩
       ·rw [han']
        refine hp6.more (fun q hq hlt => ?_)
        rcases hq with hq | hq
        ·exact ⟨hq.1, hlt, hq.2.2⟩
        ·refine ⟨by have := HDK.out.2.size; omega, hlt, fun e => ?_⟩
         rcases HDK.out.1 q e with h | h
         ·have := (HD0.out q h).2.2; have := HDK.out.2.size; omega
         ·omega
       ·rw [List.drop_zero, hp2]
        exact HM6.out.2.2
      case measure => simp [intOf]; omega
end Go.Proofs.Ytpfjbcfnpfgidaa
namespace Go.Proofs.Ytpfjbcfnpfgidaa
open Go.RowKit Go.Maps
set_option maxRecDepth 100000
set_option linter.unusedVariables false
theorem filter_all (l : List Ent) : l.filter (gK ⟨#[]⟩) = l := List.filter_eq_self.2 (fun x _ => gK_empty x)
set_option maxHeartbeats 4000000 in
theorem count_tree {w0 w : World} {X : Nat → Prop} {r p N M c : Nat} {G : Lg} {H : Option Lg} (h : Pb w0 w X r p N M c G H) {n : Nat} {t : BT Ent n} (hi : InLg N (H.getD G) t) (hl : t.flat.length ≤ 1000000) :
 Calls Try.prog 16 #[.pointer (some ⟨p, 0, none⟩), .int .i64 (t.page : Int)] w fun e w' => e = .returned (.tuple #[.int .i64 t.flat.length, .int .i64 0]) ∧ Below w.heap.size w w' := by
 have hal : Below w.heap.size w (w.alloc (.cells #[.int .i64 0] 3)) := (Below.refl _ w).alloc (Nat.le_refl _) _
 have hb := Blk.new w #[.int .i64 0] 3
 have hlow := hi.low
 have hpg : t.pages.length ≤ 2000 := by
  have h1 := nodup_length (N := N) (List.nodup_append.1 hi.nodup).2.1 (fun q hq => (hi.range q (List.mem_append_right _ hq)).2)
  have := hi.most
  omega
 have hw0 := h.below.size
 obtain ⟨k, hk⟩ : ∃ k, k = t.flat.length := ⟨_, rfl⟩
 obtain ⟨b, hbb⟩ : ∃ b, b = w.heap.size := ⟨_, rfl⟩
 have hwk := walk_cnt (h.take hal) hi.stored hi.root hi.sorted (by omega) hpg ⟨#[]⟩ (.pointer (some ⟨b, 0, none⟩))
  (fun l D w' => D = (· = b) ∧ ∃ j, j + l.length = k ∧ Blk w' b #[.int .i64 j] 3) (fun D w' => D = (· = b) ∧ Blk w' b #[.int .i64 k] 3)
  (fun l D P a c h hm hP => ⟨h.1, by obtain ⟨h1, j, h2, h3⟩ := h; exact ⟨j, h2, h3.moved hm (hP b (by rw [h1]))⟩⟩) (fun D P a c h hm hP => ⟨h.1, h.2.moved hm (hP b (by rw [h.1]))⟩)
  (fun D a h => by
   obtain ⟨h1, j, h2, h3⟩ := h
   have : j = k := by simpa using h2
   rw [this] at h3
   exact ⟨h1, h3⟩)
  (fun x l D a h => by
   obtain ⟨h1, j, h2, h3⟩ := h
   rw [List.length_cons] at h2
   refine (countq_any b j (by omega) x a h3).mono ?_
   rintro e w' ⟨rfl, h4, h5⟩
   refine ⟨D, fun q hq => .inl hq, by rw [h1]; exact h5, .inl ⟨rfl, h1, j + 1, by omega, ?_⟩⟩
   rw [show (((j + 1 : Nat)) : Int) = (j : Int) + 1 by omega]
   exact h4) (· = b) ⟨rfl, 0, by rw [filter_all, hk, Nat.zero_add], by rw [hbb]; exact hb⟩ (fun q hq => ⟨.inr ⟨by omega, by rw [hq, hbb]; exact hb.lt⟩, by omega, by rw [hq, hbb]; exact hb.lt⟩)
 obtain ⟨pg, hpg'⟩ : ∃ pg : Int, pg = (t.page : Int) := ⟨_, rfl⟩
 rw [← hpg'] at hwk ⊢
 rw [← hk]
 subst hbb
 have HWK := Lib.hid hwk
 have HAL := Lib.hid hal
 clear h hi hl hal hb hlow hpg hw0 hk hwk hpg'
 go_enter Try.func16, Try.ntmps16
 go_wp2_with fail
 refine HWK.out.mono ?_
 rintro en w1 ⟨rfl, D', h1, ⟨h2, h3⟩, h4⟩
 have c0 : w1.cell? ⟨w.heap.size, 0, none⟩ = some (.int .i64 k) := by rw [h3.cell]; rfl
 have HM := Lib.hid h4
 clear h1 h2 h3 h4 HWK
 go_wp2_with fail
 go_ret2
 exact ⟨rfl, HAL.out.trans (HM.out.below (B := w.heap.size) (fun j hj => by omega) HAL.out.size)⟩
end Go.Proofs.Ytpfjbcfnpfgidaa
