/- Rb -/
import Derived.Test.YtpfjbcfnpfgidaaKHk
import Derived.Test.YtpfjbcfnpfgidaaKRa
namespace Go.Proofs.Ytpfjbcfnpfgidaa
open Go.RowKit Go.Maps
set_option maxRecDepth 100000
set_option linter.unusedVariables false
set_option maxHeartbeats 8000000 in
theorem walk_rng {w0 w : World} {X : Nat → Prop} {r p N M c : Nat} {G : Lg} {H : Option Lg} (h : Pb w0 w X r p N M c G H) {R : Nat} {t : BT Ent R} (hs : Stored N (H.getD G) t) (hr : BT.Root t) (hso : t.flat.Pairwise rK) (hR : R ≤ 10) (hpg : t.pages.length ≤ 2000) (key : ByteArray) (k0 k1 k2 k3 : Value)
 (I : List Ent → (Nat → Prop) → World → Prop) (Fin : (Nat → Prop) → World → Prop) (hI : ∀ l D P a b, I l D a → Moved P a b → (∀ q, D q → ¬ P q) → I l D b) (hF : ∀ D P a b, Fin D a → Moved P a b → (∀ q, D q → ¬ P q) → Fin D b) (hend : ∀ D a, I [] D a → Fin D a)
 (hsee : ∀ x l D a, I (x :: l) D a → Calls Try.prog 30 #[x.agg, k0, k1, k2, k3] a fun e b => ∃ D' : Nat → Prop, (∀ q, D' q → D q ∨ (a.heap.size ≤ q ∧ q < b.heap.size)) ∧ Moved D a b ∧ ((e = .returned (.bool true) ∧ I l D' b) ∨ (e = .returned (.bool false) ∧ Fin D' b)))
 (D0 : Nat → Prop) (hI0 : I (t.flat.filter (gK key)) D0 w) (hD0 : ∀ q, D0 q → X q ∧ w0.heap.size ≤ q ∧ q < w.heap.size) :
 Calls Try.prog 29 #[.pointer (some ⟨p, 0, none⟩), .int .i64 (t.page : Int), .string key, .func (.func 30) #[] #[k0, k1, k2, k3]] w fun e w' => e = .returned (.int .i64 0) ∧ ∃ D' : Nat → Prop, (∀ q, D' q → D0 q ∨ w.heap.size ≤ q) ∧ Fin D' w' ∧ Moved D0 w w' := by
 have HWAY := Lib.hid (way_any h hs hr hso key (by omega))
 obtain ⟨pg, hpg'⟩ : ∃ pg : Int, pg = (t.page : Int) := ⟨_, rfl⟩
 rw [← hpg'] at HWAY ⊢
 have HP := Lib.hid h
 have HS := Lib.hid hs
 have HRT := Lib.hid hr
 have HSO := Lib.hid hso
 have HI := Lib.hid hI
 have HF := Lib.hid hF
 have HEND := Lib.hid hend
 have HSEE := Lib.hid hsee
 have HI0 := Lib.hid hI0
 have HD0 := Lib.hid hD0
 clear h hs hr hso hI hF hend hsee hI0 hD0 hpg'
 go_enter Try.func29, Try.ntmps29
 go_wp2_with fail
 go_step3
 go_wp2_with fail
 refine HWAY.out.mono ?_
 rintro en w1 ⟨P, f, m, ss, lv, rfl, h1, h2, h3, h4, h5, h6⟩
 have hst : Sts w1 (fun q => w.heap.size ≤ q ∧ q < w1.heap.size ∧ ¬ D0 q) lv ss := h5.more (fun q hq _ => ⟨hq.1, hq.2, fun e => by have := (HD0.out q e).2.2; omega⟩)
 have hcut : f.flat.drop m ++ P.post = t.flat.filter (gK key) := by
  have hc := (BT.root_cut (gK_up key) (le_below key) (not_le key) (le_down key) (by rw [h1]; exact HSO.out) (by rw [h1]; exact HRT.out) h2 (place_cut (leaf_sorted (by rw [h1]; exact HSO.out)) h3)).1
  have he := hc.eq.2
  rw [he, ← h1, P.flat]
  congr 1
  rw [List.append_assoc, ← List.append_assoc (f.flat.take m), List.take_append_drop]
 have hi1 : I (f.flat.drop m ++ P.post) D0 w1 := by
  rw [hcut]
  exact HI.out _ _ _ _ _ HI0.out (Moved.of_below h6 (fun _ => False)) (fun _ _ h => h)
 have HST := Lib.hid hst
 have HI1 := Lib.hid hi1
 have HB1 := Lib.hid h6
 have HW := Lib.hid h4
 have HPL := Lib.hid (And.intro h1 h3.1)
 clear h1 h2 h3 h4 h5 h6 hst hcut hi1 HWAY
 go_wp2_with fail
 go_step3
 go_wp2_with fail
 go_loopw [9, 10, 11, 12, 14, 46] (fun lv e left _ _ _ wr => ∃ (D : Nat → Prop) (v : Nat), e = .int .i64 0 ∧ left = .int .i64 (3000 - (v : Int)) ∧ v ≤ 2000 ∧ (∀ q, D q → D0 q ∨ (w.heap.size ≤ q ∧ q < wr.heap.size)) ∧ Moved D0 w wr ∧
  ((lv = .slice none 0 0 ∧ Fin D wr) ∨ ∃ (path : BT.Path Ent 0 R) (f : BT Ent 0) (m : Nat) (full : List Stp) (ao : Option Addr) (an ac : Nat), lv = .slice ao an ac ∧ an = full.length ∧ an ≤ ac ∧ ac ≤ 9223372036854775807 ∧ 0 < an ∧ path.plug f = t ∧ v ≤ ahead path ∧ m ≤ f.flat.length ∧ Way path f m full ∧ Sts wr (fun q => w.heap.size ≤ q ∧ q < wr.heap.size ∧ ¬ D q) lv full ∧ I (f.flat.drop m ++ path.post) D wr)) (fun _ _ left _ _ _ _ => (intOf left).toNat)
 case atStart =>
  obtain ⟨ao, ac, e1, e2, e3⟩ := HST.out.form
  refine ⟨D0, 0, rfl, by go_num, by omega, fun q hq => .inl hq, Moved.of_below HB1.out _, .inr ⟨P, f, m, ss, ao, ss.length, ac, e1, rfl, e2, e3, ?_, HPL.out.1, Nat.zero_le _, HPL.out.2, HW.out, HST.out, HI1.out⟩⟩
  obtain ⟨⟨ss', s, rfl, -⟩⟩ := HW.out
  rw [List.length_append]; simp
 case round =>
  obtain ⟨D, v, rfl, rfl, hv, hD, hmv, hcase⟩ := hrel
  rcases hcase with ⟨rfl, hfin⟩ | ⟨path, f, m, full, ao, an, ac, rfl, han, hac1, hac2, han0, hplug, hva, hml, hway, hst, hi⟩
  ·have HX := Lib.hid (And.intro hD (And.intro hmv hfin))
   clear hD hmv hfin
   go_wp2_with fail
   repeat rw [Exit.noGoto_ret]
   go_ret
   exact ⟨rfl, D, fun q hq => (HX.out.1 q hq).imp id (fun e => e.1), HX.out.2.2, HX.out.2.1⟩
  ·obtain ⟨⟨ss', s, hfull, hsa, hsl, hse, hsi, how⟩⟩ := id hway
   obtain ⟨q, hq⟩ : ∃ q, q = ss'.length := ⟨_, rfl⟩
   have hanq : an = q + 1 := by rw [han, hfull, hq, List.length_append]; rfl
   have hql : q < full.length := by omega
   have hlast : full[q]'hql = s := by simp [hfull, hq]
   obtain ⟨g, cp, hsg, hg, hgT, -, -, -, d0, d1, d2, d3⟩ := hst.at q hql
   obtain ⟨hen, hob⟩ := hst.ens q hql
   simp only [Value.slice.injEq] at hsg
   obtain ⟨rfl, -, rfl⟩ := hsg
   rw [hlast] at d0 d1 d2 d3 hen hob
   rw [hse] at hen
   rw [hsi] at d3
   rw [hsl] at d1
   obtain ⟨n1, hn1⟩ : ∃ n1, n1 = f.flat.length := ⟨_, rfl⟩
   obtain ⟨eo, ec, hsv, hec1, hec2⟩ := hen.form
   rw [← hn1] at hsv hec1 hml
   rw [hsv] at d2 hen hob
   obtain ⟨sa, hsa'⟩ : ∃ sa, sa = s.at' := ⟨_, rfl⟩
   rw [← hsa'] at d0
   have hfew : n1 ≤ 255 := by
    have h2 := HS.out
    rw [← hplug] at h2
    have h3 := (Stored.split path f h2).2.node.few
    rw [ents_flat] at h3
    omega
   have i1 : (an : Int) - 1 = q := by omega
   have i2 : (q : Int) < an := by omega
   have i3 : ((3000 : Int) - v == 0) = false := by simp; omega
   have i4 : (0 : Int) < an := by omega
   have i5 : (m : Int) ≤ n1 := by omega
   have i6 : (n1 : Int) ≤ ec := by omega
   have hal : Below wr.heap.size wr (wr.alloc (.cells #[.int .i64 sa, .int .i64 0, .slice eo n1 ec, .int .i64 m] 64)) := (Below.refl _ wr).alloc (Nat.le_refl _) _
   obtain ⟨wl, hwl⟩ : ∃ wl, wl = wr.alloc (.cells #[.int .i64 sa, .int .i64 0, .slice eo n1 ec, .int .i64 m] 64) := ⟨_, rfl⟩
   rw [← hwl] at hal
   have hsTD : ∀ q, (w.heap.size ≤ q ∧ q < wr.heap.size ∧ ¬ D q) → ¬ D q := fun q h => h.2.2
   have HAL := Lib.hid hal
   have HWL := Lib.hid hwl
   have HEN := Lib.hid (Ens.below hen hal)
   have HOB := Lib.hid hob
   have HN1 := Lib.hid hn1
   have HST2 := Lib.hid (hst.below hal)
   have HII := Lib.hid (HI.out _ _ _ _ _ hi (Moved.of_below hal (fun _ => False)) (fun _ _ h => h))
   have HD := Lib.hid (And.intro hD hmv)
   have HWY := Lib.hid (And.intro hway (And.intro hplug (And.intro hva (And.intro hml hgT))))
   have HAN := Lib.hid han
   obtain ⟨wo, rfl⟩ : ∃ wo, wo = wr := ⟨_, rfl⟩
   clear hst hen hob hn1 hsv hi hD hmv hway hplug hva hgT hal hwl hfull hsa hsl hse hsi how hq hanq hql hlast hsa' han hsTD
   by_cases hmn : m < n1
   ·have i7 : ¬ ec = m := by omega
    obtain ⟨rm, hrm⟩ : ∃ rm, rm = n1 - m := ⟨_, rfl⟩
    have i8 : (n1 : Int) - m = rm := by omega
    have i9 : n1 - m = rm := by omega
    have HRM := Lib.hid hrm
    clear hrm
    obtain ⟨b, off, cpx, hslx, -, -, hbs, hce⟩ := HEN.out.at (by have := HN1.out; omega)
    rw [← HN1.out] at hslx
    simp only [Value.slice.injEq, true_and] at hslx
    obtain ⟨rfl, rfl⟩ := hslx
    have HCE := Lib.hid (And.intro hbs hce)
    clear hbs hce
    go_wp2_with fail
    rw [← HWL.out]
    go_loopw [14, 46] (fun _ i wr => ∃ (k : Nat) (Dk : Nat → Prop), k ≤ rm ∧ i = .int .i64 k ∧ (∀ q, Dk q → D q ∨ (wl.heap.size ≤ q ∧ q < wr.heap.size)) ∧ Moved D wl wr ∧ I ((f.flat.drop m).drop k ++ path.post) Dk wr) (fun _ i _ => rm - (intOf i).toNat)
    case atStart => exact ⟨0, D, Nat.zero_le _, rfl, fun q hq => .inl hq, Moved.refl _ _, HII.out⟩
    case round =>
     obtain ⟨k, Dk, hk, rfl, hDk, hmk, hik⟩ := hrel
     have HK := Lib.hid (And.intro hDk (And.intro hmk hik))
     clear hDk hmk hik
     by_cases hlt : k < rm
     ·have hlt' : (k : Int) < rm := by omega
      have hkl : m + k < f.flat.length := by have := HN1.out; have := HRM.out; omega
      obtain ⟨e, he⟩ : ∃ e, e = f.flat[m + k]'hkl := ⟨_, rfl⟩
      have hdrop : (f.flat.drop m).drop k = e :: (f.flat.drop m).drop (k + 1) := by
       rw [List.drop_drop, List.drop_drop, List.drop_eq_getElem_cons hkl, he]; rfl
      obtain ⟨c0, c1, c2⟩ := HCE.out.2 (m + k) hkl
      rw [← he] at c0 c1 c2
      have hbD : ¬ D b := ((HOB.out b rfl).1).2.2
      have hbk := HK.out.2.1.block b HCE.out.1 hbD
      have hoff : off + (m + k) * 3 = off + m * 3 + k * 3 := by omega
      rw [hoff] at c0 c1 c2
      have e0 := (World.cell?_of_block (a := ⟨b, off + m * 3 + k * 3, none⟩) hbk).trans c0
      have e1 := (World.cell?_of_block (a := ⟨b, off + m * 3 + k * 3 + 1, none⟩) hbk).trans c1
      have e2 := (World.cell?_of_block (a := ⟨b, off + m * 3 + k * 3 + 2, none⟩) hbk).trans c2
      have hi2 := HK.out.2.2
      rw [hdrop] at hi2
      have hal2 : Below wr.heap.size wr (wr.alloc (.cells #[.string e.key, .string e.val, .int .i64 e.kid] 68)) := (Below.refl _ wr).alloc (Nat.le_refl _) _
      have hsee := HSEE.out e _ Dk _ (HI.out _ _ _ _ _ hi2 (Moved.of_below hal2 (fun _ => False)) (fun _ _ h => h))
      unfold Ent.agg at hsee
      have HSE := Lib.hid hsee
      have HAL2 := Lib.hid hal2
      clear he hdrop c0 c1 c2 hbk hoff hi2 hal2 hsee
      go_wp2_with fail
      refine HSE.out.mono ?_
      rintro en w3 ⟨Dn, hDn, hmn3, hcs⟩
      have hDn2 : ∀ q, Dn q → D q ∨ (wl.heap.size ≤ q ∧ q < w3.heap.size) := fun q hq => by
       have h3 := hmn3.size
       have h4 := HAL2.out.size
       have h5 := HK.out.2.1.size
       have h6 := HAL.out.size
       rcases hDn q hq with h | h
       ·exact (HK.out.1 q h).imp id (fun e => ⟨e.1, by omega⟩)
       ·exact .inr ⟨by omega, h.2⟩
      have hmn4 : Moved D wl w3 := (HK.out.2.1.trans (Moved.of_below HAL2.out (fun _ => False)) (fun _ h => h.elim)).trans hmn3 (fun q hq => (HK.out.1 q hq).imp id (fun e => e.1))
      have HN := Lib.hid (And.intro hDn2 hmn4)
      clear hDn hmn3 hDn2 hmn4
      rcases hcs with ⟨rfl, hi3⟩ | ⟨rfl, hf3⟩
      ·have HI3 := Lib.hid hi3
       clear hi3
       go_wp2_with fail
       go_roundw
       case rel => exact ⟨k + 1, Dn, by omega, by go_num, HN.out.1, HN.out.2, HI3.out⟩
       case measure => simp [intOf]; omega
      ·have HF3 := Lib.hid hf3
       clear hf3
       go_wp2_with fail
       repeat rw [Exit.noGoto_ret]
       go_ret
       have h6 := HAL.out.size
       have h7 := HD.out.2.size
       refine ⟨rfl, Dn, fun q hq => ?_, HF3.out, (HD.out.2.trans (Moved.of_below HAL.out (fun _ => False)) (fun _ h => h.elim)).trans HN.out.2 (fun q hq => (HD.out.1 q hq).imp id (fun e => e.1))⟩
       rcases HN.out.1 q hq with h | h
       ·exact (HD.out.1 q h).imp id (fun e => e.1)
       ·exact .inr (by omega)
     ·obtain rfl : rm = k := by omega
      have hnil : (f.flat.drop m).drop rm = [] := List.drop_eq_nil_of_le (by rw [List.length_drop, ← HN1.out]; omega)
      have hik := HK.out.2.2
      rw [hnil, List.nil_append] at hik
      have h6 := HAL.out.size
      have h7 := HD.out.2.size
      have hDk2 : ∀ q, Dk q → D0 q ∨ (w.heap.size ≤ q ∧ q < wr.heap.size) := fun q hq => by
       have h8 := (HK.out.2.1).size
       rcases (HK.out.1) q hq with h | h
       ·exact (HD.out.1 q h).imp id (fun e => ⟨e.1, by omega⟩)
       ·exact .inr ⟨by omega, by omega⟩
      have hmw : Moved D0 w wr := (HD.out.2.trans (Moved.of_below HAL.out (fun _ => False)) (fun _ h => h.elim)).trans (HK.out.2.1) (fun q hq => (HD.out.1 q hq).imp id (fun e => e.1))
      have hpb := HP.out.wide hmw (fun k hk hlt => ⟨(HD0.out k hk).1, (HD0.out k hk).2.1⟩)
      have hst2 : Sts wr (fun q => w.heap.size ≤ q ∧ q < wr.heap.size ∧ ¬ Dk q) (.slice (some ⟨g, 0, none⟩) an ac) full := (HST2.out.moved (HK.out.2.1) (fun q hq _ => hq.2.2)).more (fun q hq hlt => ⟨hq.1, by have h8 := (HK.out.2.1).size; omega, fun e => by
       rcases (HK.out.1) q e with h | h
       ·exact hq.2.2 h
       ·omega⟩)
      have hw0 := HP.out.below.size
      obtain ⟨hway, hplug, hva, hml, hgT⟩ := HWY.out
      have how := onward_any hpb (path := path) (f := f) (by rw [hplug]; exact HS.out) (by rw [hplug]; exact HRT.out) (by rw [hplug]; exact HSO.out) _ full hst2 (fun q hq => ⟨.inr ⟨hq.1, hq.2.1⟩, by omega, hq.2.1⟩) hway (by omega)
      have HON := Lib.hid how
      have HPO := Lib.hid (show I path.post Dk wr from hik)
      have HDK := Lib.hid (And.intro hDk2 hmw)
      have HG := Lib.hid (show ¬ Dk g from fun e => by
       rcases (HK.out.1) g e with h | h
       ·exact hgT.2.2 h
       ·have := hgT.2.1; omega)
      clear hDk2 hmw hpb hst2 hway hplug hva hml hgT how
      go_wp2_with fail
      refine HON.out.mono ?_
      rintro en w5 ⟨lv5, rfl, hmv5, hcs5⟩
      have hmv6 : Moved D0 w w5 := HDK.out.2.trans hmv5 (fun q hq => by
       have h1 : g = q := Option.some.inj hq
       subst h1
       exact .inr HWY.out.2.2.2.2.1)
      have hDk6 : ∀ q, Dk q → D0 q ∨ (w.heap.size ≤ q ∧ q < w5.heap.size) := fun q hq => (HDK.out.1 q hq).imp id (fun e => ⟨e.1, Nat.lt_of_lt_of_le e.2 hmv5.size⟩)
      have hip : I path.post Dk w5 := HI.out _ _ _ _ _ HPO.out hmv5 (fun q hq e => by
       have h1 : g = q := Option.some.inj e
       subst h1
       exact HG.out hq)
      have HM6 := Lib.hid (And.intro hDk6 (And.intro hmv6 hip))
      have HM5 := Lib.hid hmv5
      clear hmv5 hmv6 hDk6 hip HON
      rcases hcs5 with ⟨rfl, hpost⟩ | ⟨path', f', full', hp1, hp2, hp3, hp4, hp5, hp6⟩
      ·have HPS := Lib.hid hpost
       clear hpost
       go_wp2_with fail
       go_roundw
       case rel =>
        have hva := HWY.out.2.2.1
        have hal1 := ahead_le path f
        rw [HWY.out.2.1] at hal1
        have hfp : f.pages.length = 1 := rfl
        exact ⟨Dk, v + 1, rfl, by go_num, by omega, HM6.out.1, HM6.out.2.1, .inl ⟨rfl, HEND.out _ _ (by rw [← HPS.out]; exact HM6.out.2.2)⟩⟩
       case measure => simp [intOf]; omega
      ·obtain ⟨ao', ac', rfl, hx1, hx2⟩ := hp6.form
       obtain ⟨an', han'⟩ : ∃ an', an' = full'.length := ⟨_, rfl⟩
       rw [← han'] at hx1 ⊢
       have hpos : 0 < an' := by
        obtain ⟨⟨ss2, s2, rfl, -⟩⟩ := hp5
        rw [han', List.length_append]; simp
       have HNX := Lib.hid (And.intro hp1 (And.intro hp2 (And.intro hp4 (And.intro hp5 (And.intro hp6 han')))))
       clear hp1 hp2 hp3 hp4 hp5 hp6 han'
       go_wp2_with fail
       go_roundw
       case rel =>
        obtain ⟨hp1, hp2, hp4, hp5, hp6, han'⟩ := HNX.out
        have hva := HWY.out.2.2.1
        have hpl : path'.plug f' = t := hp1.trans HWY.out.2.1
        have hal1 := ahead_le path' f'
        rw [hpl] at hal1
        have hfp : f'.pages.length = 1 := rfl
        refine ⟨Dk, v + 1, rfl, by go_num, by omega, HM6.out.1, HM6.out.2.1, .inr ⟨path', f', 0, full', ao', an', ac', rfl, han', hx1, hx2, hpos, hpl, by omega, Nat.zero_le _, hp5, ?_, ?_⟩⟩
        ·rw [han']
         refine hp6.more (fun q hq hlt => ?_)
         rcases hq with hq | hq
         ·exact ⟨hq.1, hlt, hq.2.2⟩
         ·refine ⟨by have := HDK.out.2.size; omega, hlt, fun e => ?_⟩
          rcases HDK.out.1 q e with h | h
          ·have := (HD0.out q h).2.2; have := HDK.out.2.size; omega
          ·omega
        ·rw [List.drop_zero, hp2]
         exact HM6.out.2.2
       case measure => simp [intOf]; omega
   ·have hmn2 : m = n1 := by omega
    have hik := HII.out
    have hnil : f.flat.drop m = [] := List.drop_eq_nil_of_le (by rw [← HN1.out]; omega)
    rw [hnil, List.nil_append] at hik
    have HIK := Lib.hid hik
    subst hmn2
    clear hik hnil
    by_cases hem : ec = m
    ·subst hem
     go_wp2_with fail
     rw [← HWL.out]
     refine wp_loop_rounds 1 ?_
     rw [rounds_succ]
     have h6 := HAL.out.size
     have h7 := HD.out.2.size
     have hDk2 : ∀ q, D q → D0 q ∨ (w.heap.size ≤ q ∧ q < wl.heap.size) := fun q hq => by
      have h8 := (Moved.refl D wl).size
      rcases (fun q (hq : D q) => (Or.inl hq : D q ∨ (wl.heap.size ≤ q ∧ q < wl.heap.size))) q hq with h | h
      ·exact (HD.out.1 q h).imp id (fun e => ⟨e.1, by omega⟩)
      ·exact .inr ⟨by omega, by omega⟩
     have hmw : Moved D0 w wl := (HD.out.2.trans (Moved.of_below HAL.out (fun _ => False)) (fun _ h => h.elim)).trans (Moved.refl D wl) (fun q hq => (HD.out.1 q hq).imp id (fun e => e.1))
     have hpb := HP.out.wide hmw (fun k hk hlt => ⟨(HD0.out k hk).1, (HD0.out k hk).2.1⟩)
     have hst2 : Sts wl (fun q => w.heap.size ≤ q ∧ q < wl.heap.size ∧ ¬ D q) (.slice (some ⟨g, 0, none⟩) an ac) full := (HST2.out.moved (Moved.refl D wl) (fun q hq _ => hq.2.2)).more (fun q hq hlt => ⟨hq.1, by have h8 := (Moved.refl D wl).size; omega, fun e => by
      rcases (fun q (hq : D q) => (Or.inl hq : D q ∨ (wl.heap.size ≤ q ∧ q < wl.heap.size))) q e with h | h
      ·exact hq.2.2 h
      ·omega⟩)
     have hw0 := HP.out.below.size
     obtain ⟨hway, hplug, hva, hml, hgT⟩ := HWY.out
     have how := onward_any hpb (path := path) (f := f) (by rw [hplug]; exact HS.out) (by rw [hplug]; exact HRT.out) (by rw [hplug]; exact HSO.out) _ full hst2 (fun q hq => ⟨.inr ⟨hq.1, hq.2.1⟩, by omega, hq.2.1⟩) hway (by omega)
     have HON := Lib.hid how
     have HPO := Lib.hid (show I path.post D wl from HIK.out)
     have HDK := Lib.hid (And.intro hDk2 hmw)
     have HG := Lib.hid (show ¬ D g from fun e => by
      rcases (fun q (hq : D q) => (Or.inl hq : D q ∨ (wl.heap.size ≤ q ∧ q < wl.heap.size))) g e with h | h
      ·exact hgT.2.2 h
      ·have := hgT.2.1; omega)
     clear hDk2 hmw hpb hst2 hway hplug hva hml hgT how
     go_wp2_with fail
     refine HON.out.mono ?_
     rintro en w5 ⟨lv5, rfl, hmv5, hcs5⟩
     have hmv6 : Moved D0 w w5 := HDK.out.2.trans hmv5 (fun q hq => by
      have h1 : g = q := Option.some.inj hq
      subst h1
      exact .inr HWY.out.2.2.2.2.1)
     have hDk6 : ∀ q, D q → D0 q ∨ (w.heap.size ≤ q ∧ q < w5.heap.size) := fun q hq => (HDK.out.1 q hq).imp id (fun e => ⟨e.1, Nat.lt_of_lt_of_le e.2 hmv5.size⟩)
     have hip : I path.post D w5 := HI.out _ _ _ _ _ HPO.out hmv5 (fun q hq e => by
      have h1 : g = q := Option.some.inj e
      subst h1
      exact HG.out hq)
     have HM6 := Lib.hid (And.intro hDk6 (And.intro hmv6 hip))
     have HM5 := Lib.hid hmv5
     clear hmv5 hmv6 hDk6 hip HON
     rcases hcs5 with ⟨rfl, hpost⟩ | ⟨path', f', full', hp1, hp2, hp3, hp4, hp5, hp6⟩
     ·have HPS := Lib.hid hpost
      clear hpost
      go_wp2_with fail
      go_roundw
      case rel =>
       have hva := HWY.out.2.2.1
       have hal1 := ahead_le path f
       rw [HWY.out.2.1] at hal1
       have hfp : f.pages.length = 1 := rfl
       exact ⟨D, v + 1, rfl, by go_num, by omega, HM6.out.1, HM6.out.2.1, .inl ⟨rfl, HEND.out _ _ (by rw [← HPS.out]; exact HM6.out.2.2)⟩⟩
      case measure => simp [intOf]; omega
     ·obtain ⟨ao', ac', rfl, hx1, hx2⟩ := hp6.form
      obtain ⟨an', han'⟩ : ∃ an', an' = full'.length := ⟨_, rfl⟩
      rw [← han'] at hx1 ⊢
      have hpos : 0 < an' := by
       obtain ⟨⟨ss2, s2, rfl, -⟩⟩ := hp5
       rw [han', List.length_append]; simp
      have HNX := Lib.hid (And.intro hp1 (And.intro hp2 (And.intro hp4 (And.intro hp5 (And.intro hp6 han')))))
      clear hp1 hp2 hp3 hp4 hp5 hp6 han'
      go_wp2_with fail
      go_roundw
      case rel =>
       obtain ⟨hp1, hp2, hp4, hp5, hp6, han'⟩ := HNX.out
       have hva := HWY.out.2.2.1
       have hpl : path'.plug f' = t := hp1.trans HWY.out.2.1
       have hal1 := ahead_le path' f'
       rw [hpl] at hal1
       have hfp : f'.pages.length = 1 := rfl
       refine ⟨D, v + 1, rfl, by go_num, by omega, HM6.out.1, HM6.out.2.1, .inr ⟨path', f', 0, full', ao', an', ac', rfl, han', hx1, hx2, hpos, hpl, by omega, Nat.zero_le _, hp5, ?_, ?_⟩⟩
       ·rw [han']
        refine hp6.more (fun q hq hlt => ?_)
        rcases hq with hq | hq
        ·exact ⟨hq.1, hlt, hq.2.2⟩
        ·refine ⟨by have := HDK.out.2.size; omega, hlt, fun e => ?_⟩
         rcases HDK.out.1 q e with h | h
         ·have := (HD0.out q h).2.2; have := HDK.out.2.size; omega
         ·omega
       ·rw [List.drop_zero, hp2]
        exact HM6.out.2.2
      case measure => simp [intOf]; omega
    ·have i7 : ¬ ec = m := hem
     go_wp2_with fail
     rw [← HWL.out]
     refine wp_loop_rounds 1 ?_
     rw [rounds_succ]
     have h6 := HAL.out.size
     have h7 := HD.out.2.size
     have hDk2 : ∀ q, D q → D0 q ∨ (w.heap.size ≤ q ∧ q < wl.heap.size) := fun q hq => by
      have h8 := (Moved.refl D wl).size
      rcases (fun q (hq : D q) => (Or.inl hq : D q ∨ (wl.heap.size ≤ q ∧ q < wl.heap.size))) q hq with h | h
      ·exact (HD.out.1 q h).imp id (fun e => ⟨e.1, by omega⟩)
      ·exact .inr ⟨by omega, by omega⟩
     have hmw : Moved D0 w wl := (HD.out.2.trans (Moved.of_below HAL.out (fun _ => False)) (fun _ h => h.elim)).trans (Moved.refl D wl) (fun q hq => (HD.out.1 q hq).imp id (fun e => e.1))
     have hpb := HP.out.wide hmw (fun k hk hlt => ⟨(HD0.out k hk).1, (HD0.out k hk).2.1⟩)
     have hst2 : Sts wl (fun q => w.heap.size ≤ q ∧ q < wl.heap.size ∧ ¬ D q) (.slice (some ⟨g, 0, none⟩) an ac) full := (HST2.out.moved (Moved.refl D wl) (fun q hq _ => hq.2.2)).more (fun q hq hlt => ⟨hq.1, by have h8 := (Moved.refl D wl).size; omega, fun e => by
      rcases (fun q (hq : D q) => (Or.inl hq : D q ∨ (wl.heap.size ≤ q ∧ q < wl.heap.size))) q e with h | h
      ·exact hq.2.2 h
      ·omega⟩)
     have hw0 := HP.out.below.size
     obtain ⟨hway, hplug, hva, hml, hgT⟩ := HWY.out
     have how := onward_any hpb (path := path) (f := f) (by rw [hplug]; exact HS.out) (by rw [hplug]; exact HRT.out) (by rw [hplug]; exact HSO.out) _ full hst2 (fun q hq => ⟨.inr ⟨hq.1, hq.2.1⟩, by omega, hq.2.1⟩) hway (by omega)
     have HON := Lib.hid how
     have HPO := Lib.hid (show I path.post D wl from HIK.out)
     have HDK := Lib.hid (And.intro hDk2 hmw)
     have HG := Lib.hid (show ¬ D g from fun e => by
      rcases (fun q (hq : D q) => (Or.inl hq : D q ∨ (wl.heap.size ≤ q ∧ q < wl.heap.size))) g e with h | h
      ·exact hgT.2.2 h
      ·have := hgT.2.1; omega)
     clear hDk2 hmw hpb hst2 hway hplug hva hml hgT how
     go_wp2_with fail
     refine HON.out.mono ?_
     rintro en w5 ⟨lv5, rfl, hmv5, hcs5⟩
     have hmv6 : Moved D0 w w5 := HDK.out.2.trans hmv5 (fun q hq => by
      have h1 : g = q := Option.some.inj hq
      subst h1
      exact .inr HWY.out.2.2.2.2.1)
     have hDk6 : ∀ q, D q → D0 q ∨ (w.heap.size ≤ q ∧ q < w5.heap.size) := fun q hq => (HDK.out.1 q hq).imp id (fun e => ⟨e.1, Nat.lt_of_lt_of_le e.2 hmv5.size⟩)
     have hip : I path.post D w5 := HI.out _ _ _ _ _ HPO.out hmv5 (fun q hq e => by
      have h1 : g = q := Option.some.inj e
      subst h1
      exact HG.out hq)
     have HM6 := Lib.hid (And.intro hDk6 (And.intro hmv6 hip))
     have HM5 := Lib.hid hmv5
     clear hmv5 hmv6 hDk6 hip HON
     rcases hcs5 with ⟨rfl, hpost⟩ | ⟨path', f', full', hp1, hp2, hp3, hp4, hp5, hp6⟩
     ·have HPS := Lib.hid hpost
      clear hpost
      go_wp2_with fail
      go_roundw
      case rel =>
       have hva := HWY.out.2.2.1
       have hal1 := ahead_le path f
       rw [HWY.out.2.1] at hal1
       have hfp : f.pages.length = 1 := rfl
       exact ⟨D, v + 1, rfl, by go_num, by omega, HM6.out.1, HM6.out.2.1, .inl ⟨rfl, HEND.out _ _ (by rw [← HPS.out]; exact HM6.out.2.2)⟩⟩
      case measure => simp [intOf]; omega
     ·obtain ⟨ao', ac', rfl, hx1, hx2⟩ := hp6.form
      obtain ⟨an', han'⟩ : ∃ an', an' = full'.length := ⟨_, rfl⟩
      rw [← han'] at hx1 ⊢
      have hpos : 0 < an' := by
       obtain ⟨⟨ss2, s2, rfl, -⟩⟩ := hp5
       rw [han', List.length_append]; simp
      have HNX := Lib.hid (And.intro hp1 (And.intro hp2 (And.intro hp4 (And.intro hp5 (And.intro hp6 han')))))
      clear hp1 hp2 hp3 hp4 hp5 hp6 han'
      go_wp2_with fail
      go_roundw
      case rel =>
       obtain ⟨hp1, hp2, hp4, hp5, hp6, han'⟩ := HNX.out
       have hva := HWY.out.2.2.1
       have hpl : path'.plug f' = t := hp1.trans HWY.out.2.1
       have hal1 := ahead_le path' f'
       rw [hpl] at hal1
       have hfp : f'.pages.length = 1 := rfl
       refine ⟨D, v + 1, rfl, by go_num, by omega, HM6.out.1, HM6.out.2.1, .inr ⟨path', f', 0, full', ao', an', ac', rfl, han', hx1, hx2, hpos, hpl, by omega, Nat.zero_le _, hp5, ?_, ?_⟩⟩
       ·rw [han']
        refine hp6.more (fun q hq hlt => ?_)
        rcases hq with hq | hq
        ·exact ⟨hq.1, hlt, hq.2.2⟩
        ·refine ⟨by have := HDK.out.2.size; omega, hlt, fun e => ?_⟩
         rcases HDK.out.1 q e with h | h
         ·have := (HD0.out q h).2.2; have := HDK.out.2.size; omega
         ·omega
       ·rw [List.drop_zero, hp2]
        exact HM6.out.2.2
      case measure => simp [intOf]; omega
theorem OwnS.mono9 {w : World} {b b' : Nat} {v : Value} {L : List ByteArray} (h : OwnS w b v L) (hb : b' ≤ b) : OwnS w b' v L := ⟨h.1, h.2.imp id (fun ⟨g, cap, cur, e, h1, r⟩ => ⟨g, cap, cur, e, Nat.le_trans hb h1, r⟩)⟩
/-- What a range has: from a key on, up to another, so many. -/
def tokK (to : ByteArray) (x : Ent) : Bool := to.toList.isEmpty || !geB x.key to
def rangeL (fr to : ByteArray) (m : Nat) (l : List Ent) : List Ent := ((l.filter (gK fr)).takeWhile (tokK to)).take m
def RgOwn (bk bm bt bv : Nat) (kv vv : Value) (q : Nat) : Prop := q = bk ∨ q = bm ∨ q = bt ∨ q = bv ∨ kv.ownBlock = some q ∨ vv.ownBlock = some q
theorem RgAt.carry {a b : World} {D P : Nat → Prop} {B bk bm bt bv : Nat} {most : Int} {to : ByteArray} {kv vv : Value} {K V : List ByteArray} (h : RgAt a D a B bk bm bt bv most to kv vv K V) (hm : Moved P a b) (hP : ∀ q, RgOwn bk bm bt bv kv vv q → ¬ P q) (hD : ∀ q, RgOwn bk bm bt bv kv vv q → D q) : RgAt b D b B bk bm bt bv most to kv vv K V := by
 refine ⟨fun x hx => ⟨(h.fix x hx).1.moved hm (hP _ ?_), (h.fix x hx).2⟩, fun r hr => owns_moved (h.own r hr) hm (fun q hq => hP q ?_), h.apart, Nat.le_trans h.low hm.size, Moved.refl _ _, fun r hr q hq => .inl (hD q ?_)⟩
 ·simp only [RgF, List.mem_cons, List.not_mem_nil, or_false] at hx
  rcases hx with rfl | rfl | rfl | rfl
  ·exact .inl rfl
  ·exact .inr (.inl rfl)
  ·exact .inr (.inr (.inl rfl))
  ·exact .inr (.inr (.inr (.inl rfl)))
 ·simp only [List.mem_cons, List.not_mem_nil, or_false] at hr
  rcases hr with rfl | rfl
  ·exact .inr (.inr (.inr (.inr (.inl hq))))
  ·exact .inr (.inr (.inr (.inr (.inr hq))))
 ·simp only [List.mem_cons, List.not_mem_nil, or_false] at hr
  rcases hr with rfl | rfl
  ·exact .inr (.inr (.inr (.inr (.inl hq))))
  ·exact .inr (.inr (.inr (.inr (.inr hq))))
/-- What the look keeps: what is had, and what is to come. -/
def RgI (B bk bm bt bv : Nat) (most : Int) (m : Nat) (to : ByteArray) (R l : List Ent) (D : Nat → Prop) (a : World) : Prop :=
 ∃ kv vv had, D = RgOwn bk bm bt bv kv vv ∧ RgAt a D a B bk bm bt bv most to kv vv (had.map Ent.key) (had.map Ent.val) ∧ had.length ≤ m ∧ R = had ++ (l.takeWhile (tokK to)).take (m - had.length)
def RgFin (B bk bm bt bv : Nat) (most : Int) (to : ByteArray) (R : List Ent) (D : Nat → Prop) (a : World) : Prop :=
 ∃ kv vv, D = RgOwn bk bm bt bv kv vv ∧ RgAt a D a B bk bm bt bv most to kv vv (R.map Ent.key) (R.map Ent.val)
theorem rg_see (B bk bm bt bv : Nat) (most : Int) (m : Nat) (hmm : most = m) (to : ByteArray) (R : List Ent) (hR : R.length ≤ 90000) (hne : bk ≠ bv ∧ bk ≠ bm ∧ bk ≠ bt ∧ bv ≠ bm ∧ bv ≠ bt) (x : Ent) (l : List Ent) (D : Nat → Prop) (a : World) (h : RgI B bk bm bt bv most m to R (x :: l) D a) :
 Calls Try.prog 30 #[x.agg, .pointer (some ⟨bk, 0, none⟩), .pointer (some ⟨bm, 0, none⟩), .pointer (some ⟨bt, 0, none⟩), .pointer (some ⟨bv, 0, none⟩)] a fun e b => ∃ D' : Nat → Prop, (∀ q, D' q → D q ∨ (a.heap.size ≤ q ∧ q < b.heap.size)) ∧ Moved D a b ∧
  ((e = .returned (.bool true) ∧ RgI B bk bm bt bv most m to R l D' b) ∨ (e = .returned (.bool false) ∧ RgFin B bk bm bt bv most to R D' b)) := by
 obtain ⟨kv, vv, had, hD, hrg, hlen, hR'⟩ := h
 have hl : had.length ≤ R.length := by rw [hR', List.length_append]; omega
 have stop : ((had.map Ent.key).length : Int) = most ∨ (to.toList.isEmpty = false ∧ geB x.key to = true) → R = had → Calls Try.prog 30 #[x.agg, .pointer (some ⟨bk, 0, none⟩), .pointer (some ⟨bm, 0, none⟩), .pointer (some ⟨bt, 0, none⟩), .pointer (some ⟨bv, 0, none⟩)] a fun e b => ∃ D' : Nat → Prop, (∀ q, D' q → D q ∨ (a.heap.size ≤ q ∧ q < b.heap.size)) ∧ Moved D a b ∧
  ((e = .returned (.bool true) ∧ RgI B bk bm bt bv most m to R l D' b) ∨ (e = .returned (.bool false) ∧ RgFin B bk bm bt bv most to R D' b)) := fun hs hRh => by
  refine (rangeq_stop B bk bm bt bv most to kv vv _ _ x a hrg (by rw [List.length_map]; omega) hs).mono ?_
  rintro e b ⟨rfl, hb⟩
  refine ⟨D, fun q hq => .inl hq, Moved.of_below hb D, .inr ⟨rfl, kv, vv, hD, ?_⟩⟩
  rw [hRh]
  exact hrg.carry (Moved.of_below hb (fun _ => False)) (fun _ _ h => h) (fun q hq => by rw [hD]; exact hq)
 by_cases h1 : had.length = m
 ·refine stop (.inl (by rw [List.length_map, hmm, h1])) ?_
  rw [hR', h1, Nat.sub_self, List.take_zero, List.append_nil]
 ·cases h2 : tokK to x with
  | false =>
   refine stop (.inr ?_) ?_
   ·unfold tokK at h2
    rw [Bool.or_eq_false_iff] at h2
    exact ⟨h2.1, by simpa using h2.2⟩
   ·rw [hR', List.takeWhile_cons, h2]; simp
  | true =>
   have hDD : D bk ∧ D bv := by rw [hD]; exact ⟨.inl rfl, .inr (.inr (.inr (.inl rfl)))⟩
   refine (rangeq_more B bk bm bt bv most to kv vv _ _ x a hrg (by rw [List.length_map]; omega) (by rw [List.length_map]; omega) (by rw [List.length_map, hmm]; omega) ?_ hDD.1 hDD.2 hne.1 hne.2.1 hne.2.2.1 hne.2.2.2.1 hne.2.2.2.2).mono ?_
   ·unfold tokK at h2
    rw [Bool.or_eq_true] at h2
    exact h2.imp (fun e => List.isEmpty_iff.1 e) (fun e => by simpa using e)
   ·rintro e b ⟨rfl, kv', vv', hr⟩
    have hm' := hr.mine
    have hlt := fun (r : Value × List ByteArray) hr' q hq => Live.lt hr (r := r) hr' q hq
    have hown : ∀ q, kv'.ownBlock = some q ∨ vv'.ownBlock = some q → D q ∨ (a.heap.size ≤ q ∧ q < b.heap.size) := fun q hq => by
     rcases hq with hq | hq
     ·exact (hm' _ (List.mem_cons_self ..) q hq).imp id (fun e => ⟨e, (hlt _ (List.mem_cons_self ..) q hq).2⟩)
     ·exact (hm' _ (List.mem_cons_of_mem _ (List.mem_cons_self ..)) q hq).imp id (fun e => ⟨e, (hlt _ (List.mem_cons_of_mem _ (List.mem_cons_self ..)) q hq).2⟩)
    refine ⟨RgOwn bk bm bt bv kv' vv', fun q hq => ?_, hr.mv, .inl ⟨rfl, kv', vv', had ++ [x], rfl, ?_, ?_, ?_⟩⟩
    ·have hb4 : ∀ z, z = bk ∨ z = bm ∨ z = bt ∨ z = bv → D z := fun z hz => by
      rw [hD]
      rcases hz with e | e | e | e
      ·exact .inl e
      ·exact .inr (.inl e)
      ·exact .inr (.inr (.inl e))
      ·exact .inr (.inr (.inr (.inl e)))
     rcases hq with e | e | e | e | e | e
     ·exact .inl (hb4 q (.inl e))
     ·exact .inl (hb4 q (.inr (.inl e)))
     ·exact .inl (hb4 q (.inr (.inr (.inl e))))
     ·exact .inl (hb4 q (.inr (.inr (.inr e))))
     ·exact hown q (.inl e)
     ·exact hown q (.inr e)
    ·rw [List.map_append, List.map_append]
     refine ⟨hr.fix, hr.own, hr.apart, hr.low, Moved.refl _ _, fun r hr' q hq => .inl ?_⟩
     simp only [List.mem_cons, List.not_mem_nil, or_false] at hr'
     rcases hr' with rfl | rfl
     ·exact .inr (.inr (.inr (.inr (.inl hq))))
     ·exact .inr (.inr (.inr (.inr (.inr hq))))
    ·rw [List.length_append, List.length_singleton]; omega
    ·rw [hR', List.takeWhile_cons, h2, if_pos rfl, show m - had.length = (m - (had ++ [x]).length) + 1 by rw [List.length_append, List.length_singleton]; omega, List.take_succ_cons, List.append_assoc]; rfl
theorem rangeL_length (fr to : ByteArray) (m : Nat) (l : List Ent) : (rangeL fr to m l).length ≤ l.length := by
 unfold rangeL
 refine Nat.le_trans (List.length_take_le' _ _) (Nat.le_trans (List.IsPrefix.length_le (List.takeWhile_prefix _)) (List.length_filter_le _ _))
set_option maxHeartbeats 4000000 in
theorem range_tree {w0 w : World} {X : Nat → Prop} {r p N M c : Nat} {G : Lg} {H : Option Lg} (h : Pb w0 w X r p N M c G H) {n : Nat} {t : BT Ent n} (hi : InLg N (H.getD G) t) (hl : t.flat.length ≤ 90000) (fr to : ByteArray) (m : Nat) :
 Calls Try.prog 10 #[.pointer (some ⟨p, 0, none⟩), .int .i64 (t.page : Int), .string fr, .string to, .int .i64 (m : Int)] w fun e w' => ∃ kv vv, e = .returned (.tuple #[kv, vv, .int .i64 0]) ∧ OwnS w' w.heap.size kv ((rangeL fr to m t.flat).map Ent.key) ∧ OwnS w' w.heap.size vv ((rangeL fr to m t.flat).map Ent.val) ∧ (∀ q, kv.ownBlock = some q → vv.ownBlock ≠ some q) ∧ Below w.heap.size w w' := by
 have hlow := hi.low
 have hpg : t.pages.length ≤ 2000 := by
  have h1 := nodup_length (N := N) (List.nodup_append.1 hi.nodup).2.1 (fun q hq => (hi.range q (List.mem_append_right _ hq)).2)
  have := hi.most
  omega
 obtain ⟨R, hR⟩ : ∃ R, R = rangeL fr to m t.flat := ⟨_, rfl⟩
 have hRl : R.length ≤ 90000 := by rw [hR]; exact Nat.le_trans (rangeL_length _ _ _ _) hl
 have a0 : Below w.heap.size w (w.alloc (.cells #[.string to] 9)) := (Below.refl _ w).alloc (Nat.le_refl _) _
 have s0 : (w.alloc (.cells #[.string to] 9)).heap.size = w.heap.size + 1 := by simp
 have k0 := Blk.new w #[.string to] 9
 obtain ⟨x1, hx1⟩ : ∃ x, x = w.alloc (.cells #[.string to] 9) := ⟨_, rfl⟩
 rw [← hx1] at a0 s0 k0
 have a1 : Below x1.heap.size x1 (x1.alloc (.cells #[.int .i64 (m : Int)] 3)) := (Below.refl _ x1).alloc (Nat.le_refl _) _
 have s1 : (x1.alloc (.cells #[.int .i64 (m : Int)] 3)).heap.size = w.heap.size + 1 + 1 := by simp [s0]
 have k1 := Blk.new x1 #[.int .i64 (m : Int)] 3
 rw [s0] at k1
 obtain ⟨x2, hx2⟩ : ∃ x, x = x1.alloc (.cells #[.int .i64 (m : Int)] 3) := ⟨_, rfl⟩
 rw [← hx2] at a1 s1 k1
 have a2 : Below x2.heap.size x2 (x2.alloc (.cells #[.slice none 0 0] 22)) := (Below.refl _ x2).alloc (Nat.le_refl _) _
 have s2 : (x2.alloc (.cells #[.slice none 0 0] 22)).heap.size = w.heap.size + 1 + 1 + 1 := by simp [s1]
 have k2 := Blk.new x2 #[.slice none 0 0] 22
 rw [s1] at k2
 obtain ⟨x3, hx3⟩ : ∃ x, x = x2.alloc (.cells #[.slice none 0 0] 22) := ⟨_, rfl⟩
 rw [← hx3] at a2 s2 k2
 have a3 : Below x3.heap.size x3 (x3.alloc (.cells #[.slice none 0 0] 22)) := (Below.refl _ x3).alloc (Nat.le_refl _) _
 have s3 : (x3.alloc (.cells #[.slice none 0 0] 22)).heap.size = w.heap.size + 1 + 1 + 1 + 1 := by simp [s2]
 have k3 := Blk.new x3 #[.slice none 0 0] 22
 rw [s2] at k3
 obtain ⟨x4, hx4⟩ : ∃ x, x = x3.alloc (.cells #[.slice none 0 0] 22) := ⟨_, rfl⟩
 rw [← hx4] at a3 s3 k3
 have f := fun _ : Nat => False
 have q0 : Blk x4 w.heap.size #[.string to] 9 := ((k0.moved (Moved.of_below a1 (fun _ => False)) (fun h => h)).moved (Moved.of_below a2 (fun _ => False)) (fun h => h)).moved (Moved.of_below a3 (fun _ => False)) (fun h => h)
 have q1 : Blk x4 (w.heap.size + 1) #[.int .i64 (m : Int)] 3 := (k1.moved (Moved.of_below a2 (fun _ => False)) (fun h => h)).moved (Moved.of_below a3 (fun _ => False)) (fun h => h)
 have q2 : Blk x4 (w.heap.size + 1 + 1) #[.slice none 0 0] 22 := k2.moved (Moved.of_below a3 (fun _ => False)) (fun h => h)
 have hal : Below w.heap.size w x4 := ((a0.trans (a1.mono a0.size)).trans (a2.mono (by omega))).trans (a3.mono (by omega))
 have hrg : RgAt x4 (RgOwn (w.heap.size + 1 + 1) (w.heap.size + 1) w.heap.size (w.heap.size + 1 + 1 + 1) (.slice none 0 0) (.slice none 0 0)) x4 x4.heap.size (w.heap.size + 1 + 1) (w.heap.size + 1) w.heap.size (w.heap.size + 1 + 1 + 1) (m : Int) to (.slice none 0 0) (.slice none 0 0) [] [] := by
  refine ⟨fun x hx => ?_, fun r hr => ?_, ?_, Nat.le_refl _, Moved.refl _ _, fun r hr q hq => ?_⟩
  ·simp only [RgF, List.mem_cons, List.not_mem_nil, or_false] at hx
   rcases hx with rfl | rfl | rfl | rfl
   ·exact ⟨q2, by omega⟩
   ·exact ⟨q1, by omega⟩
   ·exact ⟨q0, by omega⟩
   ·exact ⟨k3, by omega⟩
  ·simp only [List.mem_cons, List.not_mem_nil, or_false] at hr
   rcases hr with rfl | rfl <;> exact World.ownsRow_nil _ _ _ _
  ·simp [Value.ownBlock]
  ·simp only [List.mem_cons, List.not_mem_nil, or_false] at hr
   rcases hr with rfl | rfl <;> cases hq
 have hwk := walk_rng (h.take hal) hi.stored hi.root hi.sorted hlow hpg fr (.pointer (some ⟨w.heap.size + 1 + 1, 0, none⟩)) (.pointer (some ⟨w.heap.size + 1, 0, none⟩)) (.pointer (some ⟨w.heap.size, 0, none⟩)) (.pointer (some ⟨w.heap.size + 1 + 1 + 1, 0, none⟩))
  (fun l D a => RgI x4.heap.size (w.heap.size + 1 + 1) (w.heap.size + 1) w.heap.size (w.heap.size + 1 + 1 + 1) m m to R l D a) (fun D a => RgFin x4.heap.size (w.heap.size + 1 + 1) (w.heap.size + 1) w.heap.size (w.heap.size + 1 + 1 + 1) m to R D a)
  (fun l D P a b hI hm hP => by
   obtain ⟨kv, vv, had, hD, hr, e1, e2⟩ := hI
   exact ⟨kv, vv, had, hD, hr.carry hm (fun q hq => hP q (by rw [hD]; exact hq)) (fun q hq => by rw [hD]; exact hq), e1, e2⟩)
  (fun D P a b hI hm hP => by
   obtain ⟨kv, vv, hD, hr⟩ := hI
   exact ⟨kv, vv, hD, hr.carry hm (fun q hq => hP q (by rw [hD]; exact hq)) (fun q hq => by rw [hD]; exact hq)⟩)
  (fun D a hI => by
   obtain ⟨kv, vv, had, hD, hr, e1, e2⟩ := hI
   have : R = had := by rw [e2]; simp
   rw [← this] at hr
   exact ⟨kv, vv, hD, hr⟩)
  (fun x l D a hI => rg_see _ _ _ _ _ _ m rfl to R hRl ⟨by omega, by omega, by omega, by omega, by omega⟩ x l D a hI)
  (RgOwn (w.heap.size + 1 + 1) (w.heap.size + 1) w.heap.size (w.heap.size + 1 + 1 + 1) (.slice none 0 0) (.slice none 0 0)) ⟨_, _, [], rfl, hrg, Nat.zero_le _, by rw [hR]; rfl⟩
  (fun q hq => by
   have : w.heap.size ≤ q ∧ q < x4.heap.size := by
    rcases hq with e | e | e | e | e | e
    ·omega
    ·omega
    ·omega
    ·omega
    ·cases e
    ·cases e
   have := h.below.size
   exact ⟨.inr (by omega), by omega, by omega⟩)
 rw [← hR]
 obtain ⟨pg, hpg'⟩ : ∃ pg : Int, pg = (t.page : Int) := ⟨_, rfl⟩
 rw [← hpg'] at hwk ⊢
 have HWK := Lib.hid hwk
 have HAL := Lib.hid hal
 have HX := Lib.hid (show x4 = (((w.alloc (.cells #[.string to] 9)).alloc (.cells #[.int .i64 (m : Int)] 3)).alloc (.cells #[.slice none 0 0] 22)).alloc (.cells #[.slice none 0 0] 22) by rw [hx4, hx3, hx2, hx1])
 have i1 : ¬ ((m : Int) < 0) := by omega
 clear h hi hl hlow hpg hR hRl a0 s0 k0 hx1 a1 s1 k1 hx2 a2 s2 k2 hx3 a3 s3 k3 hx4 f q0 q1 q2 hal hrg hwk hpg'
 go_enter Try.func10, Try.ntmps10
 go_wp2_with fail
 go_step3
 go_wp2_with fail
 rw [← HX.out]
 refine HWK.out.mono ?_
 rintro en w1 ⟨rfl, D', h1, ⟨kv, vv, h2, h3⟩, h4⟩
 have hbel : Below w.heap.size w w1 := HAL.out.trans (h4.below (B := w.heap.size) (fun j hj => by
  rcases hj with e | e | e | e | e | e
  ·omega
  ·omega
  ·omega
  ·omega
  ·cases e
  ·cases e) HAL.out.size)
 obtain ⟨a1, p1, e1, -, -⟩ := (show OwnS _ _ kv _ from Live.at1 h3).ss.form
 obtain ⟨a2, p2, e2, -, -⟩ := (show OwnS _ _ vv _ from Live.at2 h3).ss.form
 generalize hm1 : List.length _ = m1 at e1
 generalize hm2 : List.length _ = m2 at e2
 subst e1 e2
 have c0 : w1.cell? ⟨w.heap.size + 1 + 1, 0, none⟩ = some (.slice a1 m1 p1) := by rw [h3.k.1.cell]; rfl
 have c1 : w1.cell? ⟨w.heap.size + 1 + 1 + 1, 0, none⟩ = some (.slice a2 m2 p2) := by rw [h3.v.1.cell]; rfl
 have f0 := h3.k.1.frozen 0
 have f1 := h3.v.1.frozen 0
 have hsz : w.heap.size ≤ x4.heap.size := HAL.out.size
 have hk4 := h3.k.2
 have hv4 := h3.v.2
 have HFI := Lib.hid (And.intro h3.apart (And.intro (Live.at1 h3) (Live.at2 h3)))
 have HK5 := Lib.hid (((h3.k.1.set 0 (.slice a1 m1 p1)).other ⟨w.heap.size + 1 + 1 + 1, 0, none⟩ (.slice a2 m2 p2) (by show w.heap.size + 1 + 1 ≠ w.heap.size + 1 + 1 + 1; omega)).drew)
 have HV5 := Lib.hid (((h3.v.1.other ⟨w.heap.size + 1 + 1, 0, none⟩ (.slice a1 m1 p1) (by show w.heap.size + 1 + 1 + 1 ≠ w.heap.size + 1 + 1; omega)).set 0 (.slice a2 m2 p2)).drew)
 have HBL := Lib.hid hbel
 have HSZ := Lib.hid (And.intro hk4 (And.intro hv4 hsz))
 clear h1 h2 h3 h4 hm1 hm2 hbel HWK HAL HX hsz hk4 hv4
 go_wp2_with fail
 go_region
 go_wp2_with fail
 repeat rw [Exit.noGoto_ret]
 have y0 := HK5.out.cell 0
 have y1 := HV5.out.cell 0
 clear c0 c1 f0 f1
 refine bodyPost_ret (v := .tuple #[.slice a1 m1 p1, .slice a2 m2 p2, .int .i64 0]) (by simp [results, Try.results10, go_sem, y0, y1]) rfl ?_
 have hms := (((Moved.refl (fun q => q = w.heap.size + 1 + 1 ∨ q = w.heap.size + 1 + 1 + 1) w1).setCell ⟨w.heap.size + 1 + 1, 0, none⟩ (.slice a1 m1 p1) (.inl (.inl rfl))).setCell ⟨w.heap.size + 1 + 1 + 1, 0, none⟩ (.slice a2 m2 p2) (.inl (.inr rfl))).drew
 obtain ⟨g1, g2, g3⟩ := HFI.out
 obtain ⟨z1, z2, z3⟩ := HSZ.out
 have g1' := (List.pairwise_cons.1 g1).1 _ (List.mem_cons_self ..)
 exact ⟨_, _, rfl, OwnS.mono9 (owns_moved g2 hms (fun q hq e => by have := World.ownsRow.lt g2 q hq; omega)) z3, OwnS.mono9 (owns_moved g3 hms (fun q hq e => by have := World.ownsRow.lt g3 q hq; omega)) z3, g1', HBL.out.trans (hms.below (B := w.heap.size) (fun j hj => by omega) HBL.out.size)⟩
end Go.Proofs.Ytpfjbcfnpfgidaa
