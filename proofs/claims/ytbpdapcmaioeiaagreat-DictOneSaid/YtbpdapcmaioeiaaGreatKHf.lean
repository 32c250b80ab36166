/- Hf -/
import Derived.Test.YtbpdapcmaioeiaaGreatKGo
import Derived.Test.YtbpdapcmaioeiaaGreatKHe
namespace Go.Proofs.YtbpdapcmaioeiaaGreat
open Go.RowKit Go.Maps
set_option maxRecDepth 100000
set_option linter.unusedVariables false
theorem wrap_small {z : Int} (h0 : 0 ≤ z) (h1 : z ≤ 1000000) : IntKind.i64.wrap z = z := by
 simp only [IntKind.wrap_i64]
 omega
set_option maxHeartbeats 16000000 in
theorem settle_tree {w0 w : World} {X X0 S : Nat → Prop} {r p N M c : Nat} {G H : Lg} (h : Pb w0 w X r p N M c G (some H)) (hX0 : ∀ q, X0 q → X q ∧ ¬ S q) (hSX : ∀ q, S q → X q ∧ w0.heap.size ≤ q ∧ q < w.heap.size)
 {R : Nat} {path0 : BT.Path Ent 0 R} {t0 : BT Ent 0} (hc : Chg N H path0 t0) (lv : Value) (full : List Stp) (hst : Sts w S lv full) (hlen : full.length = R + 1) (hway : OnWay path0 t0.page (full.take R)) (hhere : ∃ s, full[R]? = some s ∧ s.at' = (t0.page : Int) ∧ s.lvl = 0 ∧ s.es = ents t0) (hcc : c + 300000 < 500000) :
 Calls Tryz.prog 75 #[.pointer (some ⟨p, 0, none⟩), lv] w fun e w' => ∃ (m : Nat) (t' : BT Ent m) (H' : Lg) (c' : Nat), e = .returned (.tuple #[.int .i64 (t'.page : Int), .int .i64 0]) ∧ Done w0 w w' X0 r p N M c G H path0 t0 (R + 1) t' H' c' := by
 obtain ⟨g, cap, rfl, hg, hgS, hcap1, hcap2, -, -, -, -, -⟩ := hst.at R (by omega)
 obtain ⟨L0, hL0⟩ : ∃ L0, L0 = full.length := ⟨_, rfl⟩
 have hL0' : L0 = R + 1 := by omega
 rw [← hL0] at hst hcap1 ⊢
 have hhi := hc.high
 have hplen := path0.levels
 obtain ⟨J0, hJ0⟩ : ∃ J : Act → World → Prop, J = (fun a' w' => ∃ (k : Nat), ∃ u : Nat → Value, a' = { tmps := #[.pointer (some ⟨p, 0, none⟩), .slice (some ⟨g, 0, none⟩) L0 cap, u 2, u 3, .int .i64 0, .int .i64 0, u 6, u 7, u 8, .int .i64 k, u 10, u 11, u 12, u 13, u 14, u 15, u 16, u 17, u 18, u 19, u 20, u 21, u 22, u 23, u 24, u 25, u 26, u 27, u 28, u 29, u 30, u 31, u 32, u 33, u 34, u 35, u 36, u 37, u 38, u 39, u 40, u 41, u 42, u 43, u 44, u 45, u 46, u 47, u 48, u 49, u 50, u 51, u 52, u 53, u 54, u 55, u 56, u 57, u 58, u 59, u 60, u 61, u 62, u 63, u 64, u 65, u 66, u 67, u 68, u 69, u 70, u 71, u 72, u 73, u 74, u 75, u 76, u 77, u 78, u 79, u 80, u 81, u 82, u 83, u 84, u 85, u 86, u 87, u 88, u 89, u 90, u 91, u 92, u 93, u 94, u 95, u 96, u 97, u 98, u 99, u 100, u 101, u 102, u 103, u 104], defers := [] } ∧ ∃ (n : Nat) (path : BT.Path Ent n R) (t : BT Ent n) (fl : List Stp) (H' : Lg) (c' : Nat) (T : Nat → Prop), Up w0 w w' X X0 S r p N M c G H path0 t0 (.slice (some ⟨g, 0, none⟩) L0 cap) L0 k path t fl H' c' T) := ⟨_, rfl⟩
 obtain ⟨J1, hJ1⟩ : ∃ J : Act → World → Prop, J = (fun a' w' => ∃ u : Nat → Value, a' = { tmps := #[.pointer (some ⟨p, 0, none⟩), .slice (some ⟨g, 0, none⟩) L0 cap, u 2, u 3, .int .i64 0, .int .i64 0, u 6, u 7, u 8, u 9, .int .i64 0, u 11, u 12, u 13, u 14, u 15, u 16, u 17, u 18, u 19, u 20, u 21, u 22, u 23, u 24, u 25, u 26, u 27, u 28, u 29, u 30, u 31, u 32, u 33, u 34, u 35, u 36, u 37, u 38, u 39, u 40, u 41, u 42, u 43, u 44, u 45, u 46, u 47, u 48, u 49, u 50, u 51, u 52, u 53, u 54, u 55, u 56, u 57, u 58, u 59, u 60, u 61, u 62, u 63, u 64, u 65, u 66, u 67, u 68, u 69, u 70, u 71, u 72, u 73, u 74, u 75, u 76, u 77, u 78, u 79, u 80, u 81, u 82, u 83, u 84, u 85, u 86, u 87, u 88, u 89, u 90, u 91, u 92, u 93, u 94, u 95, u 96, u 97, u 98, u 99, u 100, u 101, u 102, u 103, u 104], defers := [] } ∧ ∃ (m : Nat) (t' : BT Ent m) (H' : Lg) (c' : Nat), Done w0 w w' X0 r p N M c G H path0 t0 L0 t' H' c' ∧ w'.cell? ⟨g, 0, none⟩ = some (.int .i64 (t'.page : Int))) := ⟨_, rfl⟩
 have hup : Up w0 w w X X0 S r p N M c G H path0 t0 (.slice (some ⟨g, 0, none⟩) L0 cap) L0 R path0 t0 full H c (fun _ => False) :=
  ⟨fun q hq => hq.elim, h.less (fun q hq => hq.elim id (fun e => e.elim)), hst.more (fun q hq _ => .inl hq), hL0.symm, by omega, hway, hhere, hc, fun m t' f' hs => hs, ⟨rfl, fun _ _ _ => rfl⟩, List.Perm.refl _, by omega, Mx.refl _ _ _⟩
 have HUP := Lib.hid hup
 have HJ0 := Lib.hid hJ0
 have HJ1 := Lib.hid hJ1
 have HSX := Lib.hid hSX
 have HX0 := Lib.hid hX0
 have HPB0 := Lib.hid h.below.size
 have HG := Lib.hid (And.intro hg hgS)
 have i0 : (0 : Int) < L0 := by omega
 have i1 : (L0 : Int) - 1 = R := by omega
 have i2 : L0 ≤ 11 := by omega
 have HL0 := Lib.hid hL0'
 clear h hX0 hSX hc hst hlen hway hhere hJ0 hJ1 hup hL0 hg hgS hL0' hplen
 go_enter Tryz.func75, Tryz.ntmps75
 go_wp2_with fail
 refine wp_scope_two J0 J1 (fun a _ => (intOf (a.tmps.getD 9 undef)).toNat) rfl rfl ?_ ?_ ?_
 ·rintro a wr hj
  rw [HJ1.out] at hj
  obtain ⟨u, rfl, m, t', H', c', hd, hc0⟩ := hj
  have HD := Lib.hid hd
  clear hd
  go_wp2_with fail
  repeat rw [Exit.noGoto_ret]
  go_ret2
  exact ⟨m, t', H', c', rfl, by rw [← HL0.out]; exact HD.out⟩
 ·rintro a wr hj
  rw [HJ0.out] at hj
  obtain ⟨k, u, rfl, n, path, t, fl, H', c', T, hu⟩ := hj
  have hcc' : c' + 210000 < 500000 := by have := hu.cost; omega
  cases path with
  | top =>
   have hk0 : k = 0 := by
    have h1 : fl.take k = [] := hu.way
    have h2 := hu.lt
    rw [← hu.len] at h2
    cases k with
    | zero => rfl
    | succ k => have h3 := congrArg List.length h1; rw [List.length_take, List.length_nil] at h3; omega
   subst hk0
   obtain ⟨s, hs0, hs1, hs2, hs3⟩ := hu.here
   have hl0 : 0 < fl.length := (List.getElem?_eq_some_iff.1 hs0).1
   have hse : fl[0] = s := (List.getElem?_eq_some_iff.1 hs0).2
   obtain ⟨g', cp', hsl, hgl, -, -, -, -, d0, d1, d2, d3⟩ := hu.sts.at 0 hl0
   obtain ⟨hen, hob⟩ := hu.sts.ens 0 hl0
   simp only [Value.slice.injEq, Option.some.injEq, Addr.mk.injEq, and_true] at hsl
   obtain ⟨rfl, -, rfl⟩ := hsl
   rw [hse] at d0 d1 d2 hen hob
   rw [hs1] at d0
   rw [hs2] at d1
   rw [hs3] at hen
   obtain ⟨vo, vc, hv, -⟩ := hen.form
   obtain ⟨q, hq⟩ : ∃ q, q = (ents t).length := ⟨_, rfl⟩
   rw [← hq] at hv
   rw [hv] at d2 hen hob
   obtain ⟨tp, htp⟩ : ∃ tp : Int, tp = (t.page : Int) := ⟨_, rfl⟩
   have htt := top_tree hu.pb hu.chg _ hen (fun q hq => .inr (((hob q hq).1).imp (fun e => (HSX.out q e).1) id)) (by omega)
   rw [← htp] at d0 htt
   simp only [Nat.zero_mul, Nat.zero_add] at d0 d1 d2
   have HT := Lib.hid htt
   have HU := Lib.hid hu
   unfold nodeV at HT
   clear hu hs0 hs1 hs2 hs3 hl0 hse d3 hen hob hv hq htp htt
   go_wp2_with fail
   refine HT.out.mono ?_
   rintro en w' ⟨m, t', H'', c'', rfl, hc'', hse', hst', hfr, hpb, hmx⟩
   have HR := Lib.hid (And.intro hse' (And.intro hst' (And.intro hfr (And.intro hpb hmx))))
   have HC := Lib.hid hc''
   clear hse' hst' hfr hpb hmx hc'' HT
   go_wp2_with fail
   repeat rw [Exit.two_ret]
   go_ret2
   obtain ⟨hse', hst', hfr, hpb, hmx⟩ := HR.out
   have hu := HU.out
   have hco := hu.cost
   have hcc := HC.out
   refine ⟨m, t', H'', c'', rfl, ?_⟩
   rw [← HL0.out]
   exact ⟨hu.goes _ _ _ hse', hst', hu.framed.trans hfr hu.perm, hpb.less (fun q hq => .inl (HX0.out q hq).1), hu.mx.trans (hmx.mono (fun j hj => ⟨hj.1, fun e => hj.2 (.inl (HX0.out j e).1)⟩)), by omega⟩
  | up pgn ka kb rest =>
   obtain ⟨km, s1, hkm, hs1, hp1, hp2, hp3, hp4, hwr⟩ := hu.above
   obtain ⟨s2, hs2, hq1, hq2, hq3⟩ := hu.here
   have hlen := hu.len
   have hl1 : km < fl.length := (List.getElem?_eq_some_iff.1 hs1).1
   have hl2 : k < fl.length := (List.getElem?_eq_some_iff.1 hs2).1
   have he1 : fl[km] = s1 := (List.getElem?_eq_some_iff.1 hs1).2
   have he2 : fl[k] = s2 := (List.getElem?_eq_some_iff.1 hs2).2
   obtain ⟨g', cp', hsl, hgl, hgST, -, -, hfrz, d0, d1, d2, d3⟩ := hu.sts.at k hl2
   obtain ⟨hen, hob⟩ := hu.sts.ens k hl2
   simp only [Value.slice.injEq, Option.some.injEq, Addr.mk.injEq, and_true] at hsl
   obtain ⟨rfl, -, rfl⟩ := hsl
   obtain ⟨g', cp', hsl, -, -, -, -, -, b0, b1, b2, b3⟩ := hu.sts.at km hl1
   obtain ⟨hen1, hob1⟩ := hu.sts.ens km hl1
   simp only [Value.slice.injEq, Option.some.injEq, Addr.mk.injEq, and_true] at hsl
   obtain ⟨rfl, -, rfl⟩ := hsl
   rw [he2] at d0 d1 d2 hen hob
   rw [he1] at b0 b1 b2 b3 hen1 hob1
   rw [hq1] at d0
   rw [hq2] at d1
   rw [hq3] at hen
   rw [hp1] at b0
   rw [hp2] at b1
   rw [hp4] at b3
   rw [hp3] at hen1
   obtain ⟨vo, vc, hv, -⟩ := hen.form
   obtain ⟨q, hq⟩ : ∃ q, q = (ents t).length := ⟨_, rfl⟩
   rw [← hq] at hv
   rw [hv] at d2 hen hob
   obtain ⟨uo, uc, hv1, -⟩ := hen1.form
   obtain ⟨q1, hqq1⟩ : ∃ q1, q1 = (ka ++ t :: kb).length := ⟨_, rfl⟩
   rw [List.length_map, ← hqq1] at hv1
   rw [hv1] at b2 hen1 hob1
   obtain ⟨tp, htp⟩ : ∃ tp : Int, tp = (t.page : Int) := ⟨_, rfl⟩
   obtain ⟨pp, hpp⟩ : ∃ pp : Int, pp = (pgn : Int) := ⟨_, rfl⟩
   obtain ⟨kn, hkn⟩ : ∃ kn, kn = ka.length := ⟨_, rfl⟩
   obtain ⟨lvl, hlvl⟩ : ∃ lvl : Int, lvl = ((n : Nat) : Int) + 1 := ⟨_, rfl⟩
   rw [← htp] at d0
   rw [← hpp] at b0
   rw [← hkn] at b3
   rw [← hlvl] at b1
   have hchg := hu.chg
   have hfew := hchg.few
   have hentl : (ents t).length = t.items.length := List.length_map ..
   have hoks : ∀ e ∈ ents t, EntOk e := fun e he => by
    obtain ⟨x, hx, rfl⟩ := List.mem_map.1 he
    exact kept_ok (hchg.kept x hx)
   have hgo := good_any tp ((n : Nat) : Int) (.slice vo q vc) (ents t) wr hen (by omega) hoks
   have hszi : sizes ((n : Nat) : Int) (ents t) = Parts.size isz t.items := sizes_ient _
   rw [hszi] at hgo
   obtain ⟨sz, hsz⟩ : ∃ sz, sz = Parts.size isz t.items := ⟨_, rfl⟩
   rw [← hsz] at hgo
   have hnR : n < R := by
    have := (BT.Path.up pgn ka kb rest).levels
    have hpl : (BT.Path.up pgn ka kb rest).len = rest.len + 1 := rfl
    omega
   have hhi := hchg.high
   have HGO := Lib.hid hgo
   have HU := Lib.hid hu
   have HSZ := Lib.hid hsz
   have HEN := Lib.hid (And.intro hen (And.intro hob (And.intro hen1 hob1)))
   have HS := Lib.hid (And.intro hs1 (And.intro hp1 (And.intro hp2 (And.intro hp3 (And.intro hp4 hwr)))))
   have HS2 := Lib.hid (And.intro hs2 (And.intro hq1 (And.intro hq2 hq3)))
   have HV := Lib.hid (And.intro hv hv1)
   have HQ := Lib.hid (And.intro hq hqq1)
   have HTP := Lib.hid (And.intro htp (And.intro hpp (And.intro hkn hlvl)))
   have HOK := Lib.hid hoks
   have HCHG := Lib.hid hchg
   have HLEN := Lib.hid hlen
   have HGL := Lib.hid (And.intro hgl (And.intro hgST hfrz))
   have i3 : (k : Int) < L0 := by omega
   have i4 : (k : Int) - 1 = km := by omega
   have i5 : (km : Int) < L0 := by omega
   have i6 : ((k : Int) == 0) = false := by simp; omega
   have HKM := Lib.hid hkm
   unfold nodeV at HGO
   have D := Lib.hid (And.intro d0 (And.intro d1 d2))
   have B := Lib.hid (And.intro b0 (And.intro b1 (And.intro b2 b3)))
   clear hu hsz hs1 hp1 hp2 hp3 hp4 hwr hs2 hq1 hq2 hq3 hlen hl1 hl2 he1 he2 hgl hgST hfrz hen hob hen1 hob1 hv hq hv1 hqq1 htp hpp hkn hlvl hchg hfew hentl hoks hgo hszi hkm d3 b0 b1 b2 b3
   go_wp2_with fail
   refine HGO.out.mono ?_
   rintro en w2 ⟨rfl, hb2⟩
   have HB2 := Lib.hid hb2
   obtain ⟨tb, htb⟩ : ∃ tb, tb = (decide (251 ≤ sz) && decide (sz ≤ 502)) := ⟨_, rfl⟩
   rw [← htb]
   have HTB := Lib.hid htb
   clear hb2 htb HGO d0 d1 d2
   cases tb with
   | true =>
    have htb := HTB.out
    have hsz := HSZ.out
    have hs1 : 251 ≤ Parts.size isz t.items ∧ Parts.size isz t.items ≤ 502 := by
     have := htb.symm
     rw [Bool.and_eq_true, decide_eq_true_eq, decide_eq_true_eq] at this
     omega
    have hu := HU.out
    have hchg := HCHG.out
    have hpg := hchg.used t.page (by rw [mem_plug]; exact .inl (BT.page_mem t))
    obtain ⟨hpo, hpf⟩ := part_fits (fun x hx => hchg.kept x hx) hs1.2
    obtain ⟨hen, hob, -, -⟩ := HEN.out
    have hdr : Below w2.heap.size w2 w2.drew := (Below.refl w2.heap.size w2).drew
    have hpw := bt_write ((hu.pb.grow HB2.out).grow hdr) (by omega) tp ((n : Nat) : Int) (by rw [HTP.out.1]; exact wf_page hpg.2.1 hchg.most) (.slice vo q vc) (ents t) ((hen.below HB2.out).below hdr) (fun _ g hg => .inr ((hob g hg).1.imp (fun e => (HSX.out g e).1) id)) HOK.out hpo.pre (by have := hpf; unfold ents; omega)
    obtain ⟨H2, hH2⟩ : ∃ H2 : Lg, H2 = { H' with page := upd H'.page t.page (page (enc ((n : Nat) : Int) (ents t))) } := ⟨_, rfl⟩
    have hlp : lgPut N tp (enc ((n : Nat) : Int) (ents t)) (some H') = (0, some H2) := by
     have hsz5 : (enc ((n : Nat) : Int) (ents t)).length ≤ 504 := hpo.size
     rw [lgPut_some, if_pos (show lgUsed N H' tp from by rw [HTP.out.1]; exact ⟨by omega, by omega, by simpa using hpg.2.2⟩), if_neg (by omega), hH2, HTP.out.1]
     simp
    rw [hlp] at hpw
    obtain ⟨g1, g2, g3⟩ := hchg.good2 hnR hs1.2 hs1.1 hH2
    have hgb : ∀ q, (S q ∨ T q) → ¬ (w0.heap.size ≤ q ∧ ¬ (X q ∨ T q)) := fun q hq e => e.2 (hq.imp (fun e => (HSX.out q e).1) id)
    have h00 : 0 < fl.length := by have := HLEN.out; omega
    obtain ⟨g', cp', hsl, -, -, -, -, -, c00, -, -, -⟩ := hu.sts.at 0 h00
    simp only [Value.slice.injEq, Option.some.injEq, Addr.mk.injEq, and_true] at hsl
    obtain ⟨rfl, -, rfl⟩ := hsl
    have hroot : fl[0].at' = (((BT.Path.up pgn ka kb rest).plug t).page : Int) := by
     have hw := way_root hu.way (by rw [List.length_take]; have := HLEN.out; have := HKM.out; omega)
     rw [List.getElem_take] at hw
     exact hw
    rw [hroot, Nat.zero_mul] at c00
    have e0 := (HB2.out.cell (show (⟨g, k * 4, none⟩ : Addr).block < _ from HGL.out.1)).trans D.out.1
    have e1 := (HB2.out.cell (show (⟨g, k * 4 + 1, none⟩ : Addr).block < _ from HGL.out.1)).trans D.out.2.1
    have e2 := (HB2.out.cell (show (⟨g, k * 4 + 2, none⟩ : Addr).block < _ from HGL.out.1)).trans D.out.2.2
    have E := Lib.hid (And.intro e0 (And.intro e1 e2))
    have C00 := Lib.hid c00
    have HPW := Lib.hid hpw
    have HG2 := Lib.hid (And.intro g1 (And.intro g2 g3))
    have HGB := Lib.hid (hgb g HGL.out.2.1)
    have HG2L := Lib.hid (show g < w2.heap.size from Nat.lt_of_lt_of_le HGL.out.1 HB2.out.size)
    clear htb hsz hs1 hu hchg hpg hpo hpf hen hob hdr hpw hH2 hlp g1 g2 g3 hgb h00 hroot c00 e0 e1 e2
    go_wp2_with fail
    refine wp_region_any (by kernel_rfl) ?_
    change wpAny _ _ _ _ _ _ _ (World.drew _)
    refine wpAny_of_held (S := fun (w' : World) => w'.cell? ⟨g, k * 4, none⟩ = some (.int .i64 tp) ∧ w'.cell? ⟨g, k * 4 + 1, none⟩ = some (.int .i64 n) ∧ w'.cell? ⟨g, k * 4 + 2, none⟩ = some (.slice vo q vc)) _ _ _ _ ?_
    have hS : (fun (w' : World) => w'.cell? ⟨g, k * 4, none⟩ = some (.int .i64 tp) ∧ w'.cell? ⟨g, k * 4 + 1, none⟩ = some (.int .i64 n) ∧ w'.cell? ⟨g, k * 4 + 2, none⟩ = some (.slice vo q vc)) _ := E.out
    try simp only [Act.put, List.setIfInBounds_toArray, List.set_cons_zero, List.set_cons_succ]
    refine wpAnyH_take (i := 0) (oi := ⟨some 30, _, _, _, _, _⟩) (v := ?_) rfl (by kernel_rfl) (by kernel_rfl) (by kernel_rfl) (fun _ _ _ h => h) (Or.inl ⟨by simp only [Region.wanted], ?_⟩) hS ?_
    rotate_left
    ·intro wz hSw
     clear hSw
     go_simp
     first | done | with_reducible rfl
    try simp only [Act.put, List.setIfInBounds_toArray, List.set_cons_zero, List.set_cons_succ]
    refine wpAnyH_take (i := 1) (oi := ⟨some 31, _, _, _, _, _⟩) (v := ?_) rfl (by kernel_rfl) (by kernel_rfl) (by kernel_rfl) (fun _ _ _ h => h) (Or.inl ⟨by simp only [Region.wanted], ?_⟩) hS ?_
    rotate_left
    ·intro wz hSw
     clear hSw
     go_simp
     first | done | with_reducible rfl
    try simp only [Act.put, List.setIfInBounds_toArray, List.set_cons_zero, List.set_cons_succ]
    refine wpAnyH_take (i := 2) (oi := ⟨some 32, _, _, _, _, _⟩) (v := ?_) rfl (by kernel_rfl) (by kernel_rfl) (by kernel_rfl) (fun _ _ _ h => h) (Or.inl ⟨by simp only [Region.wanted], ?_⟩) hS ?_
    rotate_left
    ·intro wz hSw
     clear hSw
     go_simp
     first | done | with_reducible rfl
    try simp only [Act.put, List.setIfInBounds_toArray, List.set_cons_zero, List.set_cons_succ]
    refine wpAnyH_take (i := 3) (oi := ⟨some 33, _, _, _, _, _⟩) (v := ?_) rfl (by kernel_rfl) (by kernel_rfl) (by kernel_rfl) (fun _ _ _ h => h) (Or.inl ⟨by simp only [Region.wanted], ?_⟩) hS ?_
    rotate_left
    ·intro wz hSw
     clear hSw
     go_simp
     first | done | with_reducible rfl
    try simp only [Act.put, List.setIfInBounds_toArray, List.set_cons_zero, List.set_cons_succ]
    refine wpAnyH_take (i := 4) (oi := ⟨some 34, _, _, _, _, _⟩) (v := ?_) rfl (by kernel_rfl) (by kernel_rfl) (by kernel_rfl) (fun _ _ _ h => h) (Or.inl ⟨by simp only [Region.wanted], ?_⟩) hS ?_
    rotate_left
    ·intro wz hSw
     clear hSw
     go_simp
     first | done | with_reducible rfl
    try simp only [Act.put, List.setIfInBounds_toArray, List.set_cons_zero, List.set_cons_succ]
    refine wpAnyH_take (i := 5) (oi := ⟨some 35, _, _, _, _, _⟩) (v := ?_) rfl (by kernel_rfl) (by kernel_rfl) (by kernel_rfl) (fun _ _ _ h => h) (Or.inl ⟨by simp only [Region.wanted], ?_⟩) hS ?_
    rotate_left
    ·intro wz hSw
     clear hSw
     go_simp
     first | done | with_reducible rfl
    try simp only [Act.put, List.setIfInBounds_toArray, List.set_cons_zero, List.set_cons_succ]
    refine wpAnyH_take (i := 6) (oi := ⟨some 36, _, _, _, _, _⟩) (v := ?_) rfl (by kernel_rfl) (by kernel_rfl) (by kernel_rfl) (fun _ _ _ h => h) (Or.inl ⟨by simp only [Region.wanted], ?_⟩) hS ?_
    rotate_left
    ·intro wz hSw
     (try dsimp only at hSw)
     (try go_split_ands)
     go_simp
     first | done | with_reducible rfl
    try simp only [Act.put, List.setIfInBounds_toArray, List.set_cons_zero, List.set_cons_succ]
    refine wpAnyH_take (i := 7) (oi := ⟨some 37, _, _, _, _, _⟩) (v := ?_) rfl (by kernel_rfl) (by kernel_rfl) (by kernel_rfl) (fun _ _ _ h => h) (Or.inl ⟨by simp only [Region.wanted], ?_⟩) hS ?_
    rotate_left
    ·intro wz hSw
     clear hSw
     go_simp
     first | done | with_reducible rfl
    try simp only [Act.put, List.setIfInBounds_toArray, List.set_cons_zero, List.set_cons_succ]
    refine wpAnyH_take (i := 8) (oi := ⟨some 38, _, _, _, _, _⟩) (v := ?_) rfl (by kernel_rfl) (by kernel_rfl) (by kernel_rfl) (fun _ _ _ h => h) (Or.inl ⟨by simp only [Region.wanted], ?_⟩) hS ?_
    rotate_left
    ·intro wz hSw
     clear hSw
     go_simp
     first | done | with_reducible rfl
    try simp only [Act.put, List.setIfInBounds_toArray, List.set_cons_zero, List.set_cons_succ]
    refine wpAnyH_take (i := 9) (oi := ⟨some 39, _, _, _, _, _⟩) (v := ?_) rfl (by kernel_rfl) (by kernel_rfl) (by kernel_rfl) (fun _ _ _ h => h) (Or.inl ⟨by simp only [Region.wanted], ?_⟩) hS ?_
    rotate_left
    ·intro wz hSw
     clear hSw
     go_simp
     first | done | with_reducible rfl
    try simp only [Act.put, List.setIfInBounds_toArray, List.set_cons_zero, List.set_cons_succ]
    refine wpAnyH_take (i := 10) (oi := ⟨some 40, _, _, _, _, _⟩) (v := ?_) rfl (by kernel_rfl) (by kernel_rfl) (by kernel_rfl) (fun _ _ _ h => h) (Or.inl ⟨by simp only [Region.wanted], ?_⟩) hS ?_
    rotate_left
    ·intro wz hSw
     clear hSw
     go_simp
     first | done | with_reducible rfl
    try simp only [Act.put, List.setIfInBounds_toArray, List.set_cons_zero, List.set_cons_succ]
    refine wpAnyH_take (i := 11) (oi := ⟨some 41, _, _, _, _, _⟩) (v := ?_) rfl (by kernel_rfl) (by kernel_rfl) (by kernel_rfl) (fun _ _ _ h => h) (Or.inl ⟨by simp only [Region.wanted], ?_⟩) hS ?_
    rotate_left
    ·intro wz hSw
     clear hSw
     go_simp
     first | done | with_reducible rfl
    try simp only [Act.put, List.setIfInBounds_toArray, List.set_cons_zero, List.set_cons_succ]
    refine wpAnyH_take (i := 12) (oi := ⟨some 42, _, _, _, _, _⟩) (v := ?_) rfl (by kernel_rfl) (by kernel_rfl) (by kernel_rfl) (fun _ _ _ h => h) (Or.inl ⟨by simp only [Region.wanted], ?_⟩) hS ?_
    rotate_left
    ·intro wz hSw
     (try dsimp only at hSw)
     (try go_split_ands)
     go_simp
     first | done | with_reducible rfl
    try simp only [Act.put, List.setIfInBounds_toArray, List.set_cons_zero, List.set_cons_succ]
    refine wpAnyH_take (i := 13) (oi := ⟨some 43, _, _, _, _, _⟩) (v := ?_) rfl (by kernel_rfl) (by kernel_rfl) (by kernel_rfl) (fun _ _ _ h => h) (Or.inl ⟨by simp only [Region.wanted], ?_⟩) hS ?_
    rotate_left
    ·intro wz hSw
     clear hSw
     go_simp
     first | done | with_reducible rfl
    try simp only [Act.put, List.setIfInBounds_toArray, List.set_cons_zero, List.set_cons_succ]
    refine wpAnyH_take (i := 14) (oi := ⟨some 44, _, _, _, _, _⟩) (v := ?_) rfl (by kernel_rfl) (by kernel_rfl) (by kernel_rfl) (fun _ _ _ h => h) (Or.inl ⟨by simp only [Region.wanted], ?_⟩) hS ?_
    rotate_left
    ·intro wz hSw
     clear hSw
     go_simp
     first | done | with_reducible rfl
    try simp only [Act.put, List.setIfInBounds_toArray, List.set_cons_zero, List.set_cons_succ]
    refine wpAnyH_take (i := 15) (oi := ⟨some 45, _, _, _, _, _⟩) (v := ?_) rfl (by kernel_rfl) (by kernel_rfl) (by kernel_rfl) (fun _ _ _ h => h) (Or.inl ⟨by simp only [Region.wanted], ?_⟩) hS ?_
    rotate_left
    ·intro wz hSw
     clear hSw
     go_simp
     first | done | with_reducible rfl
    try simp only [Act.put, List.setIfInBounds_toArray, List.set_cons_zero, List.set_cons_succ]
    refine wpAnyH_take (i := 16) (oi := ⟨some 46, _, _, _, _, _⟩) (v := ?_) rfl (by kernel_rfl) (by kernel_rfl) (by kernel_rfl) (fun _ _ _ h => h) (Or.inl ⟨by simp only [Region.wanted], ?_⟩) hS ?_
    rotate_left
    ·intro wz hSw
     clear hSw
     go_simp
     first | done | with_reducible rfl
    try simp only [Act.put, List.setIfInBounds_toArray, List.set_cons_zero, List.set_cons_succ]
    refine wpAnyH_take (i := 17) (oi := ⟨some 47, _, _, _, _, _⟩) (v := ?_) rfl (by kernel_rfl) (by kernel_rfl) (by kernel_rfl) (fun _ _ _ h => h) (Or.inl ⟨by simp only [Region.wanted], ?_⟩) hS ?_
    rotate_left
    ·intro wz hSw
     clear hSw
     go_simp
     first | done | with_reducible rfl
    try simp only [Act.put, List.setIfInBounds_toArray, List.set_cons_zero, List.set_cons_succ]
    refine wpAnyH_take (i := 18) (oi := ⟨some 48, _, _, _, _, _⟩) (v := ?_) rfl (by kernel_rfl) (by kernel_rfl) (by kernel_rfl) (fun _ _ _ h => h) (Or.inl ⟨by simp only [Region.wanted], ?_⟩) hS ?_
    rotate_left
    ·intro wz hSw
     (try dsimp only at hSw)
     (try go_split_ands)
     go_simp
     first | done | with_reducible rfl
    try simp only [Act.put, List.setIfInBounds_toArray, List.set_cons_zero, List.set_cons_succ]
    refine wpAnyH_ready (rs := [19]) (by kernel_rfl) (by simp) ?_
    refine AllReadyH.cons (o := ⟨some 49, _, _, _, _, _⟩) rfl (fun K hK => ?_) AllReadyH.nil
    go_simp
    refine HPW.out.mono ?_
    rintro en w4 ⟨rfl, h4, hm4⟩
    have H4 := Lib.hid h4
    have HM4 := Lib.hid hm4
    clear h4 hm4 HPW
    have hkb := HM4.out.block g HG2L.out HGB.out
    refine hK.out _ _ (⟨(World.cell?_of_block (a := ⟨g, k * 4, none⟩) hkb).trans E.out.1, (World.cell?_of_block (a := ⟨g, k * 4 + 1, none⟩) hkb).trans E.out.2.1, (World.cell?_of_block (a := ⟨g, k * 4 + 2, none⟩) hkb).trans E.out.2.2⟩) (fun hS => ?_)
    clear hK K
    try simp only [Act.put, List.setIfInBounds_toArray, List.set_cons_zero, List.set_cons_succ]
    refine wpAnyH_take (i := 20) (oi := ⟨some 10, _, _, _, _, _⟩) (v := ?_) rfl (by kernel_rfl) (by kernel_rfl) (by kernel_rfl) (fun _ _ _ h => h) (Or.inl ⟨by simp only [Region.wanted], ?_⟩) hS ?_
    rotate_left
    ·intro wz hSw
     clear hSw
     go_simp
     first | done | with_reducible rfl
    try simp only [Act.put, List.setIfInBounds_toArray, List.set_cons_zero, List.set_cons_succ]
    refine wpAnyH_done (by kernel_rfl) ?_ _
    clear hS
    go_wp2_with fail
    go_step3
    refine .inr ⟨rfl, ?_⟩
    rw [HJ1.out]
    have hu := HU.out
    have hco := hu.cost
    obtain ⟨g1, g2, g3⟩ := HG2.out
    have hmm : Mx w0 X0 wr w4 := (Mx.of HB2.out).trans ((Mx.of ((Below.refl w2.heap.size w2).drew)).trans (HM4.out.mono (fun j hj => ⟨hj.1, fun e => hj.2 (.inl (HX0.out j e).1)⟩)))
    refine ex_u _ _ (by kernel_rfl) _ ⟨R, (BT.Path.up pgn ka kb rest).plug t, H2, c' + 1, ⟨hu.goes _ _ _ g1, g2, hu.framed.trans g3 hu.perm, H4.out.less (fun q hq => .inl (HX0.out q hq).1), hu.mx.trans hmm, by omega⟩, ?_⟩
    exact (World.cell?_of_block (a := ⟨g, 0, none⟩) hkb).trans ((HB2.out.cell (show (⟨g, 0, none⟩ : Addr).block < _ from HGL.out.1)).trans C00.out)
   | false =>
    have hu := HU.out
    have hchg := HCHG.out
    obtain ⟨hen, hob, hen1, hob1⟩ := HEN.out
    obtain ⟨p1, p2, p3, p4⟩ := hchg.prop
    obtain ⟨s1', s2', s3', s4'⟩ := hchg.pst
    have hdr : Below w2.heap.size w2 w2.drew := (Below.refl w2.heap.size w2).drew
    have htg := together_any ((hu.pb.grow HB2.out).grow hdr) (ka := ka) (kb := kb) (t := t) (fun x hx => ⟨s2' x hx, p2 x hx⟩) (fun x hx => ⟨s3' x hx, p3 x hx⟩) pp (.slice uo q1 uc) (.slice vo q vc) ((hen1.below HB2.out).below hdr) ((hen.below HB2.out).below hdr)
     (fun j hj => Nat.lt_of_lt_of_le (hob j hj).2.1 HB2.out.size) p1 (by have := kids_few hchg; omega) (by omega) (by have := hchg.few; have : (ents t).length = t.items.length := List.length_map ..; omega) HOK.out lvl HTP.out.2.2.2
    rw [← HTP.out.1, ← HTP.out.2.2.1] at htg
    have HTG := Lib.hid htg
    unfold nodeV stepV at HTG
    have E := Lib.hid (show w2.cell? ⟨g, k * 4, none⟩ = some (.int .i64 tp) ∧ w2.cell? ⟨g, k * 4 + 1, none⟩ = some (.int .i64 n) ∧ w2.cell? ⟨g, k * 4 + 2, none⟩ = some (.slice vo q vc) ∧ w2.cell? ⟨g, km * 4, none⟩ = some (.int .i64 pp) ∧ w2.cell? ⟨g, km * 4 + 1, none⟩ = some (.int .i64 lvl) ∧ w2.cell? ⟨g, km * 4 + 2, none⟩ = some (.slice uo q1 uc) ∧ w2.cell? ⟨g, km * 4 + 3, none⟩ = some (.int .i64 kn) from
     ⟨(HB2.out.cell (show (⟨g, k * 4, none⟩ : Addr).block < _ from HGL.out.1)).trans D.out.1, (HB2.out.cell (show (⟨g, k * 4 + 1, none⟩ : Addr).block < _ from HGL.out.1)).trans D.out.2.1, (HB2.out.cell (show (⟨g, k * 4 + 2, none⟩ : Addr).block < _ from HGL.out.1)).trans D.out.2.2,
      (HB2.out.cell (show (⟨g, km * 4, none⟩ : Addr).block < _ from HGL.out.1)).trans B.out.1, (HB2.out.cell (show (⟨g, km * 4 + 1, none⟩ : Addr).block < _ from HGL.out.1)).trans B.out.2.1, (HB2.out.cell (show (⟨g, km * 4 + 2, none⟩ : Addr).block < _ from HGL.out.1)).trans B.out.2.2.1, (HB2.out.cell (show (⟨g, km * 4 + 3, none⟩ : Addr).block < _ from HGL.out.1)).trans B.out.2.2.2⟩)
    have HG2L := Lib.hid (show g < w2.heap.size from Nat.lt_of_lt_of_le HGL.out.1 HB2.out.size)
    clear hu hchg hen hob hen1 hob1 p1 p2 p3 p4 s1' s2' s3' s4' hdr htg
    go_wp2_with fail
    have hwk : IntKind.i64.wrap ((km : Nat) : Int) = ((km : Nat) : Int) := wrap_small (by omega) (by omega)
    refine wp_region_any (by kernel_rfl) ?_
    change wpAny _ _ _ _ _ _ _ (World.drew _)
    refine wpAny_of_held (S := fun (w' : World) => w'.cell? ⟨g, k * 4, none⟩ = some (.int .i64 tp) ∧ w'.cell? ⟨g, k * 4 + 1, none⟩ = some (.int .i64 n) ∧ w'.cell? ⟨g, k * 4 + 2, none⟩ = some (.slice vo q vc) ∧ w'.cell? ⟨g, km * 4, none⟩ = some (.int .i64 pp) ∧ w'.cell? ⟨g, km * 4 + 1, none⟩ = some (.int .i64 lvl) ∧ w'.cell? ⟨g, km * 4 + 2, none⟩ = some (.slice uo q1 uc) ∧ w'.cell? ⟨g, km * 4 + 3, none⟩ = some (.int .i64 kn)) _ _ _ _ ?_
    have hS : (fun (w' : World) => w'.cell? ⟨g, k * 4, none⟩ = some (.int .i64 tp) ∧ w'.cell? ⟨g, k * 4 + 1, none⟩ = some (.int .i64 n) ∧ w'.cell? ⟨g, k * 4 + 2, none⟩ = some (.slice vo q vc) ∧ w'.cell? ⟨g, km * 4, none⟩ = some (.int .i64 pp) ∧ w'.cell? ⟨g, km * 4 + 1, none⟩ = some (.int .i64 lvl) ∧ w'.cell? ⟨g, km * 4 + 2, none⟩ = some (.slice uo q1 uc) ∧ w'.cell? ⟨g, km * 4 + 3, none⟩ = some (.int .i64 kn)) _ := E.out
    try simp only [Act.put, List.setIfInBounds_toArray, List.set_cons_zero, List.set_cons_succ]
    refine wpAnyH_take (i := 0) (oi := ⟨some 51, _, _, _, _, _⟩) (v := ?_) rfl (by kernel_rfl) (by kernel_rfl) (by kernel_rfl) (fun _ _ _ h => h) (Or.inl ⟨by simp only [Region.wanted], ?_⟩) hS ?_
    rotate_left
    ·intro wz hSw
     clear hSw
     go_simp
     first | done | with_reducible rfl
    try simp only [Act.put, List.setIfInBounds_toArray, List.set_cons_zero, List.set_cons_succ]
    refine wpAnyH_take (i := 1) (oi := ⟨some 52, _, _, _, _, _⟩) (v := ?_) rfl (by kernel_rfl) (by kernel_rfl) (by kernel_rfl) (fun _ _ _ h => h) (Or.inl ⟨by simp only [Region.wanted], ?_⟩) hS ?_
    rotate_left
    ·intro wz hSw
     clear hSw
     go_simp
     first | done | with_reducible rfl
    try simp only [Act.put, List.setIfInBounds_toArray, List.set_cons_zero, List.set_cons_succ]
    refine wpAnyH_take (i := 2) (oi := ⟨some 53, _, _, _, _, _⟩) (v := ?_) rfl (by kernel_rfl) (by kernel_rfl) (by kernel_rfl) (fun _ _ _ h => h) (Or.inl ⟨by simp only [Region.wanted], ?_⟩) hS ?_
    rotate_left
    ·intro wz hSw
     clear hSw
     go_simp
     first | done | with_reducible rfl
    try simp only [Act.put, List.setIfInBounds_toArray, List.set_cons_zero, List.set_cons_succ]
    refine wpAnyH_take (i := 3) (oi := ⟨some 54, _, _, _, _, _⟩) (v := ?_) rfl (by kernel_rfl) (by kernel_rfl) (by kernel_rfl) (fun _ _ _ h => h) (Or.inl ⟨by simp only [Region.wanted], ?_⟩) hS ?_
    rotate_left
    ·intro wz hSw
     clear hSw
     go_simp
     first | done | with_reducible rfl
    try simp only [Act.put, List.setIfInBounds_toArray, List.set_cons_zero, List.set_cons_succ]
    refine wpAnyH_take (i := 4) (oi := ⟨some 55, _, _, _, _, _⟩) (v := ?_) rfl (by kernel_rfl) (by kernel_rfl) (by kernel_rfl) (fun _ _ _ h => h) (Or.inl ⟨by simp only [Region.wanted], ?_⟩) hS ?_
    rotate_left
    ·intro wz hSw
     clear hSw
     go_simp
     first | done | with_reducible rfl
    try simp only [Act.put, List.setIfInBounds_toArray, List.set_cons_zero, List.set_cons_succ]
    refine wpAnyH_take (i := 5) (oi := ⟨some 56, _, _, _, _, _⟩) (v := ?_) rfl (by kernel_rfl) (by kernel_rfl) (by kernel_rfl) (fun _ _ _ h => h) (Or.inl ⟨by simp only [Region.wanted], ?_⟩) hS ?_
    rotate_left
    ·intro wz hSw
     (try dsimp only at hSw)
     (try go_split_ands)
     go_simp
     first | done | with_reducible rfl
    try simp only [Act.put, List.setIfInBounds_toArray, List.set_cons_zero, List.set_cons_succ]
    refine wpAnyH_take (i := 6) (oi := ⟨some 57, _, _, _, _, _⟩) (v := ?_) rfl (by kernel_rfl) (by kernel_rfl) (by kernel_rfl) (fun _ _ _ h => h) (Or.inl ⟨by simp only [Region.wanted], ?_⟩) hS ?_
    rotate_left
    ·intro wz hSw
     clear hSw
     go_simp
     first | done | with_reducible rfl
    try simp only [Act.put, List.setIfInBounds_toArray, List.set_cons_zero, List.set_cons_succ]
    refine wpAnyH_take (i := 7) (oi := ⟨some 58, _, _, _, _, _⟩) (v := ?_) rfl (by kernel_rfl) (by kernel_rfl) (by kernel_rfl) (fun _ _ _ h => h) (Or.inl ⟨by simp only [Region.wanted], ?_⟩) hS ?_
    rotate_left
    ·intro wz hSw
     clear hSw
     go_simp
     first | done | with_reducible rfl
    try simp only [Act.put, List.setIfInBounds_toArray, List.set_cons_zero, List.set_cons_succ]
    refine wpAnyH_take (i := 8) (oi := ⟨some 59, _, _, _, _, _⟩) (v := ?_) rfl (by kernel_rfl) (by kernel_rfl) (by kernel_rfl) (fun _ _ _ h => h) (Or.inl ⟨by simp only [Region.wanted], ?_⟩) hS ?_
    rotate_left
    ·intro wz hSw
     clear hSw
     go_simp
     first | done | with_reducible rfl
    try simp only [Act.put, List.setIfInBounds_toArray, List.set_cons_zero, List.set_cons_succ]
    refine wpAnyH_take (i := 9) (oi := ⟨some 60, _, _, _, _, _⟩) (v := ?_) rfl (by kernel_rfl) (by kernel_rfl) (by kernel_rfl) (fun _ _ _ h => h) (Or.inl ⟨by simp only [Region.wanted], ?_⟩) hS ?_
    rotate_left
    ·intro wz hSw
     clear hSw
     go_simp
     first | done | with_reducible rfl
    try simp only [Act.put, List.setIfInBounds_toArray, List.set_cons_zero, List.set_cons_succ]
    refine wpAnyH_take (i := 10) (oi := ⟨some 61, _, _, _, _, _⟩) (v := ?_) rfl (by kernel_rfl) (by kernel_rfl) (by kernel_rfl) (fun _ _ _ h => h) (Or.inl ⟨by simp only [Region.wanted], ?_⟩) hS ?_
    rotate_left
    ·intro wz hSw
     (try dsimp only at hSw)
     (try go_split_ands)
     go_simp
     first | done | with_reducible rfl
    try simp only [Act.put, List.setIfInBounds_toArray, List.set_cons_zero, List.set_cons_succ]
    refine wpAnyH_ready (rs := [11]) (by kernel_rfl) (by simp) ?_
    refine AllReadyH.cons (o := ⟨some 62, _, _, _, _, _⟩) rfl (fun K hK => ?_) AllReadyH.nil
    go_simp
    refine HTG.out.mono ?_
    rintro en w3 ⟨old, la, lb, fx, v3, rfl, hgr, hnd3, hb3'⟩
    have hb3 : Below w2.heap.size w2 w3 := (Below.refl w2.heap.size w2).drew.trans hb3'
    obtain ⟨oo, oc, rfl, ho1, ho2, -⟩ := id hnd3
    obtain ⟨on, hon⟩ : ∃ on, on = (old.map ndT).length := ⟨_, rfl⟩
    rw [← hon] at ho1 hnd3 ⊢
    have HGR := Lib.hid hgr
    have HND3 := Lib.hid hnd3
    have HB3 := Lib.hid hb3
    have HON := Lib.hid hon
    clear hgr hnd3 hb3' hon HTG
    refine hK.out _ _ (⟨(hb3.cell (show (⟨g, k * 4, none⟩ : Addr).block < _ from HG2L.out)).trans E.out.1, (hb3.cell (show (⟨g, k * 4 + 1, none⟩ : Addr).block < _ from HG2L.out)).trans E.out.2.1, (hb3.cell (show (⟨g, k * 4 + 2, none⟩ : Addr).block < _ from HG2L.out)).trans E.out.2.2.1, (hb3.cell (show (⟨g, km * 4, none⟩ : Addr).block < _ from HG2L.out)).trans E.out.2.2.2.1, (hb3.cell (show (⟨g, km * 4 + 1, none⟩ : Addr).block < _ from HG2L.out)).trans E.out.2.2.2.2.1, (hb3.cell (show (⟨g, km * 4 + 2, none⟩ : Addr).block < _ from HG2L.out)).trans E.out.2.2.2.2.2.1, (hb3.cell (show (⟨g, km * 4 + 3, none⟩ : Addr).block < _ from HG2L.out)).trans E.out.2.2.2.2.2.2⟩) (fun hS => ?_)
    clear hK K
    try simp only [Act.put, List.setIfInBounds_toArray, List.set_cons_zero, List.set_cons_succ]
    clear hb3
    refine wpAnyH_take (i := 12) (oi := ⟨some 50, _, _, _, _, _⟩) (v := ?_) rfl (by kernel_rfl) (by kernel_rfl) (by kernel_rfl) (fun _ _ _ h => h) (Or.inl ⟨by simp only [Region.wanted], ?_⟩) hS ?_
    rotate_left
    ·intro wz hSw
     clear hSw
     go_simp
     first | done | with_reducible rfl
    try simp only [Act.put, List.setIfInBounds_toArray, List.set_cons_zero, List.set_cons_succ]
    refine wpAnyH_take (i := 13) (oi := ⟨some 63, _, _, _, _, _⟩) (v := ?_) rfl (by kernel_rfl) (by kernel_rfl) (by kernel_rfl) (fun _ _ _ h => h) (Or.inl ⟨by simp only [Region.wanted], ?_⟩) hS ?_
    rotate_left
    ·intro wz hSw
     clear hSw
     go_simp
     first | done | with_reducible rfl
    try simp only [Act.put, List.setIfInBounds_toArray, List.set_cons_zero, List.set_cons_succ]
    refine wpAnyH_take (i := 14) (oi := ⟨some 64, _, _, _, _, _⟩) (v := ?_) rfl (by kernel_rfl) (by kernel_rfl) (by kernel_rfl) (fun _ _ _ h => h) (Or.inl ⟨by simp only [Region.wanted], ?_⟩) hS ?_
    rotate_left
    ·intro wz hSw
     clear hSw
     go_simp
     first | done | with_reducible rfl
    try simp only [Act.put, List.setIfInBounds_toArray, List.set_cons_zero, List.set_cons_succ]
    refine wpAnyH_take (i := 15) (oi := ⟨some 65, _, _, _, _, _⟩) (v := ?_) rfl (by kernel_rfl) (by kernel_rfl) (by kernel_rfl) (fun _ _ _ h => h) (Or.inl ⟨by simp only [Region.wanted], ?_⟩) hS ?_
    rotate_left
    ·intro wz hSw
     clear hSw
     go_simp
     first | done | with_reducible rfl
    try simp only [Act.put, List.setIfInBounds_toArray, List.set_cons_zero, List.set_cons_succ]
    refine wpAnyH_take (i := 16) (oi := ⟨some 6, _, _, _, _, _⟩) (v := ?_) rfl (by kernel_rfl) (by kernel_rfl) (by kernel_rfl) (fun _ _ _ h => h) (Or.inl ⟨by simp only [Region.wanted], ?_⟩) hS ?_
    rotate_left
    ·intro wz hSw
     clear hSw
     go_simp
     first | done | with_reducible rfl
    try simp only [Act.put, List.setIfInBounds_toArray, List.set_cons_zero, List.set_cons_succ]
    refine wpAnyH_take (i := 17) (oi := ⟨some 8, _, _, _, _, _⟩) (v := ?_) rfl (by kernel_rfl) (by kernel_rfl) (by kernel_rfl) (fun _ _ _ h => h) (Or.inl ⟨by simp only [Region.wanted], ?_⟩) hS ?_
    rotate_left
    ·intro wz hSw
     clear hSw
     go_simp
     first | done | with_reducible rfl
    try simp only [Act.put, List.setIfInBounds_toArray, List.set_cons_zero, List.set_cons_succ]
    refine wpAnyH_take (i := 18) (oi := ⟨some 10, _, _, _, _, _⟩) (v := ?_) rfl (by kernel_rfl) (by kernel_rfl) (by kernel_rfl) (fun _ _ _ h => h) (Or.inl ⟨by simp only [Region.wanted], ?_⟩) hS ?_
    rotate_left
    ·intro wz hSw
     clear hSw
     go_simp
     first | done | with_reducible rfl
    try simp only [Act.put, List.setIfInBounds_toArray, List.set_cons_zero, List.set_cons_succ]
    refine wpAnyH_done (by kernel_rfl) ?_ _
    clear hS hwk
    have hbw3 : Below wr.heap.size wr w3 := HB2.out.trans (HB3.out.mono HB2.out.size)
    have hu := HU.out
    have hchg := HCHG.out
    have hob := HEN.out.2.1
    have hd2 : w2.drew.heap.size = w2.heap.size := rfl
    have hly := lay_tree (hu.pb.take hbw3) hchg HGR.out _ _ HND3.out (fun j hj => by
     rcases hj with hj | hj
     ·exact .inr (.inl ((hob j hj).1.imp (fun e => (HSX.out j e).1) id))
     ·refine .inr (.inr ⟨?_, hj.2⟩)
      have := HB2.out.size
      omega) (by omega)
    have HLY := Lib.hid hly
    have HBW3 := Lib.hid hbw3
    have hold := (Grouped.fits hchg HGR.out).2.2.2.2.1
    have hon := HON.out
    rw [List.length_map] at hon
    have HON2 := Lib.hid hon
    have i8 : on ≤ 3 := by omega
    have i9 : 1 ≤ on := by omega
    clear hbw3 hu hchg hob hd2 hly hold hon
    go_wp2_with fail
    refine HLY.out.mono ?_
    rintro en w4 ⟨v7, ks, H1, F, c'', rfl, hc'', hrl, hF, hpb4, hmx4, ho7, hq7⟩
    obtain ⟨ko, kc, rfl, hk1, hk2⟩ := ho7.form
    obtain ⟨nk, hnk⟩ : ∃ nk, nk = (ks.map (fun k => kidE (k.page : Int))).length := ⟨_, rfl⟩
    rw [← hnk] at hk1 ho7 hq7 ⊢
    have hnk2 : nk = ks.length := by rw [hnk, List.length_map]
    have i10 : nk ≤ 3 := by rw [hnk2]; exact hrl.few.2.2
    have HRL := Lib.hid hrl
    have HP4 := Lib.hid hpb4
    have HM4 := Lib.hid hmx4
    have HO7 := Lib.hid ho7
    have HQ7 := Lib.hid hq7
    have HF := Lib.hid hF
    have HNK := Lib.hid hnk2
    have HC2 := Lib.hid hc''
    have hgin : ∀ j, (S j ∨ T j) → ¬ (w0.heap.size ≤ j ∧ ¬ ((X j ∨ T j) ∨ (wr.heap.size ≤ j ∧ j < w3.heap.size))) := fun j hj e => e.2 (.inl (hj.imp (fun e => (HSX.out j e).1) id))
    have hst4 : Sts w4 (fun j => S j ∨ T j) (.slice (some ⟨g, 0, none⟩) L0 cap) fl := (HU.out.sts.below HBW3.out).moved HM4.out (fun j hj _ => hgin j hj)
    have HST4 := Lib.hid hst4
    clear hc'' hrl hF hpb4 hmx4 ho7 hq7 hnk hnk2 hgin hst4 HLY
    by_cases heq : nk = on
    ·have HEQ := Lib.hid heq
     subst heq
     go_wp2_with fail
     go_step3
     refine .inr ⟨rfl, ?_⟩
     rw [HJ1.out]
     have hu := HU.out
     have hco := hu.cost
     have hcc := HC2.out
     obtain ⟨g1, g2, g3⟩ := HRL.out.laid HCHG.out (by have := HNK.out; have := HON2.out; omega)
     have h00 : 0 < fl.length := by have := HLEN.out; omega
     obtain ⟨g', cp', hsl, -, -, -, -, -, c00, -, -, -⟩ := HST4.out.at 0 h00
     simp only [Value.slice.injEq, Option.some.injEq, Addr.mk.injEq, and_true] at hsl
     obtain ⟨rfl, -, rfl⟩ := hsl
     have hroot : fl[0].at' = (((BT.Path.up pgn ka kb rest).plug t).page : Int) := by
      have hw := way_root hu.way (by rw [List.length_take]; have := HLEN.out; have := HKM.out; omega)
      rw [List.getElem_take] at hw
      exact hw
     rw [hroot, ← g3, Nat.zero_mul] at c00
     have hmm : Mx w0 X0 wr w4 := (Mx.of HBW3.out).trans (HM4.out.mono (fun j hj => ⟨hj.1, fun e => hj.2 (.inl (.inl (HX0.out j e).1))⟩))
     exact ex_u _ _ (by kernel_rfl) _ ⟨R, rest.plug (BT.node pgn (la ++ (ks ++ lb))), H1, c'', ⟨hu.goes _ _ _ g1, g2, hu.framed.trans HRL.out.framed hu.perm, HP4.out.less (fun q hq => .inl (.inl (.inl (HX0.out q hq).1))), hu.mx.trans hmm, by omega⟩, c00⟩
    ·have heq' : ¬ (nk : Int) = on := by omega
     have hl1 : km < fl.length := (List.getElem?_eq_some_iff.1 HS.out.1).1
     have he1 : fl[km] = s1 := (List.getElem?_eq_some_iff.1 HS.out.1).2
     obtain ⟨g', cp', hsl, hgl4, -, -, -, hfrz, b0, b1, b2, b3⟩ := HST4.out.at km hl1
     obtain ⟨hen1, hob1⟩ := HST4.out.ens km hl1
     simp only [Value.slice.injEq, Option.some.injEq, Addr.mk.injEq, and_true] at hsl
     obtain ⟨rfl, -, rfl⟩ := hsl
     rw [he1, HV.out.2] at b2 hen1
     rw [HS.out.2.2.2.1] at hen1
     have hcut := HRL.out.cut
     have hfx := HGR.out.len
     have hlcut : (ka ++ t :: kb).length = la.length + (old.length + lb.length) := by rw [hcut, List.length_append, List.length_append]
     have hkf := kids_few HCHG.out
     have hon2 := HON2.out
     obtain ⟨fo, hfo⟩ : ∃ fo, fo = fx + on := ⟨_, rfl⟩
     have hput := put_any g (km * 4) fx fo (.slice uo q1 uc) (.slice ko nk kc) _ _ w4 b2 (hfrz (km * 4 + 2)) hen1 HO7.out.ens (by rw [List.length_map]; omega) (by rw [List.length_map]; omega) (by rw [List.length_map]; omega) (by rw [List.length_map, ← HNK.out]; omega)
     have hes : ((ka ++ t :: kb).map (fun k => kidE (k.page : Int))).take fx ++ ks.map (fun k => kidE (k.page : Int)) ++ ((ka ++ t :: kb).map (fun k => kidE (k.page : Int))).drop fo = ents (BT.node pgn (la ++ (ks ++ lb))) := by
      have e1 : (ka ++ t :: kb).take fx = la := by rw [hcut, hfx, List.take_left]
      have e2 : (ka ++ t :: kb).drop fo = lb := by
       rw [hcut, hfo, hfx, ← List.append_assoc, List.drop_left' (by rw [List.length_append]; omega)]
      rw [← List.map_take, ← List.map_drop, e1, e2, ← List.map_append, ← List.map_append, List.append_assoc]
      rfl
     rw [hes] at hput
     have HPUT := Lib.hid hput
     have hfo2 : (fx : Int) + on = fo := by omega
     have i11 : (fx : Int) ≤ 300 := by omega
     have HX1 := Lib.hid (And.intro hl1 (And.intro hgl4 hlcut))
     clear hl1 he1 hgl4 hfrz b0 b1 b2 b3 hen1 hob1 hcut hfx hlcut hkf hon2 hfo hput hes
     go_wp2_with fail
     refine HPUT.out.mono ?_
     rintro en w6 ⟨rfl, v9, w5, rfl, hb5, ho9⟩
     have HB5 := Lib.hid hb5
     have HO9 := Lib.hid ho9
     clear hb5 ho9 HPUT
     go_wp2_with fail
     go_step3
     refine .inl ⟨rfl, ?_, ?_⟩
     ·rw [HJ0.out]
      obtain ⟨hl1, hgl4, hlcut⟩ := HX1.out
      have he1 : fl[km] = s1 := (List.getElem?_eq_some_iff.1 HS.out.1).2
      have hu := HU.out
      have hrl := HRL.out
      have hco := hu.cost
      have hcc := HC2.out
      have hlt := hu.lt
      have hst5 := HST4.out.below HB5.out
      have hl9 := HO9.out.lt
      have hw2 := HB2.out.size
      have hw3 := HBW3.out.size
      have hw4 := HM4.out.size
      have hw5 := HB5.out.size
      obtain ⟨T6, hT6⟩ : ∃ T6 : Nat → Prop, T6 = fun j => ((T j ∨ (wr.heap.size ≤ j ∧ j < w3.heap.size)) ∨ F j) ∨ (w4.heap.size ≤ j ∧ j < w5.heap.size) := ⟨_, rfl⟩
      have hst5' := hst5.more (S' := fun j => S j ∨ T6 j) (fun j hj _ => hj.imp id (fun e => by rw [hT6]; exact .inl (.inl (.inl e))))
      obtain ⟨s1n, hs1n⟩ : ∃ s1n : Stp, s1n = { s1 with v := v9, es := ents (BT.node pgn (la ++ (ks ++ lb))) } := ⟨_, rfl⟩
      have hL : L0 = fl.length := HLEN.out.symm
      have hset := Sts.set (g := g) (cap := cap) (show Sts w5 (fun j => S j ∨ T6 j) (.slice (some ⟨g, 0, none⟩) fl.length cap) fl by rw [← hL]; exact hst5') km hl1 2 (by omega) v9 s1n (by rw [he1, hs1n]; rfl) (by
       rw [hs1n]
       refine ⟨HO9.out.ens, fun j hj => ?_⟩
       have h9 := hl9 j hj
       exact ⟨.inr (by rw [hT6]; exact .inr h9), h9.2, by omega⟩)
      rw [← hL] at hset
      have hpb6 : Pb w0 (w5.setCell ⟨g, km * 4 + 2, none⟩ v9) (fun j => X j ∨ T6 j) r p N M c'' G (some H1) := by
       have h5 := (HP4.out.take HB5.out).mv ((Moved.refl (· = g) w5).setCell ⟨g, km * 4 + 2, none⟩ v9 (.inl rfl)) (fun j hj => by
        rw [hj]
        rcases HGL.out.2.1 with hs | ht
        ·exact ⟨.inl (.inl (.inl (.inl (HSX.out g hs).1))), (HSX.out g hs).2.1⟩
        ·exact ⟨.inl (.inl (.inl (.inr ht))), by have := (hu.new g ht).1; have := HPB0.out; omega⟩)
       refine h5.less (fun j hj => ?_)
       rcases hj with hj | hj
       ·exact .inl (.inl (.inl (.inl hj)))
       ·rw [hT6] at hj
        rcases hj with ((hj | hj) | hj) | hj
        ·exact .inl (.inl (.inl (.inr hj)))
        ·exact .inl (.inl (.inr hj))
        ·exact .inl (.inr hj)
        ·exact .inr hj
      have hset0 : ¬ X0 g := fun e => (HX0.out g e).2 HG.out.2
      have hmm : Mx w0 X0 wr (w5.setCell ⟨g, km * 4 + 2, none⟩ v9) := by
       refine Mx.trans (Mx.trans ((Mx.of HBW3.out).trans (HM4.out.mono (fun j hj => ⟨hj.1, fun e => hj.2 (.inl (.inl (HX0.out j e).1))⟩))) (Mx.of HB5.out)) ?_
       refine ((Moved.refl (· = g) w5).setCell ⟨g, km * 4 + 2, none⟩ v9 (.inl rfl)).mono (fun j hj => ?_)
       rw [hj]
       refine ⟨?_, hset0⟩
       rcases HGL.out.2.1 with hs | ht
       ·exact (HSX.out g hs).2.1
       ·have := (hu.new g ht).1; have := HPB0.out; omega
      have hsz6 : (w5.setCell ⟨g, km * 4 + 2, none⟩ v9).heap.size = w5.heap.size := by simp
      refine ⟨km, ex_u _ _ (by kernel_rfl) _ ⟨n + 1, rest, BT.node pgn (la ++ (ks ++ lb)), fl.set km s1n, H1, c'', T6, ⟨fun j hj => ?_, hpb6, hset, by rw [List.length_set]; exact hu.len, by omega, ?_, ⟨s1n, by rw [List.getElem?_set_self hl1], by rw [hs1n]; exact HS.out.2.1, by rw [hs1n]; show s1.lvl = _; rw [HS.out.2.2.1]; omega, by rw [hs1n]⟩, hrl.on HCHG.out, fun m t' f' hs => hu.goes _ _ _ (.on hrl.cut hrl.same hrl.proper hrl.perm hs), hu.framed.trans hrl.framed hu.perm, ?_, by have := HKM.out; omega, hu.mx.trans hmm⟩⟩⟩
      ·rw [hsz6]
       rw [hT6] at hj
       have hwn := hu.new
       rcases hj with ((hj | hj) | hj) | hj
       ·have := hwn j hj; exact ⟨this.1, by omega⟩
       ·have hwm := hu.mx.size; exact ⟨by omega, by omega⟩
       ·have := HF.out j hj; have hwm := hu.mx.size; exact ⟨by omega, by omega⟩
       ·have hwm := hu.mx.size; exact ⟨by omega, by omega⟩
      ·rw [List.take_set_of_le (Nat.le_refl _)]
       exact HS.out.2.2.2.2.2
      ·exact (BT.plug_perm rest (BT.relaid_pages hrl.cut hrl.same hrl.perm)).trans hu.perm
     ·have := HKM.out
      simp [intOf]
      omega
 ·intro hpass
  go_wp2_with fail
  go_step3
  rename_i K hK
  refine hK _ _ (hpass _ _ ?_)
  rw [HJ0.out]
  exact ⟨R, ex_u _ _ (by kernel_rfl) _ ⟨0, path0, t0, full, H, c, _, HUP.out⟩⟩
end Go.Proofs.YtbpdapcmaioeiaaGreat
