/- Triples as text: verbs. -/
import Derived.Test.YtefkppeicmipbaaGreatDoorUp
import Derived.Deep.LoopGhost
namespace Go.Proofs.YtefkppeicmipbaaGreatDoor
open Go.RowKit Go.Shelf Go.Maps
set_option maxRecDepth 100000
set_option linter.unusedVariables false
set_option linter.unusedSimpArgs false
theorem skip_take {l : List UInt8} {s : St} (h : s.peek = sg l) : s.skip l = s.next.skip l := by
  unfold St.skip St.next St.peek at *
  cases hr : s.rest with
  | nil => rw [hr] at h; exact absurd (congrArg Prod.fst h) (show ¬ (0 : Int) = 9 by decide)
  | cons a r =>
    rw [hr] at h
    dsimp only [List.headD_cons, List.tail_cons] at h ⊢
    unfold skipN
    rw [if_pos h]
    cases r <;> rfl
theorem skip_stop {l : List UInt8} {s : St} (h : ¬ s.peek = sg l) : s.skip l = s := by
  unfold St.skip St.peek at *
  obtain ⟨r, b, p, n, d, t, e⟩ := s
  dsimp only at *
  cases r with
  | nil => rfl
  | cons a r => unfold skipN; rw [if_neg (show ¬ a = sg l from h)]
def verbC (lab : ByteArray) (k : Nat) (b : Tm) : Bool × St → St
  | (true, s) => if s.ends then s else verbP lab k b s
  | (false, s) => s
theorem verb_eq (lab : ByteArray) (k : Nat) (b : Tm) (s : St) : verbP lab (k + 1) b s = verbC lab k b (objsP lab k b (predT s) (predS s)) := by
  rw [verbP]
  rcases objsP lab k b (predT s) (predS s) with ⟨_ | _, s'⟩ <;> rfl
theorem take_pos {l : List UInt8} {s : St} (h : s.peek = sg l) : s.take l = s.next := if_pos h
theorem take_neg {l : List UInt8} {s : St} (h : ¬ s.peek = sg l) : s.take l = s := if_neg h
set_option maxHeartbeats 16000000 in
theorem tverbs {N : Nat} (hI : ∀ m, m < N → C12 m) {w : World} {P : Pl} {tv : Value} {s : St} (h : RdT w P tv s) (b : Tm) (hb : b.Ok) (hn : 4 * s.len + 4 ≤ N) :
    Calls Tryz.prog 26 #[.pointer (some ⟨P.r, 0, none⟩), b.val] w (ToV12 P w tv (verbP P.lab N b s)) := by
  obtain ⟨V, hV⟩ : ∃ V, V = verbP P.lab N b s := ⟨_, rfl⟩
  rw [← hV]
  have HTL := Lib.hid (fun w1 tv1 s1 (r : RdT w1 P tv1 s1) p o (hp : p.Ok) (ho : o.Ok) => ttell r b p o hb hp ho)
  have HPR := Lib.hid (fun w1 tv1 s1 (r : RdT w1 P tv1 s1) => tpredicate r)
  have HTK := Lib.hid (fun w1 tv1 s1 (r : RdT w1 P tv1 s1) l => ttake r l)
  have HEN := Lib.hid (fun w1 tv1 s1 (r : RdT w1 P tv1 s1) => tends r)
  have HII := Lib.hid hI
  have HLAB := Lib.hid h.lab
  obtain ⟨B, hB⟩ : ∃ B, B = b := ⟨_, rfl⟩
  obtain ⟨bk, bs, bl', bt⟩ := b
  unfold Tm.val at HTL ⊢
  dsimp only at HTL ⊢
  have hG := (Go12.refl h).alloc (.cells #[.int .i64 bk, .string bs, .string bl', .string bt] 33)
  have hT := Tp.new h #[.int .i64 bk, .string bs, .string bl', .string bt] 33
  have HG := Lib.hid hG
  have HT := Lib.hid hT
  rw [← hB] at hV HTL
  have HV := Lib.hid hV
  have HBV := Lib.hid hB
  have HN := Lib.hid hn
  clear hI h hb hG hT hV hB hn
  go_enter Tryz.func26, Tryz.ntmps26
  go_wp2_with fail
  go_step3
  go_wp2_with fail
  go_step3
  go_wp2_with fail
  go_loopg [4, 5] N (fun g v4 _ wx => ∃ (m : Nat) (s' : St) (tv' : Value) (more : Bool), v4 = .bool more ∧ Go12 P w tv wx tv' s' ∧ Tp wx P tv' w.heap.size #[.int .i64 bk, .string bs, .string bl', .string bt] 33 ∧ (more = true → V = verbP P.lab m B s' ∧ 4 * s'.len + 4 ≤ m ∧ m ≤ N ∧ m ≤ g) ∧ (more = false → V = s'))
  case atStart => exact ⟨N, s, tv, true, rfl, HG.out, HT.out, fun _ => ⟨HV.out, HN.out, Nat.le_refl _, Nat.le_refl _⟩, fun h => by cases h⟩
  case round =>
    obtain ⟨m, s', tv', more, rfl, hg, ht, hm1, hm2⟩ := hrel
    have HG1 := Lib.hid hg
    have HT1 := Lib.hid ht
    have HM1 := Lib.hid hm1
    have HM2 := Lib.hid hm2
    clear hg ht hm1 hm2
    cases more with
    | false =>
      have hv : V = s' := HM2.out rfl
      subst hv
      clear HM1 HM2 HV
      go_wp2_with fail
      exact bodyPost_end (results_none rfl _ _ _) rfl ⟨⟨_, rfl⟩, tv', HG1.out⟩
    | true =>
      obtain ⟨hv, hlm, hmN, hmg⟩ := HM1.out rfl
      obtain ⟨k, rfl⟩ : ∃ k, m = k + 1 := ⟨m - 1, by omega⟩
      obtain ⟨g1, rfl⟩ : ∃ g1, gk = g1 + 1 := ⟨gk - 1, by omega⟩
      obtain ⟨O, hO⟩ : ∃ O, O = objsP P.lab k B (predT s') (predS s') := ⟨_, rfl⟩
      have hv2 : V = verbC P.lab k B O := by rw [hv, verb_eq, ← hO]
      have hpok := pred_ok HG1.out.rd.inv
      have hO1 : O.1 = true → O.2.len + 1 ≤ s'.len := fun h => by
        have := objs_true P.lab B (predT s') k (predS s') (by rw [← hO]; exact h)
        rw [← hO] at this
        have := len_pred s'
        have := len_next s'
        omega
      have hpl : (predS s').len ≤ s'.next.len := len_pred s'
      have hnl : s'.next.len ≤ s'.len := len_next s'
      have hnl1 : s'.len ≠ 0 → s'.next.len + 1 ≤ s'.len := fun h => by
        unfold St.len St.next at *
        cases hr : s'.rest with
        | nil => rw [hr] at h; exact absurd rfl h
        | cons a r => simp
      have hpl4 : 4 * (predS s').len + 3 ≤ k := by
        by_cases h0 : s'.len = 0
        · omega
        · have := hnl1 h0; omega
      obtain ⟨p, hp⟩ : ∃ p, p = predT s' := ⟨_, rfl⟩
      obtain ⟨sp, hsp⟩ : ∃ q, q = predS s' := ⟨_, rfl⟩
      have hpr := HPR.out _ _ _ HG1.out.rd
      rw [← hp, ← hsp] at hpr hO
      rw [← hsp] at hpl4
      rw [← hp] at hpok
      have HOO := Lib.hid hO
      have HV2 := Lib.hid hv2
      have HO1 := Lib.hid hO1
      have HKK := Lib.hid (And.intro hlm (And.intro hmN hmg))
      have HTL2 := Lib.hid (fun w1 tv1 s1 (r : RdT w1 P tv1 s1) o (ho : o.Ok) => HTL.out w1 tv1 s1 r p o hpok ho)
      obtain ⟨pk, ps, pl, pt⟩ := p
      unfold Tm.val at hpr HTL2
      dsimp only at hpr HTL2
      have HPP := Lib.hid hpr
      have HP4 := Lib.hid hpl4
      clear hv hlm hmN hmg hO hv2 hpok hO1 hpl hnl hnl1 hpl4 hp hsp hpr HM1 HM2 HV
      go_wp2_with fail
      refine (HPP.out).mono ?_
      rintro e w1 ⟨rfl, tv1, hg1⟩
      have HGp := Lib.hid ((HG1.out.trans hg1).alloc (.cells #[.int .i64 pk, .string ps, .string pl, .string pt] 33))
      have HTb := Lib.hid ((HT1.out.go hg1).alloc (.cells #[.int .i64 pk, .string ps, .string pl, .string pt] 33))
      have HTp := Lib.hid (Tp.new hg1.rd #[.int .i64 pk, .string ps, .string pl, .string pt] 33)
      clear hg1
      go_wp2_with fail
      generalize World.alloc w1 _ = W1 at HGp HTb HTp ⊢
      generalize w1.heap.size = K at HTp ⊢
      go_loopg [] (k + 1) (fun g wx => ∃ (j : Nat) (s2 : St) (tv2 : Value), O = objsP P.lab j B ⟨pk, ps, pl, pt⟩ s2 ∧ 4 * s2.len + 3 ≤ j ∧ j ≤ k ∧ j ≤ g ∧ Go12 P w tv wx tv2 s2 ∧ Tp wx P tv2 w.heap.size #[.int .i64 bk, .string bs, .string bl', .string bt] 33 ∧ Tp wx P tv2 K #[.int .i64 pk, .string ps, .string pl, .string pt] 33)
      case atStart => exact ⟨k, sp, tv1, HOO.out, HP4.out, Nat.le_refl _, Nat.le_succ _, HGp.out, HTb.out, HTp.out⟩
      case round =>
        obtain ⟨j, s2, tv2, hO2, hl2, hjk, hjg, hg2, htb2, htp2⟩ := hrel
        obtain ⟨i, rfl⟩ : ∃ i, j = i + 1 := ⟨j - 1, by omega⟩
        obtain ⟨g2, rfl⟩ : ∃ g2, gk = g2 + 1 := ⟨gk - 1, by omega⟩
        have hob := fun w1 tv1 (r : RdT w1 P tv1 s2) => (HII.out i (by have := HKK.out.2.1; omega)).obj w1 P tv1 s2 r (by omega)
        have hok := obj_ok HLAB.out i hg2.rd.inv
        have hon : (objP P.lab i s2).2.len ≤ s2.next.len := by
          obtain ⟨i', rfl⟩ : ∃ i', i = i' + 1 := ⟨i - 1, by omega⟩
          exact obj_next P.lab i' s2
        obtain ⟨Y, hY⟩ : ∃ Y, Y = objP P.lab i s2 := ⟨_, rfl⟩
        rw [objsP, ← hY] at hO2
        rw [← hY] at hob hok hon
        obtain ⟨⟨ok, os, ol, ot⟩, s0⟩ := Y
        dsimp only at hO2 hob hok hon
        have htl := fun w1 tv1 (r : RdT w1 P tv1 s0) => HTL2.out w1 tv1 s0 r ⟨ok, os, ol, ot⟩ hok
        obtain ⟨s3, hs3⟩ : ∃ s3, s3 = s0.tell B ⟨pk, ps, pl, pt⟩ ⟨ok, os, ol, ot⟩ := ⟨_, rfl⟩
        rw [← hs3] at htl hO2
        have hl3 : s3.len ≤ s2.next.len := by rw [hs3]; exact Nat.le_trans (len_tell _ _ _ _) hon
        unfold Tm.val at hob
        dsimp only at htl hob
        have HOB := Lib.hid hob
        have HTL3 := Lib.hid htl
        have HO2 := Lib.hid hO2
        have HL := Lib.hid (And.intro hl2 (And.intro hjk (And.intro hjg (And.intro hl3 (len_next s2)))))
        have HG2 := Lib.hid hg2
        have HB2 := Lib.hid htb2
        have HP2 := Lib.hid htp2
        clear hO2 hl2 hjk hjg hg2 htb2 htp2 hob hok hon hY htl hs3 hl3
        go_wp2_with fail
        refine wp_region_any (by kernel_rfl) ?_
        change wpAny _ _ _ _ _ _ _ (World.drew _)
        refine wpAny_of_held (S := fun w' => ∃ tvx sx, Go12 P w tv w' tvx sx ∧ Tp w' P tvx w.heap.size #[.int .i64 bk, .string bs, .string bl', .string bt] 33 ∧ Tp w' P tvx K #[.int .i64 pk, .string ps, .string pl, .string pt] 33) _ _ _ _ ?_
        have hS : (fun w' => ∃ tvx sx, Go12 P w tv w' tvx sx ∧ Tp w' P tvx w.heap.size #[.int .i64 bk, .string bs, .string bl', .string bt] 33 ∧ Tp w' P tvx K #[.int .i64 pk, .string ps, .string pl, .string pt] 33) _ := ⟨tv2, s2, HG2.out.below (below_drew1 _), HB2.out.go ((Go12.refl HG2.out.rd).below (below_drew1 _)), HP2.out.go ((Go12.refl HG2.out.rd).below (below_drew1 _))⟩
        refine wpAnyH_take (i := 0) (oi := ⟨some 12, _, _, _, _, _⟩) (v := ?_) rfl (by kernel_rfl) (by kernel_rfl) (by kernel_rfl) (fun _ _ _ h => h) (Or.inl ⟨by simp only [Region.wanted], ?_⟩) hS ?_
        rotate_left
        · intro wz hSw
          clear hSw
          go_simp
          first | done | with_reducible rfl
        try simp only [Act.put, List.setIfInBounds_toArray, List.set_cons_zero, List.set_cons_succ]
        refine wpAnyH_take (i := 1) (oi := ⟨some 13, _, _, _, _, _⟩) (v := ?_) rfl (by kernel_rfl) (by kernel_rfl) (by kernel_rfl) (fun _ _ _ h => h) (Or.inl ⟨by simp only [Region.wanted], ?_⟩) hS ?_
        rotate_left
        · intro wz hSw; obtain ⟨tvx, sx, hx1, hx2, hx3⟩ := hSw; obtain ⟨-, z0, z1, z2, z3, -, -, -, -⟩ := hx2.four
          go_simp
          first | done | with_reducible rfl
        try simp only [Act.put, List.setIfInBounds_toArray, List.set_cons_zero, List.set_cons_succ]
        refine wpAnyH_take (i := 2) (oi := ⟨some 14, _, _, _, _, _⟩) (v := ?_) rfl (by kernel_rfl) (by kernel_rfl) (by kernel_rfl) (fun _ _ _ h => h) (Or.inl ⟨by simp only [Region.wanted], ?_⟩) hS ?_
        rotate_left
        · intro wz hSw; obtain ⟨tvx, sx, hx1, hx2, hx3⟩ := hSw; obtain ⟨-, z0, z1, z2, z3, -, -, -, -⟩ := hx3.four
          go_simp
          first | done | with_reducible rfl
        try simp only [Act.put, List.setIfInBounds_toArray, List.set_cons_zero, List.set_cons_succ]
        refine wpAnyH_take (i := 3) (oi := ⟨some 15, _, _, _, _, _⟩) (v := ?_) rfl (by kernel_rfl) (by kernel_rfl) (by kernel_rfl) (fun _ _ _ h => h) (Or.inl ⟨by simp only [Region.wanted], ?_⟩) hS ?_
        rotate_left
        · intro wz hSw
          clear hSw
          go_simp
          first | done | with_reducible rfl
        try simp only [Act.put, List.setIfInBounds_toArray, List.set_cons_zero, List.set_cons_succ]
        refine wpAnyH_ready (rs := [4]) (by kernel_rfl) (by simp) ?_
        refine AllReadyH.cons (o := ⟨some 16, _, _, _, _, _⟩) rfl (fun K hK => ?_) AllReadyH.nil
        go_simp
        refine (HOB.out _ _ (HG2.out.below (below_drew1 _)).rd).mono ?_
        rintro e w3 ⟨rfl, tv3, hg3⟩
        have HG3 := Lib.hid ((HG2.out.below (below_drew1 _)).trans hg3)
        have HB3 := Lib.hid ((HB2.out.go ((Go12.refl HG2.out.rd).below (below_drew1 _))).go hg3)
        have HP3 := Lib.hid ((HP2.out.go ((Go12.refl HG2.out.rd).below (below_drew1 _))).go hg3)
        clear hg3
        refine hK.out _ _ (⟨tv3, s0, HG3.out, HB3.out, HP3.out⟩) (fun hS => ?_)
        clear hK K
        try simp only [Act.put, List.setIfInBounds_toArray, List.set_cons_zero, List.set_cons_succ]
        refine wpAnyH_ready (rs := [5]) (by kernel_rfl) (by simp) ?_
        refine AllReadyH.cons (o := ⟨some 17, _, _, _, _, _⟩) rfl (fun K hK => ?_) AllReadyH.nil
        go_simp
        refine (HTL3.out _ _ HG3.out.rd).mono ?_
        rintro e w4 ⟨⟨v4, rfl⟩, tv4, hg4⟩
        have HG4 := Lib.hid (HG3.out.trans hg4)
        have HB4 := Lib.hid (HB3.out.go hg4)
        have HP4' := Lib.hid (HP3.out.go hg4)
        clear hg4
        refine hK.out _ _ (⟨tv4, s3, HG4.out, HB4.out, HP4'.out⟩) (fun hS => ?_)
        clear hK K
        try simp only [Act.put, List.setIfInBounds_toArray, List.set_cons_zero, List.set_cons_succ]
        refine wpAnyH_done (by kernel_rfl) ?_ _

        clear hS
        have HN3 := Lib.hid (fun h : s3.peek.1 ≠ 0 => len_next1 h)
        obtain ⟨d4, hd4⟩ : ∃ d, d = decide (s3.peek = sg [44]) := ⟨_, rfl⟩
        obtain ⟨d5, hd5⟩ : ∃ d, d = decide (s3.peek = sg [59]) := ⟨_, rfl⟩
        have htk4 := HTK.out _ _ _ HG4.out.rd ⟨#[44]⟩
        rw [show decide (s3.peek = sg (⟨#[44]⟩ : ByteArray).data.toList) = d4 from hd4.symm] at htk4
        have HTK4 := Lib.hid htk4
        have HD4 := Lib.hid hd4
        have HD5 := Lib.hid hd5
        clear htk4 hd4 hd5
        go_wp2_with fail
        refine (HTK4.out).mono ?_
        rintro e w5 ⟨rfl, tv5, hg5⟩
        cases d4 with
        | true =>
          have hp4 : s3.peek = sg [44] := of_decide_eq_true HD4.out.symm
          have ht4 : s3.take (⟨#[44]⟩ : ByteArray).data.toList = s3.next := take_pos hp4
          rw [ht4] at hg5
          have hO3 : O = objsP P.lab i B ⟨pk, ps, pl, pt⟩ s3.next := by rw [HO2.out]; exact if_pos hp4
          have HR := Lib.hid (show 4 * s3.next.len + 3 ≤ i from by have := HN3.out (by rw [hp4]; decide); have := HL.out; omega)
          have HO3 := Lib.hid hO3
          have HG5 := Lib.hid (HG4.out.trans hg5)
          have HB5 := Lib.hid (HB4.out.go hg5)
          have HP5 := Lib.hid (HP4'.out.go hg5)
          clear hp4 ht4 hO3 hg5
          go_wp2_with fail
          go_roundg g2
          case measure => omega
          case rel => exact ⟨i, s3.next, tv5, HO3.out, HR.out, by have := HL.out; omega, by have := HL.out; omega, HG5.out, HB5.out, HP5.out⟩
        | false =>
          have hp4 : ¬ s3.peek = sg [44] := of_decide_eq_false HD4.out.symm
          have ht4 : s3.take (⟨#[44]⟩ : ByteArray).data.toList = s3 := take_neg hp4
          rw [ht4] at hg5
          have hO3 : O = if s3.peek = sg [59] then (true, s3.next.skip [59]) else (false, s3) := by rw [HO2.out]; exact if_neg hp4
          have HO3 := Lib.hid hO3
          have HG5 := Lib.hid (HG4.out.trans hg5)
          have HB5 := Lib.hid (HB4.out.go hg5)
          have htk5 := HTK.out _ _ _ HG5.out.rd ⟨#[59]⟩
          rw [show decide (s3.peek = sg (⟨#[59]⟩ : ByteArray).data.toList) = d5 from HD5.out.symm] at htk5
          have HTK5 := Lib.hid htk5
          clear hp4 ht4 hO3 hg5 htk5
          go_wp2_with fail
          refine (HTK5.out).mono ?_
          rintro e w6 ⟨rfl, tv6, hg6⟩
          cases d5 with
          | false =>
            have hp5 : ¬ s3.peek = sg [59] := of_decide_eq_false HD5.out.symm
            rw [show s3.take (⟨#[59]⟩ : ByteArray).data.toList = s3 from take_neg hp5] at hg6
            have hvv : V = s3 := by rw [HV2.out, HO3.out, if_neg hp5]; rfl
            have HG6 := Lib.hid (HG5.out.trans hg6)
            have HVV := Lib.hid hvv
            clear hp5 hg6 hvv
            go_wp2_with fail
            exact bodyPost_end (results_none rfl _ _ _) rfl ⟨⟨_, rfl⟩, tv6, by rw [HVV.out]; exact HG6.out⟩
          | true =>
            have hp5 : s3.peek = sg [59] := of_decide_eq_true HD5.out.symm
            rw [show s3.take (⟨#[59]⟩ : ByteArray).data.toList = s3.next from take_pos hp5] at hg6
            have hvo : O = (true, s3.next.skip [59]) := by rw [HO3.out, if_pos hp5]
            have HG6 := Lib.hid (HG5.out.trans hg6)
            have HB6 := Lib.hid (HB5.out.go hg6)
            have HVO := Lib.hid hvo
            clear hp5 hg6 hvo
            go_wp2_with fail
            go_loopg [] (s3.next.len + 1) (fun g wx => ∃ (s4 : St) (tv4 : Value), s3.next.skip [59] = s4.skip [59] ∧ s4.len < g ∧ Go12 P w tv wx tv4 s4 ∧ Tp wx P tv4 w.heap.size #[.int .i64 bk, .string bs, .string bl', .string bt] 33)
            case atStart => exact ⟨s3.next, tv6, rfl, Nat.lt_succ_self _, HG6.out, HB6.out⟩
            case round =>
              obtain ⟨s4, tv4, hsk, hlg, hg4, hb4⟩ := hrel
              obtain ⟨d7, hd7⟩ : ∃ d, d = decide (s4.peek = sg [59]) := ⟨_, rfl⟩
              have htk7 := HTK.out _ _ _ hg4.rd ⟨#[59]⟩
              rw [show decide (s4.peek = sg (⟨#[59]⟩ : ByteArray).data.toList) = d7 from hd7.symm] at htk7
              have HTK7 := Lib.hid htk7
              have HG7 := Lib.hid hg4
              have HB7 := Lib.hid hb4
              have HSK := Lib.hid (And.intro hsk hlg)
              have HD7 := Lib.hid hd7
              clear hsk hlg hg4 hb4 htk7 hd7
              go_wp2_with fail
              refine (HTK7.out).mono ?_
              rintro e w8 ⟨rfl, tv8, hg8⟩
              cases d7 with
              | true =>
                have hp7 : s4.peek = sg [59] := of_decide_eq_true HD7.out.symm
                rw [show s4.take (⟨#[59]⟩ : ByteArray).data.toList = s4.next from take_pos hp7] at hg8
                have HS8 := Lib.hid (And.intro (HSK.out.1.trans (skip_take hp7)) (len_next1 (s := s4) (by rw [hp7]; decide)))
                have HG8 := Lib.hid (HG7.out.trans hg8)
                have HB8 := Lib.hid (HB7.out.go hg8)
                clear hp7 hg8
                go_wp2_with fail
                go_roundg (s4.next.len + 1)
                case measure => have := HSK.out.2; have := HS8.out.2; omega
                case rel => exact ⟨s4.next, tv8, HS8.out.1, Nat.lt_succ_self _, HG8.out, HB8.out⟩
              | false =>
                have hp7 : ¬ s4.peek = sg [59] := of_decide_eq_false HD7.out.symm
                rw [show s4.take (⟨#[59]⟩ : ByteArray).data.toList = s4 from take_neg hp7] at hg8
                have hs8 := HSK.out.1.trans (skip_stop hp7)
                have hvo : O = (true, s4) := by rw [HVO.out, hs8]
                have hv8 : V = if s4.ends then s4 else verbP P.lab k B s4 := by rw [HV2.out, hvo]; rfl
                have HG8 := Lib.hid (HG7.out.trans hg8)
                have HB8 := Lib.hid (HB7.out.go hg8)
                have HO8 := Lib.hid (show s4.len + 1 ≤ s'.len from by have := HO1.out (by rw [hvo]); rw [hvo] at this; exact this)
                have HE8 := Lib.hid (HEN.out _ _ _ HG8.out.rd)
                have HV8 := Lib.hid hv8
                clear hp7 hg8 hs8 hvo hv8
                go_wp2_with fail
                refine (HE8.out).mono ?_
                rintro e w9 ⟨rfl, tv9, hg9⟩
                have HG9 := Lib.hid (HG8.out.trans hg9)
                have HB9 := Lib.hid (HB8.out.go hg9)
                obtain ⟨de, hde⟩ : ∃ d, d = s4.ends := ⟨_, rfl⟩
                rw [← hde]
                have HDE := Lib.hid hde
                clear hg9 hde
                go_wp2_with fail
                go_roundg g1
                case measure => omega
                case rel =>
                  refine ⟨k, s4, tv9, !de, rfl, HG9.out, HB9.out, fun h => ⟨?_, ?_, ?_, ?_⟩, fun h => ?_⟩
                  · have : de = false := by simpa using h
                    rw [HV8.out, ← HDE.out, this]; rfl
                  · have := HO8.out; have := HKK.out; omega
                  · have := HKK.out; omega
                  · have := HKK.out; omega
                  · have : de = true := by simpa using h
                    rw [HV8.out, ← HDE.out, this]; rfl
end Go.Proofs.YtefkppeicmipbaaGreatDoor
