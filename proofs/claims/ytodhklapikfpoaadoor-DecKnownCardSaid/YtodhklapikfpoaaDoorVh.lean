/- triadref13's Div: the walk. -/
import Derived.Test.YtodhklapikfpoaaDoorVg
import Derived.Deep.DeepCutAuto
import Derived.Deep.LoopGhost
namespace Go.Proofs.YtodhklapikfpoaaDoor
open Go.RowKit Go.Shelf Flo
set_option maxRecDepth 100000
set_option linter.unusedVariables false
set_option linter.unusedSimpArgs false

theorem CmpS.under {w v v' : World} {m s m2 s2 : Int} (h : CmpS w m s m2 s2 v) (hb : Below (w.heap.size + 2) v v') : CmpS w m s m2 s2 v' := by
  obtain ⟨h1, ⟨a0, a1, a2, a3, a4⟩, ⟨b0, b1, b2, b3, b4⟩⟩ := h
  exact ⟨h1.trans (hb.mono (by omega)), ⟨Nat.lt_of_lt_of_le a0 hb.size, cellB hb (by omega) a1, cellB hb (by omega) a2, frozB hb (by omega) a3, frozB hb (by omega) a4⟩,
    ⟨Nat.lt_of_lt_of_le b0 hb.size, cellB hb (by omega) b1, cellB hb (by omega) b2, frozB hb (by omega) b3, frozB hb (by omega) b4⟩⟩
theorem CmpS.room {w v : World} {m s m2 s2 : Int} (h : CmpS w m s m2 s2 v) : w.heap.size + 2 ≤ v.heap.size := h.2.2.1
theorem last_or (l : List Nat) : l = [] ∨ ∃ l' a, l = l' ++ [a] := by
  rcases List.eq_nil_or_concat l with h | ⟨l', a, h⟩
  · exact .inl h
  · exact .inr ⟨l', a, by simpa using h⟩
def lenV : Value → Nat
  | .slice _ n _ => n
  | _ => 0

set_option maxHeartbeats 4000000 in
theorem rdiv_some (w : World) (m : Int) (k N : Nat) (h : GoodD m k) (hN : 1 ≤ N) (hNb : N ≤ 9223372036854775807) :
    Calls Tryd.prog 12 #[.agg #[.int .i64 m, .int .i64 (k : Int)], .int .i64 (N : Int)] w fun e w' =>
      e = .returned (decP (nrm (sgnI (decide (m < 0)) (divQ m k N)) 6)) ∧ Below w.heap.size w w' := by
  have hk6 : k ≤ 6 := h.le6
  have hAb := h.abs
  obtain ⟨A, hA⟩ : ∃ A, A = m.natAbs := ⟨_, rfl⟩
  rw [← hA] at hAb
  obtain ⟨q, hq⟩ : ∃ q, q = A / N := ⟨_, rfl⟩
  obtain ⟨r, hr⟩ : ∃ q, q = A % N := ⟨_, rfl⟩
  have hqA : q ≤ A := by rw [hq]; exact Nat.div_le_self _ _
  have hrN : r < N := by rw [hr]; exact Nat.mod_lt _ hN
  have e1 : (A : Int).tdiv (N : Int) = (q : Int) := by rw [hq]; rfl
  have e2 : (A : Int).tmod (N : Int) = (r : Int) := by rw [hr]; rfl
  have e3 : (A : Int) / (N : Int) = (q : Int) := by rw [hq]; rfl
  have hqw : IntKind.i64.wrap (q : Int) = (q : Int) := by
    have hx : q ≤ 999999999999999 := Nat.le_trans hqA hAb
    clear hq hr e1 e2 e3
    rw [IntKind.wrap_i64]; omega
  have HQ := Lib.hid (show divQ m k N = valN q (digsN r N (6 - k)) by unfold divQ; rw [← hA, hq, hr, val_div A (6 - k) hN])
  obtain ⟨neg, hneg⟩ : ∃ b, b = decide (m < 0) := ⟨_, rfl⟩
  obtain ⟨V, hV⟩ : ∃ V, V = decP (nrm (sgnI (decide (m < 0)) (divQ m k N)) 6) := ⟨_, rfl⟩
  rw [← hV]
  rw [← hneg] at hV
  have HV := Lib.hid hV
  have HNG := Lib.hid hneg
  have HAm := Lib.hid hA
  have HC := Lib.hid (cmp_boxes w m k 0 0 24)
  have hn1 : ¬ (N : Int) < 1 := by omega
  have hNn : ¬ (N : Int) = 0 := by omega
  have hNz : ¬ N = 0 := by omega
  have HGG := Lib.hid h
  clear hq hr hV hneg hA h
  go_enter Tryd.func12, Tryd.ntmps12
  go_wp2_with fail
  generalize World.alloc (World.alloc w _) _ = w1 at HC ⊢
  obtain ⟨-, ⟨a0, a1, a2, -, -⟩, -⟩ := HC.out
  go_quiet (fail)
  have HC1 := Lib.hid (HC.out.below (drewN_below w1 nq))
  generalize w1.drewN nq = w2 at HC1 ⊢
  clear a0 a1 a2 HC
  go_upto_if 23 with fail
  go_cut [6] from 24 to 25 (fun s6 wx => s6 = .int .i64 (A : Int) ∧ wx = w2)
  case first =>
    by_cases h0 : m < 0
    · have e : -m = (A : Int) := by have := HAm.out; omega
      go_wp2_with fail
      go_meet
      exact ⟨rfl, rfl⟩
    · have HE := Lib.hid (show m = (A : Int) by have := HAm.out; omega)
      go_wp2_with fail
      go_meet
      exact ⟨by rw [← HE.out], rfl⟩
  case rest =>
    obtain ⟨rfl, rfl⟩ := hcut
    rw [← HNG.out]
    go_wp2_with fail
    go_quiet (fail)
    have HC2 := Lib.hid (HC1.out.below (drewN_below wc nq))
    generalize wc.drewN nq = w3 at HC2 ⊢
    clear HC1
    obtain ⟨-, ⟨a0, a1, a2, -, -⟩, -⟩ := HC2.out
    go_wp2_with fail
    clear a0 a1 a2
    go_loopw [9, 10, 11] (fun rv dv iv wx => ∃ i j : Nat, iv = .int .i64 (i : Int) ∧ i = k + j ∧ i ≤ 6 ∧ rv = .int .i64 (restN r N j : Int) ∧ CmpS w m k 0 0 wx ∧ OwN wx (w.heap.size + 2) dv (digsN r N j)) (fun _ _ iv _ => 6 - (intOf iv).toNat)
    case atStart => exact ⟨k, 0, rfl, rfl, hk6, rfl, HC2.out, OwN.nil _ _⟩
    case round =>
      obtain ⟨i, j, rfl, hij, hi6, rfl, hC, hO⟩ := hrel
      have HC := Lib.hid hC
      have HO := Lib.hid hO
      have HIJ := Lib.hid hij
      clear hC hO hij
      by_cases hlt : i < 6
      · have hlti : (i : Int) < 6 := by omega
        obtain ⟨R, hR⟩ : ∃ R, R = restN r N j := ⟨_, rfl⟩
        obtain ⟨D, hD⟩ : ∃ D, D = 10 * R / N := ⟨_, rfl⟩
        obtain ⟨R2, hR2⟩ : ∃ D, D = 10 * R % N := ⟨_, rfl⟩
        have HT := Lib.hid (fun w => ten_any R N D R2 w hD hR2 (by rw [hR]; exact restN_lt hrN j) hNb)
        have HN := Lib.hid (show digsN r N (j + 1) = digsN r N j ++ [D] ∧ restN r N (j + 1) = R2 ∧ (digsN r N j).length = j by
          refine ⟨?_, ?_, digsN_len r N j⟩
          · rw [digsN, ← hR, ← hD]
          · rw [restN, ← hR, ← hR2])
        rw [← hR]
        clear hR hD hR2
        go_wp2_with fail
        (with_reducible refine (HT.out _).mono ?_)
        rintro e w' ⟨rfl, rfl⟩
        have hal := (Below.refl wr.heap.size wr).alloc (Nat.le_refl _) (.cells #[.int .i64 (D : Int)] 3)
        have HCA := Lib.hid (HC.out.below hal)
        have HOA := Lib.hid (HO.out.below hal)
        have HCE := Lib.hid (show (World.alloc wr (.cells #[.int .i64 (D : Int)] 3)).cell? ⟨wr.heap.size, 0, none⟩ = some (.int .i64 (D : Int)) by rw [World.cell?_alloc_new]; rfl)
        have HLL := Lib.hid (show j + 1 ≤ 1000000 by have := HIJ.out; omega)
        clear hal
        go_wp2_with (at_builtin; refine wpList_append_nat rfl _ _ rfl (w.heap.size + 2) HCA.out.room _ (digsN r N j) rfl HOA.out wr.heap.size rfl D HCE.out (j + 1) (by rw [HN.out.2.2]) HLL.out ?_; intro ao3 cap3 w7 ho7 hg7)
        have HO7 := Lib.hid ho7
        have HC7 := Lib.hid (HCA.out.under (HOA.out.stays hg7 (Nat.le_refl _) HCA.out.room))
        clear ho7 hg7
        go_wp2_with fail
        go_roundw
        case rel => exact ⟨i + 1, j + 1, by go_num, by have := HIJ.out; omega, by omega, by rw [HN.out.2.1], HC7.out, by rw [HN.out.1]; exact HO7.out⟩
        case measure => simp [intOf]; omega
      · have hi : i = 6 := by omega
        subst hi
        have hj : j = 6 - k := by have := HIJ.out; omega
        have HJ := Lib.hid hj
        clear hj hlt
        clear HC2
        go_wp2_with fail
        go_loop [10] (fun dv => ∃ (L : List Nat) (z : Nat), OwN wr (w.heap.size + 2) dv L ∧ digsN r N j = L ++ List.replicate z 0) (fun dv => lenV dv)
        case atStart => exact ⟨digsN r N j, 0, HO.out, by simp⟩
        case round =>
          obtain ⟨L, z, hO2, hz⟩ := hrel
          clear HO
          have HLZ := Lib.hid hz
          clear hz
          rcases last_or L with hL | ⟨l', a, hL⟩
          · obtain ⟨so, cap, rfl, hcl, hcb⟩ := hO2.form
            have HLA := Lib.hid (show L = [] ∨ ∃ l' a, L = l' ++ [a] ∧ a ≠ 0 from .inl hL)
            obtain ⟨n, hn⟩ : ∃ n, n = L.length := ⟨_, rfl⟩
            have hstop : ¬ (0 : Int) < (n : Int) := by rw [hn, hL]; simp
            have HO2 := Lib.hid hO2
            clear hO2 hL
            rw [← hn] at HO2 hcl ⊢
            have HQL := Lib.hid (show divQ m k N = valN q L * 10 ^ z ∧ 6 = k + L.length + z by
              rw [HQ.out, ← HJ.out, HLZ.out, valN_app, valN_zeros]
              refine ⟨rfl, ?_⟩
              have h1 := digsN_len r N j
              rw [HLZ.out] at h1
              simp at h1
              have := HIJ.out
              omega)
            have HL9 := Lib.hid (show ∀ d ∈ L, d ≤ 9 from fun d hd => digsN_le hrN j d (by rw [HLZ.out]; exact List.mem_append_left _ hd))
            rw [← hn] at HQL
            have HLN := Lib.hid hn
            have hn6 : n ≤ 6 := by have := HQL.out.2; omega
            clear hn
            go_wp2_with fail
            go_loop [8, 14] (fun qv iv => ∃ i X : Nat, iv = .int .i64 (i : Int) ∧ i ≤ n ∧ qv = .int .i64 (X : Int) ∧ X = valN q (L.take i) ∧ X ≤ 999999999999999) (fun _ iv => n - (intOf iv).toNat)
            case atStart => exact ⟨0, q, rfl, Nat.zero_le _, rfl, by simp [valN], Nat.le_trans hqA hAb⟩
            case round =>
              obtain ⟨i, X, rfl, hi, rfl, hX, hXb⟩ := hrel
              have HX := Lib.hid hX
              clear hX
              by_cases hin : i < n
              · exfalso; omega
              · have hie : i = n := by omega
                have hini : ¬ (i : Int) < (n : Int) := by omega
                have HXL := Lib.hid (show X = valN q L by rw [HX.out, hie, HLN.out, List.take_length])
                have HVX := Lib.hid (show V = decP (nrm (sgnI neg (X : Int)) (k + n)) by rw [HV.out, div_short neg (v := X) (z := z) (n := n) (k := k) (by rw [HXL.out]; exact HQL.out.1) HQL.out.2])
                clear hie
                obtain ⟨kn, hkn⟩ : ∃ x, x = k + n := ⟨_, rfl⟩
                have hkni : (k : Int) + (n : Int) = (kn : Int) := by omega
                have HNO := Lib.hid (fun w b => norm_any w (sgnI b (X : Int)) kn (by cases b <;> simp only [sgnI] <;> (try simp) <;> omega) (by omega))
                rw [← hkn] at HVX
                have hknb : kn ≤ 12 := by omega
                clear hkn
                obtain ⟨-, ⟨a0, a1, a2, -, -⟩, -⟩ := HC.out
                cases neg with
                | false =>
                  have HNN := Lib.hid (fun w => (show Calls Tryd.prog 24 #[.int .i64 (X : Int), .int .i64 (kn : Int)] w _ from HNO.out w false))
                  obtain ⟨vm, vs, vb, hv⟩ := decP_cases (nrm (sgnI false (X : Int)) kn)
                  rw [hv] at HVX HNN
                  clear hv
                  go_wp2_with fail
                  (with_reducible refine (HNN.out _).mono ?_)
                  rintro e w5 ⟨rfl, hb5⟩
                  have HC5 := Lib.hid (HC.out.below hb5)
                  clear hb5 a0 a1 a2
                  obtain ⟨-, -, ⟨b0, b1, b2, b3, b4⟩⟩ := HC5.out
                  go_wp2_with fail
                  exact bodyPost_ret (v := .tuple #[.agg #[.int .i64 vm, .int .i64 vs], .bool vb]) (by simp [results, Tryd.results12, go_sem, b0, b1, b2]) rfl ⟨by rw [HVX.out], ((CmpS.lo HC5.out).setCell (by simp) _).setCell (by simp) _⟩
                | true =>
                  have HNN := Lib.hid (fun w => (show Calls Tryd.prog 24 #[.int .i64 (-(X : Int)), .int .i64 (kn : Int)] w _ from HNO.out w true))
                  obtain ⟨vm, vs, vb, hv⟩ := decP_cases (nrm (sgnI true (X : Int)) kn)
                  rw [hv] at HVX HNN
                  clear hv
                  go_wp2_with fail
                  (with_reducible refine (HNN.out _).mono ?_)
                  rintro e w5 ⟨rfl, hb5⟩
                  have HC5 := Lib.hid (HC.out.below hb5)
                  clear hb5 a0 a1 a2
                  obtain ⟨-, -, ⟨b0, b1, b2, b3, b4⟩⟩ := HC5.out
                  go_wp2_with fail
                  exact bodyPost_ret (v := .tuple #[.agg #[.int .i64 vm, .int .i64 vs], .bool vb]) (by simp [results, Tryd.results12, go_sem, b0, b1, b2]) rfl ⟨by rw [HVX.out], ((CmpS.lo HC5.out).setCell (by simp) _).setCell (by simp) _⟩
          · have hO3 := hO2
            rw [hL] at hO3
            obtain ⟨g, cap, rfl, hcl, hcb, hca, hO4⟩ := hO3.last
            obtain ⟨n1, hn1⟩ : ∃ n, n = l'.length := ⟨_, rfl⟩
            obtain ⟨n, hnn⟩ : ∃ n, n = n1 + 1 := ⟨_, rfl⟩
            have hn : n = L.length := by rw [hnn, hn1, hL]; simp
            rw [← hn1, ← hnn] at hO2 hcl ⊢
            rw [← hn1] at hca
            have hpos : (0 : Int) < (n : Int) := by omega
            have hpr : (n : Int) - 1 = (n1 : Int) := by omega
            have hnb : n1 < n := by omega
            have hcb2 : n ≤ 1000000 := by
              have h1 := digsN_len r N j
              rw [HLZ.out] at h1
              simp at h1
              have := HIJ.out
              omega
            have HO2 := Lib.hid hO2
            have HL1 := Lib.hid (And.intro hn1 hnn)
            have HO4 := Lib.hid hO4
            have HL := Lib.hid hL
            clear hO2 hO3 hO4 hn1 hnn hL
            by_cases ha : a = 0
            · subst ha
              clear hn
              go_wp2_with fail
              go_round
              case rel => exact ⟨l', by have := HO4.out; rw [← HL1.out.1] at this; exact this, z + 1, by rw [HLZ.out, HL.out, List.append_assoc]; rfl⟩
              case measure => simp [lenV]; omega
            · have hai : ¬ (a : Int) = 0 := by omega
              have HLA := Lib.hid (show L = [] ∨ ∃ l' a, L = l' ++ [a] ∧ a ≠ 0 from .inr ⟨l', a, HL.out, ha⟩)
              have HQL := Lib.hid (show divQ m k N = valN q L * 10 ^ z ∧ 6 = k + L.length + z by
                rw [HQ.out, ← HJ.out, HLZ.out, valN_app, valN_zeros]
                refine ⟨rfl, ?_⟩
                have h1 := digsN_len r N j
                rw [HLZ.out] at h1
                simp at h1
                have := HIJ.out
                omega)
              have HL9 := Lib.hid (show ∀ d ∈ L, d ≤ 9 from fun d hd => digsN_le hrN j d (by rw [HLZ.out]; exact List.mem_append_left _ hd))
              rw [← hn] at HQL
              have HLN := Lib.hid hn
              have hn6 : n ≤ 6 := by have := HQL.out.2; omega
              clear hn
              go_wp2_with fail
              go_loop [8, 14] (fun qv iv => ∃ i X : Nat, iv = .int .i64 (i : Int) ∧ i ≤ n ∧ qv = .int .i64 (X : Int) ∧ X = valN q (L.take i) ∧ X ≤ 999999999999999) (fun _ iv => n - (intOf iv).toNat)
              case atStart => exact ⟨0, q, rfl, Nat.zero_le _, rfl, by simp [valN], Nat.le_trans hqA hAb⟩
              case round =>
                obtain ⟨i, X, rfl, hi, rfl, hX, hXb⟩ := hrel
                have HX := Lib.hid hX
                clear hX
                by_cases hin : i < n
                · have hini : (i : Int) < (n : Int) := by omega
                  obtain ⟨d, hd⟩ : ∃ d, L[i]? = some d := ⟨L[i]'(by rw [← HLN.out]; exact hin), by simp⟩
                  have hd9 : d ≤ 9 := HL9.out d (List.mem_of_getElem? hd)
                  obtain ⟨g, cap2, hv, -, -, hcell⟩ := HO2.out.at (by rw [← HLN.out]; omega)
                  simp only [Value.slice.injEq, Option.some.injEq, Addr.mk.injEq] at hv
                  obtain ⟨⟨rfl, -, -⟩, -, rfl⟩ := hv
                  have hc := hcell i d hd
                  have HTK := Lib.hid (show 10 * X + d = valN q (L.take (i + 1)) by
                    rw [List.take_add_one, hd, Option.toList_some, valN_snoc, HX.out])
                  clear hcell hd
                  obtain ⟨X2, hX2⟩ : ∃ x, x = 10 * X + d := ⟨_, rfl⟩
                  have hs : 10 * (X : Int) + (d : Int) = (X2 : Int) := by omega
                  have hX2b : X2 ≤ 9999999999999999 := by omega
                  rw [← hX2] at HTK
                  have HX2 := Lib.hid hX2
                  clear hX2
                  by_cases hov : 999999999999999 < X2
                  · have hovi : (1000000000000000 : Int) ≤ (X2 : Int) := by omega
                    have HFI := Lib.hid (show V = .tuple #[.agg #[.int .i64 0, .int .i64 0], .bool false] by
                      rw [HV.out]
                      refine div_over neg HQL.out.1 HQL.out.2 ?_ ?_
                      · have h1 := valN_ge (L.drop (i + 1)) (valN q (L.take (i + 1)))
                        rw [← valN_app, List.take_append_drop] at h1
                        have := HTK.out
                        omega
                      · rcases HLA.out with h | ⟨l', a, h, ha⟩
                        · have := HLN.out; rw [h] at this; simp at this; omega
                        · have h9 := HL9.out a (by rw [h]; simp)
                          rw [h, valN_snoc]; omega)
                    obtain ⟨-, -, ⟨b0, b1, b2, b3, b4⟩⟩ := HC.out
                    go_wp2_with fail
                    exact bodyPost_ret (v := .tuple #[.agg #[.int .i64 0, .int .i64 0], .bool false]) (by simp [results, Tryd.results12, go_sem, b0, b1, b2]) rfl ⟨by rw [HFI.out], ((CmpS.lo HC.out).setCell (by simp) _).setCell (by simp) _⟩
                  · have hovi : ¬ (1000000000000000 : Int) ≤ (X2 : Int) := by omega
                    go_wp2_with fail
                    go_round
                    case rel => exact ⟨i + 1, X2, by go_num, by omega, rfl, HTK.out, by omega⟩
                    case measure => simp [intOf]; omega
                · have hie : i = n := by omega
                  have hini : ¬ (i : Int) < (n : Int) := by omega
                  have HXL := Lib.hid (show X = valN q L by rw [HX.out, hie, HLN.out, List.take_length])
                  have HVX := Lib.hid (show V = decP (nrm (sgnI neg (X : Int)) (k + n)) by rw [HV.out, div_short neg (v := X) (z := z) (n := n) (k := k) (by rw [HXL.out]; exact HQL.out.1) HQL.out.2])
                  clear hie
                  obtain ⟨kn, hkn⟩ : ∃ x, x = k + n := ⟨_, rfl⟩
                  have hkni : (k : Int) + (n : Int) = (kn : Int) := by omega
                  have HNO := Lib.hid (fun w b => norm_any w (sgnI b (X : Int)) kn (by cases b <;> simp only [sgnI] <;> (try simp) <;> omega) (by omega))
                  rw [← hkn] at HVX
                  have hknb : kn ≤ 12 := by omega
                  clear hkn
                  obtain ⟨-, ⟨a0, a1, a2, -, -⟩, -⟩ := HC.out
                  cases neg with
                  | false =>
                    have HNN := Lib.hid (fun w => (show Calls Tryd.prog 24 #[.int .i64 (X : Int), .int .i64 (kn : Int)] w _ from HNO.out w false))
                    obtain ⟨vm, vs, vb, hv⟩ := decP_cases (nrm (sgnI false (X : Int)) kn)
                    rw [hv] at HVX HNN
                    clear hv
                    go_wp2_with fail
                    (with_reducible refine (HNN.out _).mono ?_)
                    rintro e w5 ⟨rfl, hb5⟩
                    have HC5 := Lib.hid (HC.out.below hb5)
                    clear hb5 a0 a1 a2
                    obtain ⟨-, -, ⟨b0, b1, b2, b3, b4⟩⟩ := HC5.out
                    go_wp2_with fail
                    exact bodyPost_ret (v := .tuple #[.agg #[.int .i64 vm, .int .i64 vs], .bool vb]) (by simp [results, Tryd.results12, go_sem, b0, b1, b2]) rfl ⟨by rw [HVX.out], ((CmpS.lo HC5.out).setCell (by simp) _).setCell (by simp) _⟩
                  | true =>
                    have HNN := Lib.hid (fun w => (show Calls Tryd.prog 24 #[.int .i64 (-(X : Int)), .int .i64 (kn : Int)] w _ from HNO.out w true))
                    obtain ⟨vm, vs, vb, hv⟩ := decP_cases (nrm (sgnI true (X : Int)) kn)
                    rw [hv] at HVX HNN
                    clear hv
                    go_wp2_with fail
                    (with_reducible refine (HNN.out _).mono ?_)
                    rintro e w5 ⟨rfl, hb5⟩
                    have HC5 := Lib.hid (HC.out.below hb5)
                    clear hb5 a0 a1 a2
                    obtain ⟨-, -, ⟨b0, b1, b2, b3, b4⟩⟩ := HC5.out
                    go_wp2_with fail
                    exact bodyPost_ret (v := .tuple #[.agg #[.int .i64 vm, .int .i64 vs], .bool vb]) (by simp [results, Tryd.results12, go_sem, b0, b1, b2]) rfl ⟨by rw [HVX.out], ((CmpS.lo HC5.out).setCell (by simp) _).setCell (by simp) _⟩
end Go.Proofs.YtodhklapikfpoaaDoor
