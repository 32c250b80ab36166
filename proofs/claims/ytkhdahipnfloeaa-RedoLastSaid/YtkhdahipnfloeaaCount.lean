/- redo.count, redo.unlogged. -/
import Derived.Test.YtkhdahipnfloeaaReal
import Derived.Test.YtkhdahipnfloeaaRecover
namespace Go.Proofs.Ytkhdahipnfloeaa
open Go.RowKit
set_option maxRecDepth 100000

theorem DkA.full {w : World} {P : Nat → Prop} {r : Nat} {A : Ab} (h : DkA w P r A) : Full A := by
  obtain ⟨s, ⟨bn, bk, sv, h1⟩, -, rfl⟩ := h
  exact Full.of h1.short.1
theorem DkA.most {w : World} {P : Nat → Prop} {r : Nat} {A : Ab} (h : DkA w P r A) : A.now.length ≤ 3000 := by
  obtain ⟨s, ⟨bn, bk, sv, h1⟩, -, rfl⟩ := h
  rw [abs_len]
  exact h1.most

def countOf (A : Ab) : Int := if A.fault 0 = 0 ∧ isLog A.now.length (A.now.getD 0 []) then cntOf (A.now.getD 0 []) else 0

/-- The frame of Count at its label. -/
def CountOut (n e : Int) (a' : Act) : Prop := ∃ u0 u1 u2 u3 u5 u7 u8 u9 u10 u11 u12 u13 u14 u15 u16 u17 u18 u19 u20 u21 u22 u23 u24 u25 u26 u27 u28 u29 u30 u31 u32 u33 u34 u35 u36 u37 : Value, a' = { tmps := #[u0, u1, u2, u3, .int .i64 n, u5, .int .i64 e, u7, u8, u9, u10, u11, u12, u13, u14, u15, u16, u17, u18, u19, u20, u21, u22, u23, u24, u25, u26, u27, u28, u29, u30, u31, u32, u33, u34, u35, u36, u37], defers := [] }

set_option maxHeartbeats 1000000 in
theorem count_any (w w1 : World) (P : Nat → Prop) (r : Nat) (A : Ab) (h : DkTo w P w1 r A) (hF : Full A) :
    Calls Try.prog 63 #[.pointer (some ⟨r, 0, none⟩)] w1 fun e w' => e = .returned (.tuple #[.int .i64 (countOf A), .int .i64 (A.fault 0)]) ∧ Below w1.heap.size w1 w' := by
  have hread := to_read 0 h
  obtain ⟨f0, hf0⟩ : ∃ f0, f0 = A.fault 0 := ⟨_, rfl⟩
  rw [← hf0] at hread ⊢
  have HR := Lib.hid hread
  have HDK := Lib.hid h
  clear hread h
  by_cases hz : f0 = 0
  · subst hz
    have hlen := hF 0 hf0.symm
    obtain ⟨hd, hhd⟩ : ∃ hd, hd = A.read 0 := ⟨_, rfl⟩
    rw [← hhd] at hlen HR
    have hhd2 : hd = A.now.getD 0 [] := by rw [hhd, Ab.read, if_pos hf0.symm]; rfl
    have hrec : ¬ isLog A.now.length hd → countOf A = 0 := fun hn => by unfold countOf; rw [← hhd2, if_neg (fun h => hn h.2)]
    have hyes : isLog A.now.length hd → countOf A = cntOf hd := fun hn => by unfold countOf; rw [← hhd2, if_pos ⟨hf0.symm, hn⟩]
    have HREC := Lib.hid hrec
    have HYES := Lib.hid hyes
    clear hhd hf0 hhd2 hrec hyes hF
    go_enter Try.func63, Try.ntmps63
    go_wp2_with fail
    refine wp_scope_jumps 0 (fun a' w' => CountOut (countOf A) 0 a' ∧ Below w1.heap.size w1 w') (fun _ _ => 0) rfl ?_ ?_
    · go_wp2_with fail
      refine HR.out.mono ?_
      rintro e w2 ⟨v, rfl, hown, hb1, -⟩
      obtain ⟨g, cap, rfl, hc1, hc2, hg1, hg2, -⟩ := hown.word hlen
      have hc2' : cap ≤ 9223372036854775807 := hc2
      have hbs := hown.bs
      rw [← hlen] at hbs
      have hbd := hbs.drops 8 (by omega)
      have hbt := hbs.takes 8 (by omega)
      rw [hlen, if_neg (by omega)] at hbd
      replace hbd : Bs w2 (.slice (some ⟨g, 8, none⟩) 504 (cap - 8)) (hd.drop 8) := hbd
      have HBD := Lib.hid hbd
      have HB1 := Lib.hid hb1
      have kstr := run_conv_bytes hbt
      obtain ⟨Y, hY⟩ : ∃ Y : ByteArray, Y = ⟨(hd.take 8).toArray⟩ := ⟨_, rfl⟩
      rw [← hY] at kstr
      have hyl : Y.toList = hd.take 8 := by rw [hY, Go.ByteArray.toList_mk]
      have HYL := Lib.hid hyl
      clear hown hb1 hbs hbd hbt HR hY hyl
      by_cases hm : Y.toList = [84, 82, 73, 65, 68, 76, 79, 71]
      · have HMG := Lib.hid (HYL.out.symm.trans hm : hd.take 8 = magic)
        go_wp2_with fail
        refine (new_any _ (hd.drop 8) (by rw [List.length_drop]; omega) _ HBD.out).mono ?_
        rintro e w3 ⟨q, rfl, hrd, hq, hb3⟩
        go_wp2_with fail
        refine (rint_any _ _ _ _ hrd).mono ?_
        rintro e w4 ⟨rfl, -, hg4⟩
        have hcnt : wrap64 (num (tookOf (hd.drop 8) 0 8)) = cntOf hd := by
          rw [took_ok (by rw [List.length_drop, hlen]; omega)]; rfl
        rw [hcnt]
        have HB4 := Lib.hid (HB1.out.trans ((hb3.grown hg4 hb3.size (fun x hx => by simp at hx; omega)).mono HB1.out.size))
        obtain ⟨cn, hcn⟩ : ∃ cn, cn = cntOf hd := ⟨_, rfl⟩
        have hlog : isLog A.now.length hd ↔ (1 ≤ cn ∧ cn ≤ 400 ∧ cn < A.now.length) := by
          unfold isLog
          rw [← hcn]
          exact ⟨fun h => h.2, fun h => ⟨HMG.out, h⟩⟩
        have no : ¬ (1 ≤ cn ∧ cn ≤ 400 ∧ cn < A.now.length) → countOf A = 0 := fun h => HREC.out (fun h' => h (hlog.1 h'))
        have yes : (1 ≤ cn ∧ cn ≤ 400 ∧ cn < A.now.length) → countOf A = cn := fun h => (HYES.out (hlog.2 h)).trans hcn.symm
        rw [← hcn]
        have hsz := to_size (HDK.out.grow HB4.out)
        obtain ⟨N, hN⟩ : ∃ N, N = A.now.length := ⟨_, rfl⟩
        rw [← hN] at hsz no yes
        have NO := Lib.hid no
        have YES := Lib.hid yes
        have HSZ := Lib.hid hsz
        clear hcnt hcn hlog no yes hsz hN hrd hg4 hb3 hq HREC HYES HBD HB1 HMG HYL hm kstr
        by_cases h1 : cn < 1
        · have d1 : decide (cn < 1) = true := by simpa using h1
          have hcc := NO.out (by omega)
          have HCC := Lib.hid hcc
          clear hcc
          go_wp2_with fail
          go_step3
          go_wp2
          simp only [Exit.jump]
          go_ret2
          exact ⟨by rw [HCC.out]; rfl, HB4.out⟩
        have d1 : decide (cn < 1) = false := by simpa using h1
        by_cases h4 : 400 < cn
        · have d4 : decide (400 < cn) = true := by simpa using h4
          have hcc := NO.out (by omega)
          have HCC := Lib.hid hcc
          clear hcc
          go_wp2_with fail
          go_step3
          go_wp2
          simp only [Exit.jump]
          go_ret2
          exact ⟨by rw [HCC.out]; rfl, HB4.out⟩
        have d4 : decide (400 < cn) = false := by simpa using h4
        go_wp2_with fail
        refine HSZ.out.mono ?_
        rintro e wz ⟨rfl, hwz⟩
        replace hwz := hwz.symm
        subst hwz
        by_cases h5 : (N : Int) ≤ cn
        · have hcc := NO.out (by omega)
          have HCC := Lib.hid hcc
          clear hcc
          go_wp2_with fail
          go_step3
          go_wp2
          simp only [Exit.jump]
          go_ret2
          exact ⟨by rw [HCC.out]; rfl, HB4.out⟩
        · have hcc := YES.out (by omega)
          have HCC := Lib.hid hcc
          clear hcc
          go_wp2_with fail
          go_step3
          go_wp2
          simp only [Exit.jump]
          go_ret2
          exact ⟨by rw [HCC.out]; rfl, HB4.out⟩
      · have hno : countOf A = 0 := HREC.out (fun h => hm (HYL.out.trans h.1))
        have HNO := Lib.hid hno
        have hm2 : (Y.toList == [84, 82, 73, 65, 68, 76, 79, 71]) = false := by simpa using hm
        clear HREC HYES HBD HYL hno hm
        go_wp2_with fail
        go_step3
        exact ⟨rfl, by rw [HNO.out]; exact ⟨_, _, _, _, _, _, _, _, _, _, _, _, _, _, _, _, _, _, _, _, _, _, _, _, _, _, _, _, _, _, _, _, _, _, _, _, rfl⟩, HB1.out⟩
    · rintro a' w' ⟨⟨u0, u1, u2, u3, u5, u7, u8, u9, u10, u11, u12, u13, u14, u15, u16, u17, u18, u19, u20, u21, u22, u23, u24, u25, u26, u27, u28, u29, u30, u31, u32, u33, u34, u35, u36, u37, rfl⟩, hw3⟩
      go_wp2
      simp only [Exit.jump]
      go_ret2
      exact ⟨rfl, hw3⟩
  · have hno : countOf A = 0 := by unfold countOf; rw [if_neg (fun h => hz (hf0.trans h.1))]
    rw [hno]
    have hne : (f0 != 0) = true := by simpa using hz
    clear hno hz hf0 hF
    go_enter Try.func63, Try.ntmps63
    go_wp2_with fail
    refine wp_scope_jumps 0 (fun a' w' => CountOut 0 f0 a' ∧ Below w1.heap.size w1 w') (fun _ _ => 0) rfl ?_ ?_
    · go_wp2_with fail
      refine HR.out.mono ?_
      rintro e w2 ⟨v, rfl, -, hb1, -⟩
      go_wp2_with fail
      go_step3
      exact ⟨rfl, ⟨_, _, _, _, _, _, _, _, _, _, _, _, _, _, _, _, _, _, _, _, _, _, _, _, _, _, _, _, _, _, _, _, _, _, _, _, rfl⟩, hb1⟩
    · rintro a' w' ⟨⟨u0, u1, u2, u3, u5, u7, u8, u9, u10, u11, u12, u13, u14, u15, u16, u17, u18, u19, u20, u21, u22, u23, u24, u25, u26, u27, u28, u29, u30, u31, u32, u33, u34, u35, u36, u37, rfl⟩, hw3⟩
      go_wp2
      simp only [Exit.jump]
      go_ret2
      exact ⟨rfl, hw3⟩
end Go.Proofs.Ytkhdahipnfloeaa
