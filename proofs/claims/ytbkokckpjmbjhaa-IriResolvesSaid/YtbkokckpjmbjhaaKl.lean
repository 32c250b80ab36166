/- References: the document's own Resolve. -/
import Derived.Test.YtbkokckpjmbjhaaKk
namespace Go.Proofs.Ytbkokckpjmbjhaa
open Go.RowKit Go.Shelf
set_option maxRecDepth 100000
set_option linter.unusedVariables false
theorem cat5 (z a b c d e : ByteArray) (h : z.data.toList = a.data.toList ++ b.data.toList ++ c.data.toList ++ d.data.toList ++ e.data.toList) : a ++ b ++ c ++ d ++ e = z := ba_ext (by rw [h]; simp)
set_option maxHeartbeats 16000000 in
theorem rresolve_any (b r : ByteArray) (hb : b.size ≤ 100000) (hr : r.size ≤ 100000) (z : ByteArray) (hz : z.data.toList = resolveL (splitL b.data.toList) (splitL r.data.toList)) (w : World) :
    Calls Try.prog 12 #[.string b, .string r] w fun e w' => e = .returned (.string z) ∧ Below w.heap.size w w' := by
  have HS1 := Lib.hid (fun w => rsplit_any b (by omega) w)
  have HS2 := Lib.hid (fun w => rsplit_any r (by omega) w)
  have hp1 := pt_sizes b.data.toList
  have hp2 := pt_sizes r.data.toList
  rw [← Lib.size_eq] at hp1 hp2
  generalize splitL b.data.toList = P at HS1 hz hp1
  generalize splitL r.data.toList = R at HS2 hz hp2
  obtain ⟨b0, hb0⟩ := exists_ba P.s
  obtain ⟨b1, hb1⟩ := exists_ba P.a
  obtain ⟨b2, hb2⟩ := exists_ba P.p
  obtain ⟨b3, hb3⟩ := exists_ba P.q
  obtain ⟨b4, hb4⟩ := exists_ba P.f
  obtain ⟨c0, hc0⟩ := exists_ba R.s
  obtain ⟨c1, hc1⟩ := exists_ba R.a
  obtain ⟨c2, hc2⟩ := exists_ba R.p
  obtain ⟨c3, hc3⟩ := exists_ba R.q
  obtain ⟨c4, hc4⟩ := exists_ba R.f
  have v1 : ptV P = .agg #[.string b0, .string b1, .string b2, .string b3, .string b4] := by unfold ptV; rw [← hb0, ← hb1, ← hb2, ← hb3, ← hb4]
  have v2 : ptV R = .agg #[.string c0, .string c1, .string c2, .string c3, .string c4] := by unfold ptV; rw [← hc0, ← hc1, ← hc2, ← hc3, ← hc4]
  rw [v1] at HS1
  rw [v2] at HS2
  rw [← hb0, ← hb1, ← hb2, ← hb3, ← hb4, ← Lib.size_eq, ← Lib.size_eq, ← Lib.size_eq, ← Lib.size_eq, ← Lib.size_eq] at hp1
  rw [← hc0, ← hc1, ← hc2, ← hc3, ← hc4, ← Lib.size_eq, ← Lib.size_eq, ← Lib.size_eq, ← Lib.size_eq, ← Lib.size_eq] at hp2
  have HB := Lib.hid (And.intro hb0 (And.intro hb1 (And.intro hb2 (And.intro hb3 hb4))))
  have HC := Lib.hid (And.intro hc0 (And.intro hc1 (And.intro hc2 (And.intro hc3 hc4))))
  have HZ := Lib.hid hz
  have HZ1 := Lib.hid (show b0.size + b1.size + b2.size + b3.size + b4.size ≤ 100000 by omega)
  have HZ2 := Lib.hid (show c0.size + c1.size + c2.size + c3.size + c4.size ≤ 100000 by omega)
  have q0 := empty_dec c0
  have q1 := empty_dec c1
  have q2 := empty_dec c2
  rw [hc0] at q0
  rw [hc1] at q1
  rw [hc2] at q2
  clear hb0 hb1 hb2 hb3 hb4 hc0 hc1 hc2 hc3 hc4 v1 v2 hp1 hp2 hz hb hr
  go_enter Try.func12, Try.ntmps12
  go_wp2_with fail
  refine (HS1.out _).mono ?_
  rintro e w1 ⟨rfl, hbel⟩
  go_wp2_with fail
  refine (HS2.out _).mono ?_
  rintro e w2 ⟨rfl, hb2⟩
  replace hbel := hbel.trans (hb2.mono hbel.size)
  clear hb2
  have hle : w.heap.size ≤ w2.heap.size := hbel.size
  have hP := (Blk.new w2 #[.string b0, .string b1, .string b2, .string b3, .string b4] 26).alloc (.cells #[.string c0, .string c1, .string c2, .string c3, .string c4] 26)
  have hR := Blk.new (w2.alloc (.cells #[.string b0, .string b1, .string b2, .string b3, .string b4] 26)) #[.string c0, .string c1, .string c2, .string c3, .string c4] 26
  rw [show (w2.alloc (.cells #[.string b0, .string b1, .string b2, .string b3, .string b4] 26)).heap.size = w2.heap.size + 1 by simp] at hR
  replace hbel := (hbel.alloc hle (.cells #[.string b0, .string b1, .string b2, .string b3, .string b4] 26)).alloc (by simp; omega) (.cells #[.string c0, .string c1, .string c2, .string c3, .string c4] 26)
  go_upto_region 2 with fail
  generalize w2.heap.size = N at hle hP hR ⊢
  generalize World.alloc (World.alloc w2 _) _ = wr at hP hR hbel ⊢
  have z0 := hR.cell 0
  have z1 := hR.cell 1
  have z2 := hR.cell 2
  have z3 := hR.cell 3
  have z4 := hR.cell 4
  have y0 := hR.frozen 0
  have y1 := hR.frozen 1
  have y2 := hR.frozen 2
  have y3 := hR.frozen 3
  have y4 := hR.frozen 4
  simp only [List.getElem?_toArray, List.getElem?_cons_zero, List.getElem?_cons_succ] at z0 z1 z2 z3 z4
  have p0 := hP.cell 0
  have p1 := hP.cell 1
  have p2 := hP.cell 2
  have p3 := hP.cell 3
  have p4 := hP.cell 4
  have v0 := hP.frozen 0
  have v1 := hP.frozen 1
  have v2 := hP.frozen 2
  have v3 := hP.frozen 3
  have v4 := hP.frozen 4
  simp only [List.getElem?_toArray, List.getElem?_cons_zero, List.getElem?_cons_succ] at p0 p1 p2 p3 p4
  have HC0 := HC.out
  have HB0 := HB.out
  by_cases k0 : R.s = []
  rotate_left
  · rw [decide_eq_false k0] at q0
    obtain ⟨dd, hdd⟩ := exists_ba (dotL c2.data.toList)
    have hddl : dd.size ≤ c2.size := by
      rw [Lib.size_eq dd, hdd, Lib.size_eq c2]; exact dot_len _
    have HDT := Lib.hid (fun w => rdots_any c2 (by have := HZ2.out; omega) w)
    rw [show (⟨(dotL c2.data.toList).toArray⟩ : ByteArray) = dd from ba_ext hdd.symm] at HDT
    have s2 : c0.size + c1.size ≤ 9223372036854775807 := by have := HZ1.out; have := HZ2.out; omega
    have s3 : c0.size + c1.size + dd.size ≤ 9223372036854775807 := by have := HZ1.out; have := HZ2.out; omega
    have s4 : c0.size + c1.size + dd.size + c3.size ≤ 9223372036854775807 := by have := HZ1.out; have := HZ2.out; omega
    have s5 : c0.size + c1.size + dd.size + c3.size + c4.size ≤ 9223372036854775807 := by have := HZ1.out; have := HZ2.out; omega
    have hcat := cat5 z c0 c1 dd c3 c4 (by
      rw [HZ.out, HC0.1, HC0.2.1, hdd, HC0.2.2.1, HC0.2.2.2.1, HC0.2.2.2.2]
      unfold resolveL
      rw [if_pos k0])
    go_wp2_with fail
    go_quiet ((go_at_call 22; exact Calls.quiet_of (HDT.out _)))
    go_wp2_with fail
    go_ret
    refine ⟨?_, hbel.trans ((draws_t _ _).mono hbel.size)⟩
    rfl
  rw [decide_eq_true k0] at q0
  by_cases k1 : R.a = []
  rotate_left
  · rw [decide_eq_false k1] at q1
    obtain ⟨dd, hdd⟩ := exists_ba (dotL c2.data.toList)
    have hddl : dd.size ≤ c2.size := by
      rw [Lib.size_eq dd, hdd, Lib.size_eq c2]; exact dot_len _
    have HDT := Lib.hid (fun w => rdots_any c2 (by have := HZ2.out; omega) w)
    rw [show (⟨(dotL c2.data.toList).toArray⟩ : ByteArray) = dd from ba_ext hdd.symm] at HDT
    have s2 : b0.size + c1.size ≤ 9223372036854775807 := by have := HZ1.out; have := HZ2.out; omega
    have s3 : b0.size + c1.size + dd.size ≤ 9223372036854775807 := by have := HZ1.out; have := HZ2.out; omega
    have s4 : b0.size + c1.size + dd.size + c3.size ≤ 9223372036854775807 := by have := HZ1.out; have := HZ2.out; omega
    have s5 : b0.size + c1.size + dd.size + c3.size + c4.size ≤ 9223372036854775807 := by have := HZ1.out; have := HZ2.out; omega
    have hcat := cat5 z b0 c1 dd c3 c4 (by
      rw [HZ.out, HB0.1, HC0.2.1, hdd, HC0.2.2.1, HC0.2.2.2.1, HC0.2.2.2.2]
      unfold resolveL
      rw [if_neg (fun e => e k0), if_pos k1])
    go_wp2_with fail
    go_quiet ((go_at_call 22; exact Calls.quiet_of (HDT.out _)))
    go_wp2_with fail
    go_ret
    refine ⟨?_, hbel.trans ((draws_t _ _).mono hbel.size)⟩
    rfl
  rw [decide_eq_true k1] at q1
  by_cases k2 : R.p = []
  · rw [decide_eq_true k2] at q2
    have q3 := empty_dec c3
    rw [HC0.2.2.2.1] at q3
    by_cases k3 : R.q = []
    · rw [decide_eq_true k3] at q3
      have s2 : b0.size + b1.size ≤ 9223372036854775807 := by have := HZ1.out; have := HZ2.out; omega
      have s3 : b0.size + b1.size + b2.size ≤ 9223372036854775807 := by have := HZ1.out; have := HZ2.out; omega
      have s4 : b0.size + b1.size + b2.size + b3.size ≤ 9223372036854775807 := by have := HZ1.out; have := HZ2.out; omega
      have s5 : b0.size + b1.size + b2.size + b3.size + c4.size ≤ 9223372036854775807 := by have := HZ1.out; have := HZ2.out; omega
      have hcat := cat5 z b0 b1 b2 b3 c4 (by
        rw [HZ.out, HB0.1, HB0.2.1, HB0.2.2.1, HB0.2.2.2.1, HC0.2.2.2.2]
        unfold resolveL
        rw [if_neg (fun e => e k0), if_neg (fun e => e k1), if_pos k2, if_pos k3])
      go_wp2_with fail
      go_ret
      refine ⟨?_, hbel⟩
      rfl
    · rw [decide_eq_false k3] at q3
      have s2 : b0.size + b1.size ≤ 9223372036854775807 := by have := HZ1.out; have := HZ2.out; omega
      have s3 : b0.size + b1.size + b2.size ≤ 9223372036854775807 := by have := HZ1.out; have := HZ2.out; omega
      have s4 : b0.size + b1.size + b2.size + c3.size ≤ 9223372036854775807 := by have := HZ1.out; have := HZ2.out; omega
      have s5 : b0.size + b1.size + b2.size + c3.size + c4.size ≤ 9223372036854775807 := by have := HZ1.out; have := HZ2.out; omega
      have hcat := cat5 z b0 b1 b2 c3 c4 (by
        rw [HZ.out, HB0.1, HB0.2.1, HB0.2.2.1, HC0.2.2.2.1, HC0.2.2.2.2]
        unfold resolveL
        rw [if_neg (fun e => e k0), if_neg (fun e => e k1), if_pos k2, if_neg k3])
      go_wp2_with fail
      go_ret
      refine ⟨?_, hbel⟩
      rfl
  rw [decide_eq_false k2] at q2
  obtain ⟨c, hc⟩ : ∃ c, R.p.head? = some c := by
    cases h : R.p with
    | nil => exact absurd h k2
    | cons c r => exact ⟨c, rfl⟩
  have hcz : 0 < c2.size := by
    rw [Lib.size_eq, HC0.2.2.1]
    cases h : R.p with
    | nil => exact absurd h k2
    | cons c r => simp
  have hczi : (0 : Int) < c2.size := by omega
  have hgk : c2[0]'hcz = c := by
    have hl := HC0.2.2.1
    have e : c2[0]'hcz = c2.data.toList[0]'(by rw [← Lib.size_eq]; exact hcz) := rfl
    rw [e]
    have h2 : c2.data.toList[0]? = some c := by rw [hl, ← List.head?_eq_getElem?]; exact hc
    rw [List.getElem?_eq_getElem (by rw [← Lib.size_eq]; exact hcz)] at h2
    exact Option.some.inj h2
  have hcb : (((c.toNat : Nat) : Int) == 47) = (c == 47) := u8_beq c 47
  by_cases hc47 : c = 47
  · rw [beq_iff_eq.2 hc47] at hcb
    have HC47 := Lib.hid hc47
    clear hc47
    obtain ⟨dd, hdd⟩ := exists_ba (dotL c2.data.toList)
    have hddl : dd.size ≤ c2.size := by
      rw [Lib.size_eq dd, hdd, Lib.size_eq c2]; exact dot_len _
    have HDT := Lib.hid (fun w => rdots_any c2 (by have := HZ2.out; omega) w)
    rw [show (⟨(dotL c2.data.toList).toArray⟩ : ByteArray) = dd from ba_ext hdd.symm] at HDT
    have s2 : b0.size + b1.size ≤ 9223372036854775807 := by have := HZ1.out; have := HZ2.out; omega
    have s3 : b0.size + b1.size + dd.size ≤ 9223372036854775807 := by have := HZ1.out; have := HZ2.out; omega
    have s4 : b0.size + b1.size + dd.size + c3.size ≤ 9223372036854775807 := by have := HZ1.out; have := HZ2.out; omega
    have s5 : b0.size + b1.size + dd.size + c3.size + c4.size ≤ 9223372036854775807 := by have := HZ1.out; have := HZ2.out; omega
    have hcat := cat5 z b0 b1 dd c3 c4 (by
      rw [HZ.out, HB0.1, HB0.2.1, hdd, HC0.2.2.1, HC0.2.2.2.1, HC0.2.2.2.2]
      unfold resolveL
      rw [if_neg (fun e => e k0), if_neg (fun e => e k1), if_neg k2, if_pos (by rw [hc, HC47.out])])
    go_wp2_with fail
    go_quiet ((go_at_call 22; exact Calls.quiet_of (HDT.out _)))
    go_wp2_with fail
    go_ret
    refine ⟨?_, hbel.trans ((draws_t _ _).mono hbel.size)⟩
    rfl
  rw [beq_eq_false_iff_ne.2 hc47] at hcb
  have HC47 := Lib.hid hc47
  clear hc47
  obtain ⟨fd, hfd⟩ := exists_ba (folderL P)
  have hfds : fd.size ≤ 100001 := by
    rw [Lib.size_eq, hfd]
    unfold folderL
    have := HZ1.out
    have h3 := (dir_len P.p).1
    rw [← HB0.2.2.1, ← Lib.size_eq] at h3
    split
    · simp
    · rw [← HB0.2.2.1]; omega
  obtain ⟨e2, he2⟩ : ∃ e2 : ByteArray, fd ++ c2 = e2 := ⟨_, rfl⟩
  have he2l : e2.data.toList = folderL P ++ R.p := by rw [← he2, ← hfd, ← HC0.2.2.1]; simp
  have he2s : e2.size = fd.size + c2.size := by rw [← he2, ByteArray.size_append]
  have hadd : fd.size + c2.size ≤ 9223372036854775807 := by have := HZ2.out; omega
  obtain ⟨ee, hee⟩ := exists_ba (dotL e2.data.toList)
  have heel : ee.size ≤ e2.size := by
    rw [Lib.size_eq ee, hee, Lib.size_eq e2]; exact dot_len _
  have HDT := Lib.hid (fun w => rdots_any e2 (by have := HZ2.out; omega) w)
  rw [show (⟨(dotL e2.data.toList).toArray⟩ : ByteArray) = ee from ba_ext hee.symm] at HDT
  have s2 : b0.size + b1.size ≤ 9223372036854775807 := by have := HZ1.out; have := HZ2.out; omega
  have s3 : b0.size + b1.size + ee.size ≤ 9223372036854775807 := by have := HZ1.out; have := HZ2.out; omega
  have s4 : b0.size + b1.size + ee.size + c3.size ≤ 9223372036854775807 := by have := HZ1.out; have := HZ2.out; omega
  have s5 : b0.size + b1.size + ee.size + c3.size + c4.size ≤ 9223372036854775807 := by have := HZ1.out; have := HZ2.out; omega
  have hcat := cat5 z b0 b1 ee c3 c4 (by
    rw [HZ.out, HB0.1, HB0.2.1, hee, he2l, HC0.2.2.2.1, HC0.2.2.2.2]
    unfold resolveL
    rw [if_neg (fun e => e k0), if_neg (fun e => e k1), if_neg k2, if_neg (by rw [hc]; exact fun e => HC47.out (Option.some.inj e))])
  have hb2s : b2.size ≤ 1000000 := by have := HZ1.out; omega
  have HCUT := Lib.hid (fun w => rcut_any b2 hb2s w)
  have HIN := Lib.hid (fun w => rin_any 47 b2 hb2s w)
  rw [HB0.2.2.1] at HCUT HIN
  have HE := Lib.hid he2
  have t1 := empty_dec b1
  have t2 := empty_dec b2
  rw [HB0.2.1] at t1
  rw [HB0.2.2.1] at t2
  have hcl := cut_len P.p
  rw [← HB0.2.2.1, ← Lib.size_eq, HB0.2.2.1] at hcl
  rcases last_slash P.p with ⟨n1, n2, n3⟩ | ⟨x, y, n1, -, n2, n3⟩
  · rw [n1] at HIN
    rw [n2] at HCUT
    clear hcl
    by_cases m1 : P.a = []
    · rw [decide_eq_true m1] at t1
      have ef : fd = ⟨#[]⟩ := ba_ext (by rw [hfd, folderL, if_neg (fun e => e.1 m1), n3])
      subst ef
      clear hfd hfds
      go_wp2_with fail
      refine (HCUT.out _).mono ?_
      rintro e w7 ⟨rfl, hw⟩
      obtain rfl := hw.symm
      clear hw
      go_wp2_with fail
      refine (HIN.out _).mono ?_
      rintro e w7 ⟨rfl, hw⟩
      obtain rfl := hw.symm
      clear hw
      go_wp2_with fail
      go_quiet ((go_at_call 22; exact Calls.quiet_of (HDT.out _)))
      go_wp2_with fail
      go_ret
      refine ⟨?_, hbel.trans ((draws_t _ _).mono hbel.size)⟩
      rfl
    · rw [decide_eq_false m1] at t1
      by_cases m2 : P.p = []
      · rw [decide_eq_true m2] at t2
        have ef : fd = ⟨#[47]⟩ := ba_ext (by rw [hfd, folderL, if_pos ⟨m1, m2⟩])
        subst ef
        clear hfd hfds
        go_wp2_with fail
        refine (HCUT.out _).mono ?_
        rintro e w7 ⟨rfl, hw⟩
        obtain rfl := hw.symm
        clear hw
        go_wp2_with fail
        refine (HIN.out _).mono ?_
        rintro e w7 ⟨rfl, hw⟩
        obtain rfl := hw.symm
        clear hw
        go_wp2_with fail
        go_quiet ((go_at_call 22; exact Calls.quiet_of (HDT.out _)))
        go_wp2_with fail
        go_ret
        refine ⟨?_, hbel.trans ((draws_t _ _).mono hbel.size)⟩
        rfl
      · rw [decide_eq_false m2] at t2
        have ef : fd = ⟨#[]⟩ := ba_ext (by rw [hfd, folderL, if_neg (fun e => m2 e.2), n3])
        subst ef
        clear hfd hfds
        go_wp2_with fail
        refine (HCUT.out _).mono ?_
        rintro e w7 ⟨rfl, hw⟩
        obtain rfl := hw.symm
        clear hw
        go_wp2_with fail
        refine (HIN.out _).mono ?_
        rintro e w7 ⟨rfl, hw⟩
        obtain rfl := hw.symm
        clear hw
        go_wp2_with fail
        go_quiet ((go_at_call 22; exact Calls.quiet_of (HDT.out _)))
        go_wp2_with fail
        go_ret
        refine ⟨?_, hbel.trans ((draws_t _ _).mono hbel.size)⟩
        rfl
  · have m2 : ¬ P.p = [] := by rw [n1]; simp
    have hin : P.p.contains 47 = true := by rw [n1]; simp
    rw [hin] at HIN
    rw [decide_eq_false m2] at t2
    have ef : fd = ⟨(cutL P.p).toArray⟩ ++ ⟨#[47]⟩ := ba_ext (by rw [hfd, folderL, if_neg (fun e => m2 e.2), n3, n2]; simp)
    obtain ⟨g, hg⟩ : ∃ g : ByteArray, g = ⟨(cutL P.p).toArray⟩ := ⟨_, rfl⟩
    have hgs : g.size ≤ 100000 := by
      have := HZ1.out
      rw [Lib.size_eq, hg]
      show (cutL P.p).length ≤ _
      omega
    rw [← hg] at ef HCUT
    have ef2 := ef.symm
    have hadd2 : g.size + 1 ≤ 9223372036854775807 := by omega
    clear ef hg
    by_cases m1 : P.a = []
    · rw [decide_eq_true m1] at t1
      clear hfd hfds
      go_wp2_with fail
      refine (HCUT.out _).mono ?_
      rintro e w7 ⟨rfl, hw⟩
      obtain rfl := hw.symm
      clear hw
      go_wp2_with fail
      refine (HIN.out _).mono ?_
      rintro e w7 ⟨rfl, hw⟩
      obtain rfl := hw.symm
      clear hw
      go_wp2_with fail
      go_quiet ((go_at_call 22; exact Calls.quiet_of (HDT.out _)))
      go_wp2_with fail
      go_ret
      refine ⟨?_, hbel.trans ((draws_t _ _).mono hbel.size)⟩
      rfl
    · rw [decide_eq_false m1] at t1
      clear hfd hfds
      go_wp2_with fail
      refine (HCUT.out _).mono ?_
      rintro e w7 ⟨rfl, hw⟩
      obtain rfl := hw.symm
      clear hw
      go_wp2_with fail
      refine (HIN.out _).mono ?_
      rintro e w7 ⟨rfl, hw⟩
      obtain rfl := hw.symm
      clear hw
      go_wp2_with fail
      go_quiet ((go_at_call 22; exact Calls.quiet_of (HDT.out _)))
      go_wp2_with fail
      go_ret
      refine ⟨?_, hbel.trans ((draws_t _ _).mono hbel.size)⟩
      rfl
end Go.Proofs.Ytbkokckpjmbjhaa
