/- redo.synced: n Writes and a Sync, once for each closure that says what is written. -/
import Derived.Test.YtkhdahipnfloeaaClos
namespace Go.Proofs.Ytkhdahipnfloeaa
open Go.RowKit
set_option maxRecDepth 100000

/-- The frame of synced at its label. -/
def SyncedOut (e : Int) (a' : Act) : Prop := ∃ u0 u1 u2 u3 u4 u5 u6 u8 u9 u10 u11 u12 u13 u14 u15 u16 u17 u18 u19 u20 u21 u22 u23 u24 u25 u26 u27 u28 u29 u30 : Value, a' = { tmps := #[u0, u1, u2, u3, u4, u5, u6, .int .i64 e, u8, u9, u10, u11, u12, u13, u14, u15, u16, u17, u18, u19, u20, u21, u22, u23, u24, u25, u26, u27, u28, u29, u30], defers := [] }

theorem write_alike {A : Ab} {i : Int} {b b' : List UInt8} (h : sec b = sec b') (h1 : b.length ≤ 512) (h2 : b'.length ≤ 512) : A.write i b = A.write i b' ∧ A.writeErr i b = A.writeErr i b' := by
  unfold Ab.write Ab.writeErr
  rw [h]
  have e1 : (512 < b.length) = False := by simp; omega
  have e2 : (512 < b'.length) = False := by simp; omega
  have e3 : (b.length ≤ 512) = True := by simp [h1]
  have e4 : (b'.length ≤ 512) = True := by simp [h2]
  simp only [e1, e2, e3, e4]
  exact ⟨trivial, trivial⟩

set_option maxHeartbeats 1000000 in
theorem synced_body (cp : Value) (w : World) (P : Nat → Prop) (r : Nat) (A : Ab) (h : DkA w P r A) (ws : List (Nat × List UInt8)) (m : Int) (hm : m = ws.length) (hln : ws.length ≤ 400) (hs : Small A 1000000) (hw : ∀ p ∈ ws, p.2.length ≤ 512)
    (hf : ∀ i (hi : i < ws.length) w', Moved P w w' → Calls Try.prog 35 #[.int .i64 i, cp] w' fun e w'' => ∃ v b, e = .returned (.tuple #[.int .i64 (ws[i].1 : Nat), v]) ∧ Bs w'' v b ∧ b.length ≤ 512 ∧ sec b = sec ws[i].2 ∧ Below w'.heap.size w' w'') :
    Calls Try.prog 34 #[.pointer (some ⟨r, 0, none⟩), .int .i64 m, .func (.func 35) #[] #[cp]] w fun e w' => e = .returned (.int .i64 (A.run (ph ws)).1) ∧ DkTo w P w' r (A.run (ph ws)).2 := by
  subst hm
  obtain ⟨n, hn⟩ : ∃ n, n = ws.length := ⟨_, rfl⟩
  have HN := Lib.hid hn
  have H0 : Hid (DkTo w P w r A) := DkTo.refl h
  have HS := Lib.hid hs
  have HW := Lib.hid hw
  have HF := Lib.hid hf
  have HPH := Lib.hid (show ph ws = Wops ws ++ [Dop.S] from rfl)
  rw [← hn] at hln ⊢
  clear hn h hs hw hf
  go_enter Try.func34, Try.ntmps34
  go_wp2_with fail
  refine wp_scope_jumps 0 (fun a' w' => SyncedOut (A.run (ph ws)).1 a' ∧ DkTo w P w' r (A.run (ph ws)).2) (fun _ _ => 0) rfl ?_ ?_
  · go_wp2_with fail
    go_loopw [7, 8, 9, 10, 12] (fun e _ _ _ i wr => ∃ k : Nat, k ≤ n ∧ i = .int .i64 k ∧ e = .int .i64 0 ∧ ∃ Ak, A.run (Wops (ws.take k)) = (0, Ak) ∧ DkTo w P wr r Ak ∧ Small Ak (1000000 + k)) (fun _ _ _ _ i _ => n - (intOf i).toNat)
    case atStart => exact ⟨0, Nat.zero_le _, rfl, rfl, A, rfl, H0.out, HS.out⟩
    case round =>
      obtain ⟨k, hk, rfl, rfl, Ak, hrun, hR, hsm⟩ := hrel
      have HRun := Lib.hid hrun
      have HA := Lib.hid hR
      have HSM := Lib.hid hsm
      clear hrun hR hsm
      by_cases hlt : k < n
      · have hkl : k < ws.length := by rw [← HN.out]; exact hlt
        obtain ⟨Pk, -, hM, -⟩ := id HA.out
        have hcl := HF.out k hkl _ hM
        have hl := HW.out _ (List.getElem_mem hkl)
        have ok := run_take_ok hkl HRun.out
        have bad := fun he => run_take_bad hkl HRun.out he [Dop.S]
        rw [← HPH.out] at bad
        obtain ⟨at1, hat⟩ : ∃ m : Nat, m = ws[k].1 := ⟨_, rfl⟩
        obtain ⟨bs, hbb⟩ : ∃ m, m = ws[k].2 := ⟨_, rfl⟩
        rw [← hbb] at hcl hl
        rw [← hat] at hcl
        rw [← hat, ← hbb] at ok bad
        have HCL := Lib.hid hcl
        have OK := Lib.hid ok
        have BAD := Lib.hid bad
        have HL := Lib.hid hl
        clear ok bad hcl hl hat hbb hM
        go_wp2_with fail
        refine HCL.out.mono ?_
        rintro e w2 ⟨v, b, rfl, hb, hbl, hsec, hbw⟩
        have HA2 := Lib.hid (HA.out.grow hbw)
        have HB := Lib.hid hb
        obtain ⟨al1, al2⟩ := write_alike (A := Ak) (i := (at1 : Int)) hsec hbl HL.out
        have hwr := to_write (at1 : Int) v b HA2.out hb (HSM.out.mono (by omega))
        rw [al1, al2] at hwr
        obtain ⟨er, her⟩ : ∃ er, er = Ak.writeErr at1 bs := ⟨_, rfl⟩
        rw [← her] at hwr
        have HWR := Lib.hid hwr
        have HER := Lib.hid her
        clear hb hbl hsec hbw al1 al2 hwr her HCL
        go_wp2_with fail
        refine HWR.out.mono ?_
        rintro e w3 ⟨rfl, hw3⟩
        have HW3 := Lib.hid hw3
        clear hw3 HWR
        cases he : er == 0
        · have hne : (er != 0) = true := by rw [bne, he]; rfl
          go_wp2_with fail
          have hb := BAD.out (by rw [← HER.out]; simpa using he)
          rw [← HER.out] at hb
          have HBB := Lib.hid hb
          clear hb
          go_step3
          refine ⟨rfl, ?_, ?_⟩
          · rw [HBB.out]; exact ⟨_, _, _, _, _, _, _, _, _, _, _, _, _, _, _, _, _, _, _, _, _, _, _, _, _, _, _, _, _, _, rfl⟩
          · rw [HBB.out]; exact HW3.out
        · have hne : (er != 0) = false := by rw [bne, he]; rfl
          obtain rfl : er = 0 := by simpa using he
          go_wp2_with fail
          go_roundw
          case rel => exact ⟨k + 1, by omega, by go_num, rfl, _, OK.out HER.out.symm, HW3.out, HSM.out.write _ _⟩
          case measure => simp [intOf]; omega
      · obtain rfl : k = n := by omega
        have hrest := run_take_all (by rw [HN.out]; exact Nat.le_refl _) HRun.out [Dop.S]
        rw [← HPH.out] at hrest
        have hsy := to_sync HA.out (HSM.out.mono (by omega))
        obtain ⟨er, her⟩ : ∃ er, er = Ak.syncErr := ⟨_, rfl⟩
        rw [← her] at hsy
        have HSY := Lib.hid hsy
        have hfin : A.run (ph ws) = (er, Ak.sync) := by
          rw [hrest, her]
          show (if Ak.syncErr = 0 then _ else _) = _
          split
          · rename_i h; rw [h]; rfl
          · rfl
        have HFIN := Lib.hid hfin
        clear hrest hsy her hfin
        go_wp2_with fail
        refine HSY.out.mono ?_
        rintro e w3 ⟨rfl, hw3⟩
        go_wp2_with fail
        go_step3
        go_wp2
        simp only [Exit.jump]
        go_ret
        rw [HFIN.out]
        exact ⟨rfl, hw3⟩
  · rintro a' w' ⟨⟨u0, u1, u2, u3, u4, u5, u6, u8, u9, u10, u11, u12, u13, u14, u15, u16, u17, u18, u19, u20, u21, u22, u23, u24, u25, u26, u27, u28, u29, u30, rfl⟩, hw3⟩
    go_wp2
    simp only [Exit.jump]
    go_ret
    exact ⟨rfl, hw3⟩


set_option maxHeartbeats 1000000 in
theorem synced_head (cp : Value) (w : World) (P : Nat → Prop) (r : Nat) (A : Ab) (h : DkA w P r A) (ws : List (Nat × List UInt8)) (m : Int) (hm : m = ws.length) (hln : ws.length ≤ 400) (hs : Small A 1000000) (hw : ∀ p ∈ ws, p.2.length ≤ 512)
    (hf : ∀ i (hi : i < ws.length) w', Moved P w w' → Calls Try.prog 37 #[.int .i64 i, cp] w' fun e w'' => ∃ v b, e = .returned (.tuple #[.int .i64 (ws[i].1 : Nat), v]) ∧ Bs w'' v b ∧ b.length ≤ 512 ∧ sec b = sec ws[i].2 ∧ Below w'.heap.size w' w'') :
    Calls Try.prog 34 #[.pointer (some ⟨r, 0, none⟩), .int .i64 m, .func (.func 37) #[] #[cp]] w fun e w' => e = .returned (.int .i64 (A.run (ph ws)).1) ∧ DkTo w P w' r (A.run (ph ws)).2 := by
  subst hm
  obtain ⟨n, hn⟩ : ∃ n, n = ws.length := ⟨_, rfl⟩
  have HN := Lib.hid hn
  have H0 : Hid (DkTo w P w r A) := DkTo.refl h
  have HS := Lib.hid hs
  have HW := Lib.hid hw
  have HF := Lib.hid hf
  have HPH := Lib.hid (show ph ws = Wops ws ++ [Dop.S] from rfl)
  rw [← hn] at hln ⊢
  clear hn h hs hw hf
  go_enter Try.func34, Try.ntmps34
  go_wp2_with fail
  refine wp_scope_jumps 0 (fun a' w' => SyncedOut (A.run (ph ws)).1 a' ∧ DkTo w P w' r (A.run (ph ws)).2) (fun _ _ => 0) rfl ?_ ?_
  · go_wp2_with fail
    go_loopw [7, 8, 9, 10, 12] (fun e _ _ _ i wr => ∃ k : Nat, k ≤ n ∧ i = .int .i64 k ∧ e = .int .i64 0 ∧ ∃ Ak, A.run (Wops (ws.take k)) = (0, Ak) ∧ DkTo w P wr r Ak ∧ Small Ak (1000000 + k)) (fun _ _ _ _ i _ => n - (intOf i).toNat)
    case atStart => exact ⟨0, Nat.zero_le _, rfl, rfl, A, rfl, H0.out, HS.out⟩
    case round =>
      obtain ⟨k, hk, rfl, rfl, Ak, hrun, hR, hsm⟩ := hrel
      have HRun := Lib.hid hrun
      have HA := Lib.hid hR
      have HSM := Lib.hid hsm
      clear hrun hR hsm
      by_cases hlt : k < n
      · have hkl : k < ws.length := by rw [← HN.out]; exact hlt
        obtain ⟨Pk, -, hM, -⟩ := id HA.out
        have hcl := HF.out k hkl _ hM
        have hl := HW.out _ (List.getElem_mem hkl)
        have ok := run_take_ok hkl HRun.out
        have bad := fun he => run_take_bad hkl HRun.out he [Dop.S]
        rw [← HPH.out] at bad
        obtain ⟨at1, hat⟩ : ∃ m : Nat, m = ws[k].1 := ⟨_, rfl⟩
        obtain ⟨bs, hbb⟩ : ∃ m, m = ws[k].2 := ⟨_, rfl⟩
        rw [← hbb] at hcl hl
        rw [← hat] at hcl
        rw [← hat, ← hbb] at ok bad
        have HCL := Lib.hid hcl
        have OK := Lib.hid ok
        have BAD := Lib.hid bad
        have HL := Lib.hid hl
        clear ok bad hcl hl hat hbb hM
        go_wp2_with fail
        refine HCL.out.mono ?_
        rintro e w2 ⟨v, b, rfl, hb, hbl, hsec, hbw⟩
        have HA2 := Lib.hid (HA.out.grow hbw)
        have HB := Lib.hid hb
        obtain ⟨al1, al2⟩ := write_alike (A := Ak) (i := (at1 : Int)) hsec hbl HL.out
        have hwr := to_write (at1 : Int) v b HA2.out hb (HSM.out.mono (by omega))
        rw [al1, al2] at hwr
        obtain ⟨er, her⟩ : ∃ er, er = Ak.writeErr at1 bs := ⟨_, rfl⟩
        rw [← her] at hwr
        have HWR := Lib.hid hwr
        have HER := Lib.hid her
        clear hb hbl hsec hbw al1 al2 hwr her HCL
        go_wp2_with fail
        refine HWR.out.mono ?_
        rintro e w3 ⟨rfl, hw3⟩
        have HW3 := Lib.hid hw3
        clear hw3 HWR
        cases he : er == 0
        · have hne : (er != 0) = true := by rw [bne, he]; rfl
          go_wp2_with fail
          have hb := BAD.out (by rw [← HER.out]; simpa using he)
          rw [← HER.out] at hb
          have HBB := Lib.hid hb
          clear hb
          go_step3
          refine ⟨rfl, ?_, ?_⟩
          · rw [HBB.out]; exact ⟨_, _, _, _, _, _, _, _, _, _, _, _, _, _, _, _, _, _, _, _, _, _, _, _, _, _, _, _, _, _, rfl⟩
          · rw [HBB.out]; exact HW3.out
        · have hne : (er != 0) = false := by rw [bne, he]; rfl
          obtain rfl : er = 0 := by simpa using he
          go_wp2_with fail
          go_roundw
          case rel => exact ⟨k + 1, by omega, by go_num, rfl, _, OK.out HER.out.symm, HW3.out, HSM.out.write _ _⟩
          case measure => simp [intOf]; omega
      · obtain rfl : k = n := by omega
        have hrest := run_take_all (by rw [HN.out]; exact Nat.le_refl _) HRun.out [Dop.S]
        rw [← HPH.out] at hrest
        have hsy := to_sync HA.out (HSM.out.mono (by omega))
        obtain ⟨er, her⟩ : ∃ er, er = Ak.syncErr := ⟨_, rfl⟩
        rw [← her] at hsy
        have HSY := Lib.hid hsy
        have hfin : A.run (ph ws) = (er, Ak.sync) := by
          rw [hrest, her]
          show (if Ak.syncErr = 0 then _ else _) = _
          split
          · rename_i h; rw [h]; rfl
          · rfl
        have HFIN := Lib.hid hfin
        clear hrest hsy her hfin
        go_wp2_with fail
        refine HSY.out.mono ?_
        rintro e w3 ⟨rfl, hw3⟩
        go_wp2_with fail
        go_step3
        go_wp2
        simp only [Exit.jump]
        go_ret
        rw [HFIN.out]
        exact ⟨rfl, hw3⟩
  · rintro a' w' ⟨⟨u0, u1, u2, u3, u4, u5, u6, u8, u9, u10, u11, u12, u13, u14, u15, u16, u17, u18, u19, u20, u21, u22, u23, u24, u25, u26, u27, u28, u29, u30, rfl⟩, hw3⟩
    go_wp2
    simp only [Exit.jump]
    go_ret
    exact ⟨rfl, hw3⟩


set_option maxHeartbeats 1000000 in
theorem synced_home (cp : Value) (w : World) (P : Nat → Prop) (r : Nat) (A : Ab) (h : DkA w P r A) (ws : List (Nat × List UInt8)) (m : Int) (hm : m = ws.length) (hln : ws.length ≤ 400) (hs : Small A 1000000) (hw : ∀ p ∈ ws, p.2.length ≤ 512)
    (hf : ∀ i (hi : i < ws.length) w', Moved P w w' → Calls Try.prog 61 #[.int .i64 i, cp] w' fun e w'' => ∃ v b, e = .returned (.tuple #[.int .i64 (ws[i].1 : Nat), v]) ∧ Bs w'' v b ∧ b.length ≤ 512 ∧ sec b = sec ws[i].2 ∧ Below w'.heap.size w' w'') :
    Calls Try.prog 34 #[.pointer (some ⟨r, 0, none⟩), .int .i64 m, .func (.func 61) #[] #[cp]] w fun e w' => e = .returned (.int .i64 (A.run (ph ws)).1) ∧ DkTo w P w' r (A.run (ph ws)).2 := by
  subst hm
  obtain ⟨n, hn⟩ : ∃ n, n = ws.length := ⟨_, rfl⟩
  have HN := Lib.hid hn
  have H0 : Hid (DkTo w P w r A) := DkTo.refl h
  have HS := Lib.hid hs
  have HW := Lib.hid hw
  have HF := Lib.hid hf
  have HPH := Lib.hid (show ph ws = Wops ws ++ [Dop.S] from rfl)
  rw [← hn] at hln ⊢
  clear hn h hs hw hf
  go_enter Try.func34, Try.ntmps34
  go_wp2_with fail
  refine wp_scope_jumps 0 (fun a' w' => SyncedOut (A.run (ph ws)).1 a' ∧ DkTo w P w' r (A.run (ph ws)).2) (fun _ _ => 0) rfl ?_ ?_
  · go_wp2_with fail
    go_loopw [7, 8, 9, 10, 12] (fun e _ _ _ i wr => ∃ k : Nat, k ≤ n ∧ i = .int .i64 k ∧ e = .int .i64 0 ∧ ∃ Ak, A.run (Wops (ws.take k)) = (0, Ak) ∧ DkTo w P wr r Ak ∧ Small Ak (1000000 + k)) (fun _ _ _ _ i _ => n - (intOf i).toNat)
    case atStart => exact ⟨0, Nat.zero_le _, rfl, rfl, A, rfl, H0.out, HS.out⟩
    case round =>
      obtain ⟨k, hk, rfl, rfl, Ak, hrun, hR, hsm⟩ := hrel
      have HRun := Lib.hid hrun
      have HA := Lib.hid hR
      have HSM := Lib.hid hsm
      clear hrun hR hsm
      by_cases hlt : k < n
      · have hkl : k < ws.length := by rw [← HN.out]; exact hlt
        obtain ⟨Pk, -, hM, -⟩ := id HA.out
        have hcl := HF.out k hkl _ hM
        have hl := HW.out _ (List.getElem_mem hkl)
        have ok := run_take_ok hkl HRun.out
        have bad := fun he => run_take_bad hkl HRun.out he [Dop.S]
        rw [← HPH.out] at bad
        obtain ⟨at1, hat⟩ : ∃ m : Nat, m = ws[k].1 := ⟨_, rfl⟩
        obtain ⟨bs, hbb⟩ : ∃ m, m = ws[k].2 := ⟨_, rfl⟩
        rw [← hbb] at hcl hl
        rw [← hat] at hcl
        rw [← hat, ← hbb] at ok bad
        have HCL := Lib.hid hcl
        have OK := Lib.hid ok
        have BAD := Lib.hid bad
        have HL := Lib.hid hl
        clear ok bad hcl hl hat hbb hM
        go_wp2_with fail
        refine HCL.out.mono ?_
        rintro e w2 ⟨v, b, rfl, hb, hbl, hsec, hbw⟩
        have HA2 := Lib.hid (HA.out.grow hbw)
        have HB := Lib.hid hb
        obtain ⟨al1, al2⟩ := write_alike (A := Ak) (i := (at1 : Int)) hsec hbl HL.out
        have hwr := to_write (at1 : Int) v b HA2.out hb (HSM.out.mono (by omega))
        rw [al1, al2] at hwr
        obtain ⟨er, her⟩ : ∃ er, er = Ak.writeErr at1 bs := ⟨_, rfl⟩
        rw [← her] at hwr
        have HWR := Lib.hid hwr
        have HER := Lib.hid her
        clear hb hbl hsec hbw al1 al2 hwr her HCL
        go_wp2_with fail
        refine HWR.out.mono ?_
        rintro e w3 ⟨rfl, hw3⟩
        have HW3 := Lib.hid hw3
        clear hw3 HWR
        cases he : er == 0
        · have hne : (er != 0) = true := by rw [bne, he]; rfl
          go_wp2_with fail
          have hb := BAD.out (by rw [← HER.out]; simpa using he)
          rw [← HER.out] at hb
          have HBB := Lib.hid hb
          clear hb
          go_step3
          refine ⟨rfl, ?_, ?_⟩
          · rw [HBB.out]; exact ⟨_, _, _, _, _, _, _, _, _, _, _, _, _, _, _, _, _, _, _, _, _, _, _, _, _, _, _, _, _, _, rfl⟩
          · rw [HBB.out]; exact HW3.out
        · have hne : (er != 0) = false := by rw [bne, he]; rfl
          obtain rfl : er = 0 := by simpa using he
          go_wp2_with fail
          go_roundw
          case rel => exact ⟨k + 1, by omega, by go_num, rfl, _, OK.out HER.out.symm, HW3.out, HSM.out.write _ _⟩
          case measure => simp [intOf]; omega
      · obtain rfl : k = n := by omega
        have hrest := run_take_all (by rw [HN.out]; exact Nat.le_refl _) HRun.out [Dop.S]
        rw [← HPH.out] at hrest
        have hsy := to_sync HA.out (HSM.out.mono (by omega))
        obtain ⟨er, her⟩ : ∃ er, er = Ak.syncErr := ⟨_, rfl⟩
        rw [← her] at hsy
        have HSY := Lib.hid hsy
        have hfin : A.run (ph ws) = (er, Ak.sync) := by
          rw [hrest, her]
          show (if Ak.syncErr = 0 then _ else _) = _
          split
          · rename_i h; rw [h]; rfl
          · rfl
        have HFIN := Lib.hid hfin
        clear hrest hsy her hfin
        go_wp2_with fail
        refine HSY.out.mono ?_
        rintro e w3 ⟨rfl, hw3⟩
        go_wp2_with fail
        go_step3
        go_wp2
        simp only [Exit.jump]
        go_ret
        rw [HFIN.out]
        exact ⟨rfl, hw3⟩
  · rintro a' w' ⟨⟨u0, u1, u2, u3, u4, u5, u6, u8, u9, u10, u11, u12, u13, u14, u15, u16, u17, u18, u19, u20, u21, u22, u23, u24, u25, u26, u27, u28, u29, u30, rfl⟩, hw3⟩
    go_wp2
    simp only [Exit.jump]
    go_ret
    exact ⟨rfl, hw3⟩


set_option maxHeartbeats 1000000 in
theorem synced_bare (w : World) (P : Nat → Prop) (r : Nat) (A : Ab) (h : DkA w P r A) (ws : List (Nat × List UInt8)) (m : Int) (hm : m = ws.length) (hln : ws.length ≤ 400) (hs : Small A 1000000) (hw : ∀ p ∈ ws, p.2.length ≤ 512)
    (hf : ∀ i (hi : i < ws.length) w', Moved P w w' → Calls Try.prog 62 #[.int .i64 i] w' fun e w'' => ∃ v b, e = .returned (.tuple #[.int .i64 (ws[i].1 : Nat), v]) ∧ Bs w'' v b ∧ b.length ≤ 512 ∧ sec b = sec ws[i].2 ∧ Below w'.heap.size w' w'') :
    Calls Try.prog 34 #[.pointer (some ⟨r, 0, none⟩), .int .i64 m, .func (.func 62) #[] #[]] w fun e w' => e = .returned (.int .i64 (A.run (ph ws)).1) ∧ DkTo w P w' r (A.run (ph ws)).2 := by
  subst hm
  obtain ⟨n, hn⟩ : ∃ n, n = ws.length := ⟨_, rfl⟩
  have HN := Lib.hid hn
  have H0 : Hid (DkTo w P w r A) := DkTo.refl h
  have HS := Lib.hid hs
  have HW := Lib.hid hw
  have HF := Lib.hid hf
  have HPH := Lib.hid (show ph ws = Wops ws ++ [Dop.S] from rfl)
  rw [← hn] at hln ⊢
  clear hn h hs hw hf
  go_enter Try.func34, Try.ntmps34
  go_wp2_with fail
  refine wp_scope_jumps 0 (fun a' w' => SyncedOut (A.run (ph ws)).1 a' ∧ DkTo w P w' r (A.run (ph ws)).2) (fun _ _ => 0) rfl ?_ ?_
  · go_wp2_with fail
    go_loopw [7, 8, 9, 10, 12] (fun e _ _ _ i wr => ∃ k : Nat, k ≤ n ∧ i = .int .i64 k ∧ e = .int .i64 0 ∧ ∃ Ak, A.run (Wops (ws.take k)) = (0, Ak) ∧ DkTo w P wr r Ak ∧ Small Ak (1000000 + k)) (fun _ _ _ _ i _ => n - (intOf i).toNat)
    case atStart => exact ⟨0, Nat.zero_le _, rfl, rfl, A, rfl, H0.out, HS.out⟩
    case round =>
      obtain ⟨k, hk, rfl, rfl, Ak, hrun, hR, hsm⟩ := hrel
      have HRun := Lib.hid hrun
      have HA := Lib.hid hR
      have HSM := Lib.hid hsm
      clear hrun hR hsm
      by_cases hlt : k < n
      · have hkl : k < ws.length := by rw [← HN.out]; exact hlt
        obtain ⟨Pk, -, hM, -⟩ := id HA.out
        have hcl := HF.out k hkl _ hM
        have hl := HW.out _ (List.getElem_mem hkl)
        have ok := run_take_ok hkl HRun.out
        have bad := fun he => run_take_bad hkl HRun.out he [Dop.S]
        rw [← HPH.out] at bad
        obtain ⟨at1, hat⟩ : ∃ m : Nat, m = ws[k].1 := ⟨_, rfl⟩
        obtain ⟨bs, hbb⟩ : ∃ m, m = ws[k].2 := ⟨_, rfl⟩
        rw [← hbb] at hcl hl
        rw [← hat] at hcl
        rw [← hat, ← hbb] at ok bad
        have HCL := Lib.hid hcl
        have OK := Lib.hid ok
        have BAD := Lib.hid bad
        have HL := Lib.hid hl
        clear ok bad hcl hl hat hbb hM
        go_wp2_with fail
        refine HCL.out.mono ?_
        rintro e w2 ⟨v, b, rfl, hb, hbl, hsec, hbw⟩
        have HA2 := Lib.hid (HA.out.grow hbw)
        have HB := Lib.hid hb
        obtain ⟨al1, al2⟩ := write_alike (A := Ak) (i := (at1 : Int)) hsec hbl HL.out
        have hwr := to_write (at1 : Int) v b HA2.out hb (HSM.out.mono (by omega))
        rw [al1, al2] at hwr
        obtain ⟨er, her⟩ : ∃ er, er = Ak.writeErr at1 bs := ⟨_, rfl⟩
        rw [← her] at hwr
        have HWR := Lib.hid hwr
        have HER := Lib.hid her
        clear hb hbl hsec hbw al1 al2 hwr her HCL
        go_wp2_with fail
        refine HWR.out.mono ?_
        rintro e w3 ⟨rfl, hw3⟩
        have HW3 := Lib.hid hw3
        clear hw3 HWR
        cases he : er == 0
        · have hne : (er != 0) = true := by rw [bne, he]; rfl
          go_wp2_with fail
          have hb := BAD.out (by rw [← HER.out]; simpa using he)
          rw [← HER.out] at hb
          have HBB := Lib.hid hb
          clear hb
          go_step3
          refine ⟨rfl, ?_, ?_⟩
          · rw [HBB.out]; exact ⟨_, _, _, _, _, _, _, _, _, _, _, _, _, _, _, _, _, _, _, _, _, _, _, _, _, _, _, _, _, _, rfl⟩
          · rw [HBB.out]; exact HW3.out
        · have hne : (er != 0) = false := by rw [bne, he]; rfl
          obtain rfl : er = 0 := by simpa using he
          go_wp2_with fail
          go_roundw
          case rel => exact ⟨k + 1, by omega, by go_num, rfl, _, OK.out HER.out.symm, HW3.out, HSM.out.write _ _⟩
          case measure => simp [intOf]; omega
      · obtain rfl : k = n := by omega
        have hrest := run_take_all (by rw [HN.out]; exact Nat.le_refl _) HRun.out [Dop.S]
        rw [← HPH.out] at hrest
        have hsy := to_sync HA.out (HSM.out.mono (by omega))
        obtain ⟨er, her⟩ : ∃ er, er = Ak.syncErr := ⟨_, rfl⟩
        rw [← her] at hsy
        have HSY := Lib.hid hsy
        have hfin : A.run (ph ws) = (er, Ak.sync) := by
          rw [hrest, her]
          show (if Ak.syncErr = 0 then _ else _) = _
          split
          · rename_i h; rw [h]; rfl
          · rfl
        have HFIN := Lib.hid hfin
        clear hrest hsy her hfin
        go_wp2_with fail
        refine HSY.out.mono ?_
        rintro e w3 ⟨rfl, hw3⟩
        go_wp2_with fail
        go_step3
        go_wp2
        simp only [Exit.jump]
        go_ret
        rw [HFIN.out]
        exact ⟨rfl, hw3⟩
  · rintro a' w' ⟨⟨u0, u1, u2, u3, u4, u5, u6, u8, u9, u10, u11, u12, u13, u14, u15, u16, u17, u18, u19, u20, u21, u22, u23, u24, u25, u26, u27, u28, u29, u30, rfl⟩, hw3⟩
    go_wp2
    simp only [Exit.jump]
    go_ret
    exact ⟨rfl, hw3⟩

end Go.Proofs.Ytkhdahipnfloeaa
