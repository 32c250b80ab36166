/- The walk of the law RedoRecovers. -/
import Derived.Test.YtkhdahipnfloeaaCommits
import Derived.Test.YtkhdahipnfloeaaArgZ
namespace Go.Proofs.Ytkhdahipnfloeaa
open Go.RowKit
set_option maxRecDepth 100000

theorem Px.forget {w0 w : World} {X : Nat → Prop} {r x : Nat} {A B : Ab} (h : Px w0 w X r x A B) : Px w0 w (fun _ => False) r x A B := by
  obtain ⟨h1, h2, P, Q, h3, h4, h5, h6, h7⟩ := h
  exact ⟨h1, fun _ h => h.elim, P, Q, h3, h4, fun k hk => ⟨(h5 k hk).1, (h5 k hk).2.1, id⟩, fun k hk => ⟨(h6 k hk).1, (h6 k hk).2.1, id⟩, h7⟩
theorem recover_len {A : Ab} {n : Nat} (h : Len A n) : Len A.recover.2.2 n := by
  rw [recover_pend]
  split
  · rw [recOf_disk]; exact h.run _
  · exact h

theorem Mx.bs0 {w0 w w' : World} {X : Nat → Prop} {v : Value} {l : List UInt8} (h : Mx w0 X w w') (hp : Bs w v l) (hS : 0 < l.length → ∀ g, v.ownBlock = some g → g < w0.heap.size ∨ X g) : Bs w' v l :=
  hp.moved0 h (fun h0 g hg hj => by rcases hS h0 g hg with e | e; omega; exact hj.2 e)

theorem own8 (w : World) (x0 x1 : Int) : ∃ l : List UInt8, l.length = 8 ∧ Own (w.alloc (.cells #[.int .u8 (IntKind.u8.wrap x0), .int .u8 (IntKind.u8.wrap x1), .int .u8 0, .int .u8 0, .int .u8 0, .int .u8 0, .int .u8 0, .int .u8 0] 5)) w.heap.size (.slice (some ⟨w.heap.size, 0, none⟩) 8 8) l := by
  refine ⟨[byteOf x0, byteOf x1, 0, 0, 0, 0, 0, 0], rfl, ?_⟩
  have h := (Blk.new w (vbs [byteOf x0, byteOf x1, 0, 0, 0, 0, 0, 0]).toArray 5).own (base := w.heap.size) (Nat.le_refl _) (by simp [maxLen])
  have e : (vbs [byteOf x0, byteOf x1, 0, 0, 0, 0, 0, 0]).toArray = #[.int .u8 (IntKind.u8.wrap x0), .int .u8 (IntKind.u8.wrap x1), .int .u8 0, .int .u8 0, .int .u8 0, .int .u8 0, .int .u8 0, .int .u8 0] := by
    simp only [vbs, List.map_cons, List.map_nil, vb_byteOf, IntKind.wrap_u8]
    rfl
  rw [e] at h
  exact h

set_option maxHeartbeats 8000000 in
theorem recs_walk (n stop : Int) (v1 v2 v3 : Value) (ats : List Int) (bodies : List (List UInt8)) (hd : List UInt8) (w : World) (h1 : Nl w v1 ats) (h2 : Bss w v2 bodies) (h3 : Bs w v3 hd) :
    Calls Try.prog 4 #[.int .i64 n, v1, v2, v3, .int .i64 stop] w fun e w' => e = .returned (.bool true) ∧ Below w.heap.size w w' := by
  obtain ⟨na, ca, rfl, hna1, hna2, -⟩ := id h1
  obtain ⟨nb, cb, rfl, hnb1, hnb2, -⟩ := id h2
  obtain ⟨nc, cc, rfl, hnc1, hnc2, -⟩ := id h3
  have hna2' : ca ≤ 9223372036854775807 := hna2
  have hnb2' : cb ≤ 9223372036854775807 := hnb2
  have hnc2' : cc ≤ 9223372036854775807 := hnc2
  have HA := Lib.hid h1
  have HZ := Lib.hid h2
  have HH := Lib.hid h3
  obtain ⟨la, hla⟩ : ∃ m, m = ats.length := ⟨_, rfl⟩
  obtain ⟨lb, hlb⟩ : ∃ m, m = bodies.length := ⟨_, rfl⟩
  obtain ⟨lh, hlh⟩ : ∃ m, m = hd.length := ⟨_, rfl⟩
  have HLA := Lib.hid hla
  have HLB := Lib.hid hlb
  have HLH := Lib.hid hlh
  rw [← hla] at hna1 HA ⊢
  rw [← hlb] at hnb1 HZ ⊢
  rw [← hlh] at hnc1 HH ⊢
  clear h1 h2 h3 hla hlb hlh hna2 hnb2 hnc2
  by_cases hb10 : (10 : Int) < lb
  · go_enter Try.func4, Try.ntmps4
    go_wp2_with fail
    refine (l3_known _).mono ?_
    rintro e w1 ⟨rfl, hb1⟩
    go_wp2_with fail
    go_ret
    exact ⟨rfl, hb1⟩
  by_cases hh5 : (512 : Int) < lh
  · go_enter Try.func4, Try.ntmps4
    go_wp2_with fail
    refine (l3_known _).mono ?_
    rintro e w1 ⟨rfl, hb1⟩
    go_wp2_with fail
    go_ret
    exact ⟨rfl, hb1⟩
  have kc := fun (w : World) (C : Array Value) (n c : Nat) => Lib.run_convert_bytes_const (P := Try.prog) w 41 5 C n c Try.underlying41 Try.underlying5
  have hwi := within_range (wrap64 (n.tdiv 3)) 12 (by decide)
  have hw12 := within3_any (wrap64 (n.tdiv 3)) 12 (by decide) (by decide)
  obtain ⟨sd, hsd⟩ : ∃ s, s = withinOf (wrap64 (n.tdiv 3)) 12 := ⟨_, rfl⟩
  rw [← hsd] at hwi hw12
  have HW12 := Lib.hid hw12
  have hw20 := within3_any stop 20 (by decide) (by decide)
  have hwi20 := within_range stop 20 (by decide)
  obtain ⟨s, hs⟩ : ∃ s, s = withinOf stop 20 := ⟨_, rfl⟩
  rw [← hs] at hw20 hwi20
  have HW20 := Lib.hid hw20
  obtain ⟨hs0, hs20⟩ := hwi20
  obtain ⟨hsd0, hsd12⟩ := hwi
  clear hw12 hsd hw20 hs
  go_enter Try.func4, Try.ntmps4
  go_wp2_with fail
  refine (l3_known _).mono ?_
  rintro e w1 ⟨rfl, hb1⟩
  go_wp2_with fail
  refine (sx_new (w0 := w) (X := fun _ => False) 410 hb1 (fun _ h => h.elim)).mono ?_
  rintro e w2 ⟨r, rfl, h2, -⟩
  rw [show sizeOf' 410 = 410 from rfl] at h2
  have H2 := Lib.hid h2
  clear h2 hb1
  go_wp2_with fail
  refine (px_new 410 H2.out).mono ?_
  rintro e w3 ⟨x, rfl, h3, -⟩
  rw [show sizeOf' 410 = 410 from rfl] at h3
  have H3 := Lib.hid h3
  clear h3 H2
  by_cases hn3 : 0 < n.tmod 3
  · obtain ⟨c, hc⟩ : ∃ c : UInt8, (c.toNat : Int) = sd := ⟨UInt8.ofNat sd.toNat, by rw [UInt8.toNat_ofNat']; omega⟩
    have hmag := (bs_magic w3 (8, 9))
    have hcl : (vbs [c, 0, 0, 0, 0, 0, 0, 0]).toArray = #[.int .u8 sd, .int .u8 0, .int .u8 0, .int .u8 0, .int .u8 0, .int .u8 0, .int .u8 0, .int .u8 0] := by
      rw [← hc]; rfl
    have HC := Lib.hid hc
    have HCL := Lib.hid hcl
    have HMAG := Lib.hid hmag
    have hmb : Bs ((w3.alloc (.cells #[.int .u8 84, .int .u8 82, .int .u8 73, .int .u8 65, .int .u8 68, .int .u8 76, .int .u8 79, .int .u8 71] 5 (8, 9))).alloc (.cells #[.int .u8 sd, .int .u8 0, .int .u8 0, .int .u8 0, .int .u8 0, .int .u8 0, .int .u8 0, .int .u8 0] 5)) (.slice (some ⟨w3.heap.size + 1, 0, none⟩) 8 8) [c, 0, 0, 0, 0, 0, 0, 0] := by
      have h := ((Blk.new (w3.alloc (.cells #[.int .u8 84, .int .u8 82, .int .u8 73, .int .u8 65, .int .u8 68, .int .u8 76, .int .u8 79, .int .u8 71] 5 (8, 9))) (vbs [c, 0, 0, 0, 0, 0, 0, 0]).toArray 5).own (base := 0) (Nat.zero_le _) (by simp [maxLen])).bs
      rw [hcl] at h
      simpa using h
    have hma : Bs ((w3.alloc (.cells #[.int .u8 84, .int .u8 82, .int .u8 73, .int .u8 65, .int .u8 68, .int .u8 76, .int .u8 79, .int .u8 71] 5 (8, 9))).alloc (.cells #[.int .u8 sd, .int .u8 0, .int .u8 0, .int .u8 0, .int .u8 0, .int .u8 0, .int .u8 0, .int .u8 0] 5)) (.slice (some ⟨w3.heap.size, 0, none⟩) 8 8) magic := hmag.below ((Below.refl _ _).alloc (Nat.le_refl _) _)
    have halB : Below w3.heap.size w3 ((w3.alloc (.cells #[.int .u8 84, .int .u8 82, .int .u8 73, .int .u8 65, .int .u8 68, .int .u8 76, .int .u8 79, .int .u8 71] 5 (8, 9))).alloc (.cells #[.int .u8 sd, .int .u8 0, .int .u8 0, .int .u8 0, .int .u8 0, .int .u8 0, .int .u8 0, .int .u8 0] 5)) := ((Below.refl _ w3).alloc (Nat.le_refl _) _).alloc (by simp) _
    have HMA := Lib.hid hma
    have HMB := Lib.hid hmb
    have HALB := Lib.hid halB
    clear hc hcl hmag hma hmb halB
    go_wp2_with fail
    refine (HW12.out _).mono ?_
    rintro e wz ⟨rfl, hwz⟩
    replace hwz := hwz.symm
    subst hwz
    go_wp2_with (at_builtin; refine wpList_append_full rfl _ _ rfl ⟨w3.heap.size, 0, none⟩ magic 8 8 rfl rfl HMA.out _ [c, 0, 0, 0, 0, 0, 0, 0] rfl HMB.out (by simp [magic]) (by simp [magic]) ?_)
    intro v5 w5 hv5 hb5
    have hbw := HALB.out.trans (hb5.mono (by omega))
    have h5 := H3.out.take hbw
    have hx5 : ∀ g, v5.ownBlock = some g → g < w.heap.size ∨ (False ∨ (w3.heap.size ≤ g ∧ g < w5.heap.size)) := fun g hg => .inr (.inr ⟨by have := (hv5.out.lt g hg).1; omega, (hv5.out.lt g hg).2⟩)
    have HV5 := Lib.hid hv5.bs
    have HX5 := Lib.hid hx5
    have H5 := Lib.hid h5
    obtain ⟨vo, vc, rfl, -⟩ := hv5.bs
    obtain ⟨HDL, hdl⟩ : ∃ HDL, HDL = magic ++ [c, 0, 0, 0, 0, 0, 0, 0] := ⟨_, rfl⟩
    have hl16 : (magic ++ [c, 0, 0, 0, 0, 0, 0, 0]).length = 16 := rfl
    rw [hl16] at HV5 HX5 ⊢
    rw [← hdl] at HV5
    clear hv5 hb5 hbw h5 hx5 HMA HMB HALB H3 hdl hl16 HCL HC
    go_wp2_with fail
    refine (px_writeD 0 _ HDL H5.out HV5.out (new_small _ _)).mono ?_
    rintro e w6 ⟨rfl, h6, hm6⟩
    have HV6 := Lib.hid (hm6.bs HV5.out HX5.out)
    have H6 := Lib.hid h6
    clear h6 hm6 HV5 H5
    go_wp2_with fail
    refine (px_writeR 0 _ HDL H6.out HV6.out (new_small _ _)).mono ?_
    rintro e w7 ⟨rfl, h7, -⟩
    have HP0 := Lib.hid h7.forget
    clear h7 H6 HV6 HX5
    have hs0 : Small ((Ab.new 410).write 0 HDL) 10 := ((new_small 410 0).write 0 HDL).mono (by omega)
    have hl0 : Len ((Ab.new 410).write 0 HDL) 410 := (Len.new 410).write 0 HDL
    obtain ⟨A0, hA0⟩ : ∃ A, A = (Ab.new 410).write 0 HDL := ⟨_, rfl⟩
    rw [← hA0] at HP0 hs0 hl0
    have HS0 := Lib.hid hs0
    have HL0 := Lib.hid hl0
    clear hs0 hl0 hA0 HW12 kc
    go_wp2_with fail
    go_loopw [14, 15, 16] (fun i _ _ wr => ∃ k : Nat, k ≤ lb ∧ i = .int .i64 k ∧ ∃ A, Px w wr (fun _ => False) r x A A ∧ Small A (10 + k) ∧ Len A 410) (fun i _ _ _ => lb - (intOf i).toNat)
    case atStart => exact ⟨0, Nat.zero_le _, rfl, A0, HP0.out, HS0.out, HL0.out⟩
    case round =>
      obtain ⟨k, hk, rfl, A, hP, hsm, hlen⟩ := hrel
      have HPX := Lib.hid hP
      have HSM := Lib.hid hsm
      have HL := Lib.hid hlen
      clear hP hsm hlen
      by_cases hlt : k < lb
      · have hbo := HZ.out.below HPX.out.below
        obtain ⟨zo, zc, ez, -, -, hE⟩ := hbo
        simp only [Value.slice.injEq] at ez
        obtain ⟨rfl, -, rfl⟩ := ez
        obtain ⟨zb, zoff, rfl, u, z1, hbs⟩ := hE k (by rw [← HLB.out]; exact hlt)
        obtain ⟨bs, hbb⟩ : ∃ m, m = bodies[k]'(by rw [← HLB.out]; exact hlt) := ⟨_, rfl⟩
        rw [← hbb] at hbs
        obtain ⟨bo, bc, rfl, hbc1, hbc2, -⟩ := id hbs
        have hbc2' : bc ≤ 9223372036854775807 := hbc2
        obtain ⟨m1, hm1⟩ : ∃ m, m = bs.length := ⟨_, rfl⟩
        obtain ⟨kk, hkk⟩ : ∃ kk, kk = min m1 500 := ⟨_, rfl⟩
        have hmin : (if (500 : Int) < (m1 : Int) then 500 else (m1 : Int)) = (kk : Int) := by split <;> omega
        have hbt := hbs.takes kk (by omega)
        rw [← hm1] at hbc1 z1 hbs
        have hkc : kk ≤ bc := by omega
        have HBT := Lib.hid hbt
        clear hE hbb hbs hbt hbc2 hm1 hkk
        by_cases hka : (k : Int) < la
        · have hkl : k < ats.length := by rw [← HLA.out]; omega
          obtain ⟨ab, aoff, ac, ea, -, -, hcell⟩ := (HA.out.below HPX.out.below).at (by omega)
          rw [← HLA.out] at ea
          simp only [Value.slice.injEq, true_and] at ea
          obtain ⟨rfl, rfl⟩ := ea
          have y1 := hcell k hkl
          obtain ⟨a0, ha0⟩ : ∃ a : Int, a = ats[k] := ⟨_, rfl⟩
          rw [← ha0] at y1
          have hw13 := within3_any a0 13 (by decide) (by decide)
          have hwr := within_range a0 13 (by decide)
          obtain ⟨s3, hs3⟩ : ∃ s, s = withinOf a0 13 := ⟨_, rfl⟩
          rw [← hs3] at hw13 hwr
          obtain ⟨hs30, hs31⟩ := hwr
          have HW13 := Lib.hid hw13
          clear hcell ha0 hw13 hs3
          go_wp2_with fail
          refine (HW13.out _).mono ?_
          rintro e wz ⟨rfl, hwz⟩
          replace hwz := hwz.symm
          subst hwz
          clear HW13 y1
          go_wp2_with fail
          generalize hat : 399 + s3 = at1
          have hat1 : 399 ≤ at1 := by omega
          have hat2 : at1 < 412 := by omega
          clear hat
          refine wp_region_any (by kernel_rfl) ?_
          change wpAny _ _ _ _ _ _ _ (World.drew _)
          refine wpAny_of_held (S := fun (w' : World) => w'.cell? ⟨zb, zoff + k, none⟩ = some (Value.slice bo m1 bc)) _ _ _ _ ?_
          have hS : (fun (w' : World) => w'.cell? ⟨zb, zoff + k, none⟩ = some (Value.slice bo m1 bc)) _ := z1
          refine wpAnyH_take (i := 0) (oi := ⟨some 67, _, _, _, _, _⟩) (v := ?_) rfl (by kernel_rfl) (by kernel_rfl) (by kernel_rfl) (fun _ _ _ h => h) (Or.inl ⟨by rfl, ?_⟩) hS ?_
          rotate_left
          · intro wz hSw
            clear hSw
            go_simp
            first | done | with_reducible rfl
          try simp only [Act.put, List.setIfInBounds_toArray, List.set_cons_zero, List.set_cons_succ]
          refine wpAnyH_take (i := 1) (oi := ⟨some 68, _, _, _, _, _⟩) (v := ?_) rfl (by kernel_rfl) (by kernel_rfl) (by kernel_rfl) (fun _ _ _ h => h) (Or.inl ⟨by rfl, ?_⟩) hS ?_
          rotate_left
          · intro wz hSw
            clear hSw
            go_simp
            first | done | with_reducible rfl
          try simp only [Act.put, List.setIfInBounds_toArray, List.set_cons_zero, List.set_cons_succ]
          refine wpAnyH_take (i := 2) (oi := ⟨some 69, _, _, _, _, _⟩) (v := ?_) rfl (by kernel_rfl) (by kernel_rfl) (by kernel_rfl) (fun _ _ _ h => h) (Or.inl ⟨by rfl, ?_⟩) hS ?_
          rotate_left
          · intro wz hSw
            clear hSw
            go_simp
            first | done | with_reducible rfl
          try simp only [Act.put, List.setIfInBounds_toArray, List.set_cons_zero, List.set_cons_succ]
          refine wpAnyH_take (i := 3) (oi := ⟨some 70, _, _, _, _, _⟩) (v := ?_) rfl (by kernel_rfl) (by kernel_rfl) (by kernel_rfl) (fun _ _ _ h => h) (Or.inl ⟨by rfl, ?_⟩) hS ?_
          rotate_left
          · intro wz hSw
            clear hSw
            go_simp
            first | done | with_reducible rfl
          try simp only [Act.put, List.setIfInBounds_toArray, List.set_cons_zero, List.set_cons_succ]
          refine wpAnyH_take (i := 4) (oi := ⟨some 71, _, _, _, _, _⟩) (v := ?_) rfl (by kernel_rfl) (by kernel_rfl) (by kernel_rfl) (fun _ _ _ h => h) (Or.inl ⟨by rfl, ?_⟩) hS ?_
          rotate_left
          · intro wz hSw
            clear hSw
            go_simp
            first | done | with_reducible rfl
          try simp only [Act.put, List.setIfInBounds_toArray, List.set_cons_zero, List.set_cons_succ]
          refine wpAnyH_take (i := 6) (oi := ⟨some 73, _, _, _, _, _⟩) (v := ?_) rfl (by kernel_rfl) (by kernel_rfl) (by kernel_rfl) (fun _ _ _ h => h) (Or.inl ⟨by rfl, ?_⟩) hS ?_
          rotate_left
          · intro wz hSw
            clear hSw
            go_simp
            first | done | with_reducible rfl
          try simp only [Act.put, List.setIfInBounds_toArray, List.set_cons_zero, List.set_cons_succ]
          refine wpAnyH_take (i := 7) (oi := ⟨some 74, _, _, _, _, _⟩) (v := ?_) rfl (by kernel_rfl) (by kernel_rfl) (by kernel_rfl) (fun _ _ _ h => h) (Or.inl ⟨by rfl, ?_⟩) hS ?_
          rotate_left
          · intro wz hSw
            clear hSw
            go_simp
            first | done | with_reducible rfl
          try simp only [Act.put, List.setIfInBounds_toArray, List.set_cons_zero, List.set_cons_succ]
          refine wpAnyH_take (i := 8) (oi := ⟨some 75, _, _, _, _, _⟩) (v := ?_) rfl (by kernel_rfl) (by kernel_rfl) (by kernel_rfl) (fun _ _ _ h => h) (Or.inl ⟨by rfl, ?_⟩) hS ?_
          rotate_left
          · intro wz hSw
            clear hSw
            go_simp
            first | done | with_reducible rfl
          try simp only [Act.put, List.setIfInBounds_toArray, List.set_cons_zero, List.set_cons_succ]
          refine wpAnyH_take (i := 9) (oi := ⟨some 76, _, _, _, _, _⟩) (v := ?_) rfl (by kernel_rfl) (by kernel_rfl) (by kernel_rfl) (fun _ _ _ h => h) (Or.inl ⟨by rfl, ?_⟩) hS ?_
          rotate_left
          · intro wz hSw
            (try dsimp only at hSw)
            (try go_split_ands)
            go_simp
            first | done | with_reducible rfl
          try simp only [Act.put, List.setIfInBounds_toArray, List.set_cons_zero, List.set_cons_succ]
          refine wpAnyH_take (i := 10) (oi := ⟨some 77, _, _, _, _, _⟩) (v := ?_) rfl (by kernel_rfl) (by kernel_rfl) (by kernel_rfl) (fun _ _ _ h => h) (Or.inl ⟨by rfl, ?_⟩) hS ?_
          rotate_left
          · intro wz hSw
            clear hSw
            go_simp
            first | done | with_reducible rfl
          try simp only [Act.put, List.setIfInBounds_toArray, List.set_cons_zero, List.set_cons_succ]
          refine wpAnyH_take (i := 11) (oi := ⟨some 78, _, _, _, _, _⟩) (v := ?_) rfl (by kernel_rfl) (by kernel_rfl) (by kernel_rfl) (fun _ _ _ h => h) (Or.inl ⟨by rfl, ?_⟩) hS ?_
          rotate_left
          · intro wz hSw
            clear hSw
            go_simp
            first | done | with_reducible rfl
          try simp only [Act.put, List.setIfInBounds_toArray, List.set_cons_zero, List.set_cons_succ]
          refine wpAnyH_take (i := 12) (oi := ⟨some 79, _, _, _, _, _⟩) (v := ?_) rfl (by kernel_rfl) (by kernel_rfl) (by kernel_rfl) (fun _ _ _ h => h) (Or.inl ⟨by rfl, ?_⟩) hS ?_
          rotate_left
          · intro wz hSw
            clear hSw
            go_simp
            first | done | with_reducible rfl
          try simp only [Act.put, List.setIfInBounds_toArray, List.set_cons_zero, List.set_cons_succ]
          refine wpAnyH_take (i := 13) (oi := ⟨some 80, _, _, _, _, _⟩) (v := ?_) rfl (by kernel_rfl) (by kernel_rfl) (by kernel_rfl) (fun _ _ _ h => h) (Or.inl ⟨by rfl, ?_⟩) hS ?_
          rotate_left
          · intro wz hSw
            (try dsimp only at hSw)
            (try go_split_ands)
            go_simp
            first | done | with_reducible rfl
          try simp only [Act.put, List.setIfInBounds_toArray, List.set_cons_zero, List.set_cons_succ]
          refine wpAnyH_take (i := 14) (oi := ⟨some 81, _, _, _, _, _⟩) (v := ?_) rfl (by kernel_rfl) (by kernel_rfl) (by kernel_rfl) (fun _ _ _ h => h) (Or.inl ⟨by rfl, ?_⟩) hS ?_
          rotate_left
          · intro wz hSw
            clear hSw
            go_simp
            first | done | with_reducible rfl
          try simp only [Act.put, List.setIfInBounds_toArray, List.set_cons_zero, List.set_cons_succ]
          refine wpAnyH_take (i := 15) (oi := ⟨some 82, _, _, _, _, _⟩) (v := ?_) rfl (by kernel_rfl) (by kernel_rfl) (by kernel_rfl) (fun _ _ _ h => h) (Or.inl ⟨by rfl, ?_⟩) hS ?_
          rotate_left
          · intro wz hSw
            clear hSw
            go_simp
            first | done | with_reducible rfl
          try simp only [Act.put, List.setIfInBounds_toArray, List.set_cons_zero, List.set_cons_succ]
          refine wpAnyH_take (i := 16) (oi := ⟨some 83, _, _, _, _, _⟩) (v := ?_) rfl (by kernel_rfl) (by kernel_rfl) (by kernel_rfl) (fun _ _ _ h => h) (Or.inl ⟨by rfl, ?_⟩) hS ?_
          rotate_left
          · intro wz hSw
            clear hSw
            go_simp
            first | done | with_reducible rfl
          try simp only [Act.put, List.setIfInBounds_toArray, List.set_cons_zero, List.set_cons_succ]
          refine wpAnyH_ready (rs := [5]) (by kernel_rfl) (by simp) ?_
          refine AllReadyH.cons (o := ⟨some 72, _, _, _, _, _⟩) rfl (fun K hK => ?_) AllReadyH.nil
          go_simp
          refine hK.out _ _ (((Below.refl _ wr).drew.alloc (Nat.le_refl _) _).cell (World.block_lt_of_cell? _ _ z1) |>.trans z1) (fun hS => ?_)
          clear hK K
          try simp only [Act.put, List.setIfInBounds_toArray, List.set_cons_zero, List.set_cons_succ]
          obtain ⟨l8, hl8, ho8⟩ := own8 wr at1 (at1 / 256)
          have hal8 := ((Below.refl wr.heap.size wr).alloc (Nat.le_refl _) (.cells #[.int .u8 (IntKind.u8.wrap at1), .int .u8 (IntKind.u8.wrap (at1 / 256)), .int .u8 0, .int .u8 0, .int .u8 0, .int .u8 0, .int .u8 0, .int .u8 0] 5)).drew
          have hbt8 := HBT.out.below hal8
          have hzlt := World.block_lt_of_cell? _ _ z1
          refine wpAnyH_ready (rs := [17]) (by kernel_rfl) (by simp) ?_
          refine AllReadyH.cons (o := ⟨some 84, _, _, _, _, _⟩) rfl (fun K hK => ?_) AllReadyH.nil
          refine step_append_bytes rfl (.tmp 72) (.tmp 83) rfl wr.heap.size _ l8 rfl (ho8.below (Below.refl _ _).drew) _ (bs.take kk) rfl hbt8 ?_ ?_ ?_
          · rw [hl8, List.length_take]; omega
          · exact hal8.size
          intro va wa hva hga
          have hbwa := hal8.grown hga hal8.size (fun q hq => (ho8.out.lt q hq).1)
          refine hK.out _ _ ((hbwa.cell hzlt).trans z1) (fun hS => ?_)
          clear hK K
          try simp only [Act.put, List.setIfInBounds_toArray, List.set_cons_zero, List.set_cons_succ]
          refine wpAnyH_take (i := 18) (oi := ⟨some 16, _, _, _, _, _⟩) (v := ?_) rfl (by kernel_rfl) (by kernel_rfl) (by kernel_rfl) (fun _ _ _ h => h) (Or.inl ⟨by rfl, ?_⟩) hS ?_
          rotate_left
          · intro wz hSw
            clear hSw
            go_simp
            first | done | with_reducible rfl
          try simp only [Act.put, List.setIfInBounds_toArray, List.set_cons_zero, List.set_cons_succ]
          refine wpAnyH_done (by kernel_rfl) ?_ _
          have hva' := hva.bs
          obtain ⟨BL, hBL⟩ : ∃ BL, BL = l8 ++ bs.take kk := ⟨_, rfl⟩
          rw [← hBL] at hva hva'
          have HVA := Lib.hid hva'
          have HVL := Lib.hid (fun q hq => hva.out.lt q hq)
          obtain ⟨vao, vac, rfl, -⟩ := hva'
          have HPA := Lib.hid (HPX.out.take hbwa)
          clear hS hva hga hbwa hzlt hbt8 hal8 ho8 hl8 hBL HBT
          go_wp2_with fail
          refine (px_writeD (1 + (k : Int)) _ BL HPA.out HVA.out (HSM.out.mono (by omega))).mono ?_
          rintro e wc ⟨rfl, hc1, hc2⟩
          have HVC := Lib.hid (hc2.bs HVA.out (fun q hq => .inr (.inr (HVL.out q hq))))
          have HPC := Lib.hid hc1
          clear hc1 hc2 HVA HVL HPA
          go_wp2_with fail
          refine (px_writeR (1 + (k : Int)) _ BL HPC.out HVC.out (HSM.out.mono (by omega))).mono ?_
          rintro e wd ⟨rfl, hd1, -⟩
          have HPD := Lib.hid hd1.forget
          clear hd1 HVC HPC
          go_wp2_with fail
          go_roundw
          case rel => exact ⟨k + 1, by omega, by go_num, _, HPD.out, (HSM.out.write _ _).mono (by omega), HL.out.write _ _⟩
          case measure => simp [intOf]; omega
        · have hka' : ¬ (k : Int) < la := hka
          go_wp2_with fail
          generalize hat : (405 : Int) = at1
          have hat1 : 399 ≤ at1 := by omega
          have hat2 : at1 < 412 := by omega
          clear hat
          refine wp_region_any (by kernel_rfl) ?_
          change wpAny _ _ _ _ _ _ _ (World.drew _)
          refine wpAny_of_held (S := fun (w' : World) => w'.cell? ⟨zb, zoff + k, none⟩ = some (Value.slice bo m1 bc)) _ _ _ _ ?_
          have hS : (fun (w' : World) => w'.cell? ⟨zb, zoff + k, none⟩ = some (Value.slice bo m1 bc)) _ := z1
          refine wpAnyH_take (i := 0) (oi := ⟨some 67, _, _, _, _, _⟩) (v := ?_) rfl (by kernel_rfl) (by kernel_rfl) (by kernel_rfl) (fun _ _ _ h => h) (Or.inl ⟨by rfl, ?_⟩) hS ?_
          rotate_left
          · intro wz hSw
            clear hSw
            go_simp
            first | done | with_reducible rfl
          try simp only [Act.put, List.setIfInBounds_toArray, List.set_cons_zero, List.set_cons_succ]
          refine wpAnyH_take (i := 1) (oi := ⟨some 68, _, _, _, _, _⟩) (v := ?_) rfl (by kernel_rfl) (by kernel_rfl) (by kernel_rfl) (fun _ _ _ h => h) (Or.inl ⟨by rfl, ?_⟩) hS ?_
          rotate_left
          · intro wz hSw
            clear hSw
            go_simp
            first | done | with_reducible rfl
          try simp only [Act.put, List.setIfInBounds_toArray, List.set_cons_zero, List.set_cons_succ]
          refine wpAnyH_take (i := 2) (oi := ⟨some 69, _, _, _, _, _⟩) (v := ?_) rfl (by kernel_rfl) (by kernel_rfl) (by kernel_rfl) (fun _ _ _ h => h) (Or.inl ⟨by rfl, ?_⟩) hS ?_
          rotate_left
          · intro wz hSw
            clear hSw
            go_simp
            first | done | with_reducible rfl
          try simp only [Act.put, List.setIfInBounds_toArray, List.set_cons_zero, List.set_cons_succ]
          refine wpAnyH_take (i := 3) (oi := ⟨some 70, _, _, _, _, _⟩) (v := ?_) rfl (by kernel_rfl) (by kernel_rfl) (by kernel_rfl) (fun _ _ _ h => h) (Or.inl ⟨by rfl, ?_⟩) hS ?_
          rotate_left
          · intro wz hSw
            clear hSw
            go_simp
            first | done | with_reducible rfl
          try simp only [Act.put, List.setIfInBounds_toArray, List.set_cons_zero, List.set_cons_succ]
          refine wpAnyH_take (i := 4) (oi := ⟨some 71, _, _, _, _, _⟩) (v := ?_) rfl (by kernel_rfl) (by kernel_rfl) (by kernel_rfl) (fun _ _ _ h => h) (Or.inl ⟨by rfl, ?_⟩) hS ?_
          rotate_left
          · intro wz hSw
            clear hSw
            go_simp
            first | done | with_reducible rfl
          try simp only [Act.put, List.setIfInBounds_toArray, List.set_cons_zero, List.set_cons_succ]
          refine wpAnyH_take (i := 6) (oi := ⟨some 73, _, _, _, _, _⟩) (v := ?_) rfl (by kernel_rfl) (by kernel_rfl) (by kernel_rfl) (fun _ _ _ h => h) (Or.inl ⟨by rfl, ?_⟩) hS ?_
          rotate_left
          · intro wz hSw
            clear hSw
            go_simp
            first | done | with_reducible rfl
          try simp only [Act.put, List.setIfInBounds_toArray, List.set_cons_zero, List.set_cons_succ]
          refine wpAnyH_take (i := 7) (oi := ⟨some 74, _, _, _, _, _⟩) (v := ?_) rfl (by kernel_rfl) (by kernel_rfl) (by kernel_rfl) (fun _ _ _ h => h) (Or.inl ⟨by rfl, ?_⟩) hS ?_
          rotate_left
          · intro wz hSw
            clear hSw
            go_simp
            first | done | with_reducible rfl
          try simp only [Act.put, List.setIfInBounds_toArray, List.set_cons_zero, List.set_cons_succ]
          refine wpAnyH_take (i := 8) (oi := ⟨some 75, _, _, _, _, _⟩) (v := ?_) rfl (by kernel_rfl) (by kernel_rfl) (by kernel_rfl) (fun _ _ _ h => h) (Or.inl ⟨by rfl, ?_⟩) hS ?_
          rotate_left
          · intro wz hSw
            clear hSw
            go_simp
            first | done | with_reducible rfl
          try simp only [Act.put, List.setIfInBounds_toArray, List.set_cons_zero, List.set_cons_succ]
          refine wpAnyH_take (i := 9) (oi := ⟨some 76, _, _, _, _, _⟩) (v := ?_) rfl (by kernel_rfl) (by kernel_rfl) (by kernel_rfl) (fun _ _ _ h => h) (Or.inl ⟨by rfl, ?_⟩) hS ?_
          rotate_left
          · intro wz hSw
            (try dsimp only at hSw)
            (try go_split_ands)
            go_simp
            first | done | with_reducible rfl
          try simp only [Act.put, List.setIfInBounds_toArray, List.set_cons_zero, List.set_cons_succ]
          refine wpAnyH_take (i := 10) (oi := ⟨some 77, _, _, _, _, _⟩) (v := ?_) rfl (by kernel_rfl) (by kernel_rfl) (by kernel_rfl) (fun _ _ _ h => h) (Or.inl ⟨by rfl, ?_⟩) hS ?_
          rotate_left
          · intro wz hSw
            clear hSw
            go_simp
            first | done | with_reducible rfl
          try simp only [Act.put, List.setIfInBounds_toArray, List.set_cons_zero, List.set_cons_succ]
          refine wpAnyH_take (i := 11) (oi := ⟨some 78, _, _, _, _, _⟩) (v := ?_) rfl (by kernel_rfl) (by kernel_rfl) (by kernel_rfl) (fun _ _ _ h => h) (Or.inl ⟨by rfl, ?_⟩) hS ?_
          rotate_left
          · intro wz hSw
            clear hSw
            go_simp
            first | done | with_reducible rfl
          try simp only [Act.put, List.setIfInBounds_toArray, List.set_cons_zero, List.set_cons_succ]
          refine wpAnyH_take (i := 12) (oi := ⟨some 79, _, _, _, _, _⟩) (v := ?_) rfl (by kernel_rfl) (by kernel_rfl) (by kernel_rfl) (fun _ _ _ h => h) (Or.inl ⟨by rfl, ?_⟩) hS ?_
          rotate_left
          · intro wz hSw
            clear hSw
            go_simp
            first | done | with_reducible rfl
          try simp only [Act.put, List.setIfInBounds_toArray, List.set_cons_zero, List.set_cons_succ]
          refine wpAnyH_take (i := 13) (oi := ⟨some 80, _, _, _, _, _⟩) (v := ?_) rfl (by kernel_rfl) (by kernel_rfl) (by kernel_rfl) (fun _ _ _ h => h) (Or.inl ⟨by rfl, ?_⟩) hS ?_
          rotate_left
          · intro wz hSw
            (try dsimp only at hSw)
            (try go_split_ands)
            go_simp
            first | done | with_reducible rfl
          try simp only [Act.put, List.setIfInBounds_toArray, List.set_cons_zero, List.set_cons_succ]
          refine wpAnyH_take (i := 14) (oi := ⟨some 81, _, _, _, _, _⟩) (v := ?_) rfl (by kernel_rfl) (by kernel_rfl) (by kernel_rfl) (fun _ _ _ h => h) (Or.inl ⟨by rfl, ?_⟩) hS ?_
          rotate_left
          · intro wz hSw
            clear hSw
            go_simp
            first | done | with_reducible rfl
          try simp only [Act.put, List.setIfInBounds_toArray, List.set_cons_zero, List.set_cons_succ]
          refine wpAnyH_take (i := 15) (oi := ⟨some 82, _, _, _, _, _⟩) (v := ?_) rfl (by kernel_rfl) (by kernel_rfl) (by kernel_rfl) (fun _ _ _ h => h) (Or.inl ⟨by rfl, ?_⟩) hS ?_
          rotate_left
          · intro wz hSw
            clear hSw
            go_simp
            first | done | with_reducible rfl
          try simp only [Act.put, List.setIfInBounds_toArray, List.set_cons_zero, List.set_cons_succ]
          refine wpAnyH_take (i := 16) (oi := ⟨some 83, _, _, _, _, _⟩) (v := ?_) rfl (by kernel_rfl) (by kernel_rfl) (by kernel_rfl) (fun _ _ _ h => h) (Or.inl ⟨by rfl, ?_⟩) hS ?_
          rotate_left
          · intro wz hSw
            clear hSw
            go_simp
            first | done | with_reducible rfl
          try simp only [Act.put, List.setIfInBounds_toArray, List.set_cons_zero, List.set_cons_succ]
          refine wpAnyH_ready (rs := [5]) (by kernel_rfl) (by simp) ?_
          refine AllReadyH.cons (o := ⟨some 72, _, _, _, _, _⟩) rfl (fun K hK => ?_) AllReadyH.nil
          go_simp
          refine hK.out _ _ (((Below.refl _ wr).drew.alloc (Nat.le_refl _) _).cell (World.block_lt_of_cell? _ _ z1) |>.trans z1) (fun hS => ?_)
          clear hK K
          try simp only [Act.put, List.setIfInBounds_toArray, List.set_cons_zero, List.set_cons_succ]
          obtain ⟨l8, hl8, ho8⟩ := own8 wr at1 (at1 / 256)
          have hal8 := ((Below.refl wr.heap.size wr).alloc (Nat.le_refl _) (.cells #[.int .u8 (IntKind.u8.wrap at1), .int .u8 (IntKind.u8.wrap (at1 / 256)), .int .u8 0, .int .u8 0, .int .u8 0, .int .u8 0, .int .u8 0, .int .u8 0] 5)).drew
          have hbt8 := HBT.out.below hal8
          have hzlt := World.block_lt_of_cell? _ _ z1
          refine wpAnyH_ready (rs := [17]) (by kernel_rfl) (by simp) ?_
          refine AllReadyH.cons (o := ⟨some 84, _, _, _, _, _⟩) rfl (fun K hK => ?_) AllReadyH.nil
          refine step_append_bytes rfl (.tmp 72) (.tmp 83) rfl wr.heap.size _ l8 rfl (ho8.below (Below.refl _ _).drew) _ (bs.take kk) rfl hbt8 ?_ ?_ ?_
          · rw [hl8, List.length_take]; omega
          · exact hal8.size
          intro va wa hva hga
          have hbwa := hal8.grown hga hal8.size (fun q hq => (ho8.out.lt q hq).1)
          refine hK.out _ _ ((hbwa.cell hzlt).trans z1) (fun hS => ?_)
          clear hK K
          try simp only [Act.put, List.setIfInBounds_toArray, List.set_cons_zero, List.set_cons_succ]
          refine wpAnyH_take (i := 18) (oi := ⟨some 16, _, _, _, _, _⟩) (v := ?_) rfl (by kernel_rfl) (by kernel_rfl) (by kernel_rfl) (fun _ _ _ h => h) (Or.inl ⟨by rfl, ?_⟩) hS ?_
          rotate_left
          · intro wz hSw
            clear hSw
            go_simp
            first | done | with_reducible rfl
          try simp only [Act.put, List.setIfInBounds_toArray, List.set_cons_zero, List.set_cons_succ]
          refine wpAnyH_done (by kernel_rfl) ?_ _
          have hva' := hva.bs
          obtain ⟨BL, hBL⟩ : ∃ BL, BL = l8 ++ bs.take kk := ⟨_, rfl⟩
          rw [← hBL] at hva hva'
          have HVA := Lib.hid hva'
          have HVL := Lib.hid (fun q hq => hva.out.lt q hq)
          obtain ⟨vao, vac, rfl, -⟩ := hva'
          have HPA := Lib.hid (HPX.out.take hbwa)
          clear hS hva hga hbwa hzlt hbt8 hal8 ho8 hl8 hBL HBT
          go_wp2_with fail
          refine (px_writeD (1 + (k : Int)) _ BL HPA.out HVA.out (HSM.out.mono (by omega))).mono ?_
          rintro e wc ⟨rfl, hc1, hc2⟩
          have HVC := Lib.hid (hc2.bs HVA.out (fun q hq => .inr (.inr (HVL.out q hq))))
          have HPC := Lib.hid hc1
          clear hc1 hc2 HVA HVL HPA
          go_wp2_with fail
          refine (px_writeR (1 + (k : Int)) _ BL HPC.out HVC.out (HSM.out.mono (by omega))).mono ?_
          rintro e wd ⟨rfl, hd1, -⟩
          have HPD := Lib.hid hd1.forget
          clear hd1 HVC HPC
          go_wp2_with fail
          go_roundw
          case rel => exact ⟨k + 1, by omega, by go_num, _, HPD.out, (HSM.out.write _ _).mono (by omega), HL.out.write _ _⟩
          case measure => simp [intOf]; omega
      · obtain rfl : k = lb := by omega
        go_wp2_with fail
        refine (px_syncD HPX.out (HSM.out.mono (by omega))).mono ?_
        rintro e wa ⟨rfl, ha, -⟩
        go_wp2_with fail
        refine (px_syncR ha (HSM.out.mono (by omega))).mono ?_
        rintro e wb ⟨rfl, hb, -⟩
        have hsb : Small A.sync 100 := HSM.out.sync.mono (by omega)
        have hlb := HL.out.sync
        obtain ⟨B, hB⟩ : ∃ B, B = A.sync := ⟨_, rfl⟩
        rw [← hB] at hb hsb hlb
        have HPB := Lib.hid hb
        have HSB := Lib.hid hsb
        have HLB2 := Lib.hid hlb
        clear ha hb hsb hlb hB HPX HSM HL
        go_wp2_with fail
        refine (HW20.out _).mono ?_
        rintro e wz ⟨rfl, hwz⟩
        replace hwz := hwz.symm
        subst hwz
        go_wp2_with fail
        refine (px_stopD s HPB.out).mono ?_
        rintro e wc ⟨rfl, hc, -⟩
        go_wp2_with fail
        refine (HW20.out _).mono ?_
        rintro e wz ⟨rfl, hwz⟩
        replace hwz := hwz.symm
        subst hwz
        go_wp2_with fail
        refine (px_stopR s hc).mono ?_
        rintro e wd ⟨rfl, hd', -⟩
        have hsd : Small (B.stopAt s) 100 := stop_small HSB.out (by omega)
        have hld := HLB2.out.stop s
        obtain ⟨C, hC⟩ : ∃ C, C = B.stopAt s := ⟨_, rfl⟩
        rw [← hC] at hd' hsd hld
        have HPD := Lib.hid hd'
        have HSD := Lib.hid hsd
        have HLD := Lib.hid hld
        clear hc hd' hsd hld hC HPB HSB HLB2
        go_wp2_with fail
        refine (px_recoverD HPD.out (HSD.out.mono (by omega))).mono ?_
        rintro e we ⟨rfl, he, -⟩
        have HPE := Lib.hid he
        clear he
        obtain ⟨rn, hrn⟩ : ∃ m, m = C.recover.1 := ⟨_, rfl⟩
        obtain ⟨re, hre⟩ : ∃ m, m = C.recover.2.1 := ⟨_, rfl⟩
        have hrec := px_recoverR HPE.out (HSD.out.mono (by omega))
        rw [← hrn, ← hre] at hrec
        rw [← hrn, ← hre]
        have HREC := Lib.hid hrec
        have e1 : (rn == rn) = true := by simp
        have e2 : (re == re) = true := by simp
        clear hrec hrn hre
        go_wp2_with fail
        refine HREC.out.mono ?_
        rintro e wf ⟨rfl, hf, -⟩
        have HPF := Lib.hid hf
        clear hf HREC
        go_wp2_with (go_at_call 20; refine (psame_any w _ _ r x _ HPF.out ((recover_small HSD.out).mono (by omega)) (by rw [(recover_len HLD.out).1]; omega)).mono ?_; rintro e wg ⟨rfl, hbg⟩)
        go_ret
        exact ⟨rfl, (HPF.out.grow hbg).below⟩
  · have hn3' : (decide (0 < n.tmod 3)) = false := by simpa using hn3
    have hb3 := HH.out.below H3.out.below
    have HV3 := Lib.hid hb3
    have hx3 : 0 < hd.length → ∀ g, (Value.slice nc lh cc).ownBlock = some g → g < w.heap.size ∨ False := fun h0 g hg => .inl (HH.out.own_lt h0 g hg)
    have HX3 := Lib.hid hx3
    obtain ⟨HDL, hdl⟩ : ∃ HDL, HDL = hd := ⟨_, rfl⟩
    rw [← hdl] at HV3 HX3
    clear hb3 hx3 hdl
    go_wp2_with fail
    refine (px_writeD 0 _ HDL H3.out HV3.out (new_small _ _)).mono ?_
    rintro e w6 ⟨rfl, h6, hm6⟩
    have HV6 := Lib.hid (hm6.bs0 HV3.out HX3.out)
    have H6 := Lib.hid h6
    clear h6 hm6 HV3 H3
    go_wp2_with fail
    refine (px_writeR 0 _ HDL H6.out HV6.out (new_small _ _)).mono ?_
    rintro e w7 ⟨rfl, h7, -⟩
    have HP0 := Lib.hid h7
    clear h7 H6 HV6 HX3
    have hs0 : Small ((Ab.new 410).write 0 HDL) 10 := ((new_small 410 0).write 0 HDL).mono (by omega)
    have hl0 : Len ((Ab.new 410).write 0 HDL) 410 := (Len.new 410).write 0 HDL
    obtain ⟨A0, hA0⟩ : ∃ A, A = (Ab.new 410).write 0 HDL := ⟨_, rfl⟩
    rw [← hA0] at HP0 hs0 hl0
    have HS0 := Lib.hid hs0
    have HL0 := Lib.hid hl0
    clear hs0 hl0 hA0 HW12 kc
    go_wp2_with fail
    go_loopw [14, 15, 16] (fun i _ _ wr => ∃ k : Nat, k ≤ lb ∧ i = .int .i64 k ∧ ∃ A, Px w wr (fun _ => False) r x A A ∧ Small A (10 + k) ∧ Len A 410) (fun i _ _ _ => lb - (intOf i).toNat)
    case atStart => exact ⟨0, Nat.zero_le _, rfl, A0, HP0.out, HS0.out, HL0.out⟩
    case round =>
      obtain ⟨k, hk, rfl, A, hP, hsm, hlen⟩ := hrel
      have HPX := Lib.hid hP
      have HSM := Lib.hid hsm
      have HL := Lib.hid hlen
      clear hP hsm hlen
      by_cases hlt : k < lb
      · have hbo := HZ.out.below HPX.out.below
        obtain ⟨zo, zc, ez, -, -, hE⟩ := hbo
        simp only [Value.slice.injEq] at ez
        obtain ⟨rfl, -, rfl⟩ := ez
        obtain ⟨zb, zoff, rfl, u, z1, hbs⟩ := hE k (by rw [← HLB.out]; exact hlt)
        obtain ⟨bs, hbb⟩ : ∃ m, m = bodies[k]'(by rw [← HLB.out]; exact hlt) := ⟨_, rfl⟩
        rw [← hbb] at hbs
        obtain ⟨bo, bc, rfl, hbc1, hbc2, -⟩ := id hbs
        have hbc2' : bc ≤ 9223372036854775807 := hbc2
        obtain ⟨m1, hm1⟩ : ∃ m, m = bs.length := ⟨_, rfl⟩
        obtain ⟨kk, hkk⟩ : ∃ kk, kk = min m1 500 := ⟨_, rfl⟩
        have hmin : (if (500 : Int) < (m1 : Int) then 500 else (m1 : Int)) = (kk : Int) := by split <;> omega
        have hbt := hbs.takes kk (by omega)
        rw [← hm1] at hbc1 z1 hbs
        have hkc : kk ≤ bc := by omega
        have HBT := Lib.hid hbt
        clear hE hbb hbs hbt hbc2 hm1 hkk
        by_cases hka : (k : Int) < la
        · have hkl : k < ats.length := by rw [← HLA.out]; omega
          obtain ⟨ab, aoff, ac, ea, -, -, hcell⟩ := (HA.out.below HPX.out.below).at (by omega)
          rw [← HLA.out] at ea
          simp only [Value.slice.injEq, true_and] at ea
          obtain ⟨rfl, rfl⟩ := ea
          have y1 := hcell k hkl
          obtain ⟨a0, ha0⟩ : ∃ a : Int, a = ats[k] := ⟨_, rfl⟩
          rw [← ha0] at y1
          have hw13 := within3_any a0 13 (by decide) (by decide)
          have hwr := within_range a0 13 (by decide)
          obtain ⟨s3, hs3⟩ : ∃ s, s = withinOf a0 13 := ⟨_, rfl⟩
          rw [← hs3] at hw13 hwr
          obtain ⟨hs30, hs31⟩ := hwr
          have HW13 := Lib.hid hw13
          clear hcell ha0 hw13 hs3
          go_wp2_with fail
          refine (HW13.out _).mono ?_
          rintro e wz ⟨rfl, hwz⟩
          replace hwz := hwz.symm
          subst hwz
          clear HW13 y1
          go_wp2_with fail
          generalize hat : 399 + s3 = at1
          have hat1 : 399 ≤ at1 := by omega
          have hat2 : at1 < 412 := by omega
          clear hat
          refine wp_region_any (by kernel_rfl) ?_
          change wpAny _ _ _ _ _ _ _ (World.drew _)
          refine wpAny_of_held (S := fun (w' : World) => w'.cell? ⟨zb, zoff + k, none⟩ = some (Value.slice bo m1 bc)) _ _ _ _ ?_
          have hS : (fun (w' : World) => w'.cell? ⟨zb, zoff + k, none⟩ = some (Value.slice bo m1 bc)) _ := z1
          refine wpAnyH_take (i := 0) (oi := ⟨some 67, _, _, _, _, _⟩) (v := ?_) rfl (by kernel_rfl) (by kernel_rfl) (by kernel_rfl) (fun _ _ _ h => h) (Or.inl ⟨by rfl, ?_⟩) hS ?_
          rotate_left
          · intro wz hSw
            clear hSw
            go_simp
            first | done | with_reducible rfl
          try simp only [Act.put, List.setIfInBounds_toArray, List.set_cons_zero, List.set_cons_succ]
          refine wpAnyH_take (i := 1) (oi := ⟨some 68, _, _, _, _, _⟩) (v := ?_) rfl (by kernel_rfl) (by kernel_rfl) (by kernel_rfl) (fun _ _ _ h => h) (Or.inl ⟨by rfl, ?_⟩) hS ?_
          rotate_left
          · intro wz hSw
            clear hSw
            go_simp
            first | done | with_reducible rfl
          try simp only [Act.put, List.setIfInBounds_toArray, List.set_cons_zero, List.set_cons_succ]
          refine wpAnyH_take (i := 2) (oi := ⟨some 69, _, _, _, _, _⟩) (v := ?_) rfl (by kernel_rfl) (by kernel_rfl) (by kernel_rfl) (fun _ _ _ h => h) (Or.inl ⟨by rfl, ?_⟩) hS ?_
          rotate_left
          · intro wz hSw
            clear hSw
            go_simp
            first | done | with_reducible rfl
          try simp only [Act.put, List.setIfInBounds_toArray, List.set_cons_zero, List.set_cons_succ]
          refine wpAnyH_take (i := 3) (oi := ⟨some 70, _, _, _, _, _⟩) (v := ?_) rfl (by kernel_rfl) (by kernel_rfl) (by kernel_rfl) (fun _ _ _ h => h) (Or.inl ⟨by rfl, ?_⟩) hS ?_
          rotate_left
          · intro wz hSw
            clear hSw
            go_simp
            first | done | with_reducible rfl
          try simp only [Act.put, List.setIfInBounds_toArray, List.set_cons_zero, List.set_cons_succ]
          refine wpAnyH_take (i := 4) (oi := ⟨some 71, _, _, _, _, _⟩) (v := ?_) rfl (by kernel_rfl) (by kernel_rfl) (by kernel_rfl) (fun _ _ _ h => h) (Or.inl ⟨by rfl, ?_⟩) hS ?_
          rotate_left
          · intro wz hSw
            clear hSw
            go_simp
            first | done | with_reducible rfl
          try simp only [Act.put, List.setIfInBounds_toArray, List.set_cons_zero, List.set_cons_succ]
          refine wpAnyH_take (i := 6) (oi := ⟨some 73, _, _, _, _, _⟩) (v := ?_) rfl (by kernel_rfl) (by kernel_rfl) (by kernel_rfl) (fun _ _ _ h => h) (Or.inl ⟨by rfl, ?_⟩) hS ?_
          rotate_left
          · intro wz hSw
            clear hSw
            go_simp
            first | done | with_reducible rfl
          try simp only [Act.put, List.setIfInBounds_toArray, List.set_cons_zero, List.set_cons_succ]
          refine wpAnyH_take (i := 7) (oi := ⟨some 74, _, _, _, _, _⟩) (v := ?_) rfl (by kernel_rfl) (by kernel_rfl) (by kernel_rfl) (fun _ _ _ h => h) (Or.inl ⟨by rfl, ?_⟩) hS ?_
          rotate_left
          · intro wz hSw
            clear hSw
            go_simp
            first | done | with_reducible rfl
          try simp only [Act.put, List.setIfInBounds_toArray, List.set_cons_zero, List.set_cons_succ]
          refine wpAnyH_take (i := 8) (oi := ⟨some 75, _, _, _, _, _⟩) (v := ?_) rfl (by kernel_rfl) (by kernel_rfl) (by kernel_rfl) (fun _ _ _ h => h) (Or.inl ⟨by rfl, ?_⟩) hS ?_
          rotate_left
          · intro wz hSw
            clear hSw
            go_simp
            first | done | with_reducible rfl
          try simp only [Act.put, List.setIfInBounds_toArray, List.set_cons_zero, List.set_cons_succ]
          refine wpAnyH_take (i := 9) (oi := ⟨some 76, _, _, _, _, _⟩) (v := ?_) rfl (by kernel_rfl) (by kernel_rfl) (by kernel_rfl) (fun _ _ _ h => h) (Or.inl ⟨by rfl, ?_⟩) hS ?_
          rotate_left
          · intro wz hSw
            (try dsimp only at hSw)
            (try go_split_ands)
            go_simp
            first | done | with_reducible rfl
          try simp only [Act.put, List.setIfInBounds_toArray, List.set_cons_zero, List.set_cons_succ]
          refine wpAnyH_take (i := 10) (oi := ⟨some 77, _, _, _, _, _⟩) (v := ?_) rfl (by kernel_rfl) (by kernel_rfl) (by kernel_rfl) (fun _ _ _ h => h) (Or.inl ⟨by rfl, ?_⟩) hS ?_
          rotate_left
          · intro wz hSw
            clear hSw
            go_simp
            first | done | with_reducible rfl
          try simp only [Act.put, List.setIfInBounds_toArray, List.set_cons_zero, List.set_cons_succ]
          refine wpAnyH_take (i := 11) (oi := ⟨some 78, _, _, _, _, _⟩) (v := ?_) rfl (by kernel_rfl) (by kernel_rfl) (by kernel_rfl) (fun _ _ _ h => h) (Or.inl ⟨by rfl, ?_⟩) hS ?_
          rotate_left
          · intro wz hSw
            clear hSw
            go_simp
            first | done | with_reducible rfl
          try simp only [Act.put, List.setIfInBounds_toArray, List.set_cons_zero, List.set_cons_succ]
          refine wpAnyH_take (i := 12) (oi := ⟨some 79, _, _, _, _, _⟩) (v := ?_) rfl (by kernel_rfl) (by kernel_rfl) (by kernel_rfl) (fun _ _ _ h => h) (Or.inl ⟨by rfl, ?_⟩) hS ?_
          rotate_left
          · intro wz hSw
            clear hSw
            go_simp
            first | done | with_reducible rfl
          try simp only [Act.put, List.setIfInBounds_toArray, List.set_cons_zero, List.set_cons_succ]
          refine wpAnyH_take (i := 13) (oi := ⟨some 80, _, _, _, _, _⟩) (v := ?_) rfl (by kernel_rfl) (by kernel_rfl) (by kernel_rfl) (fun _ _ _ h => h) (Or.inl ⟨by rfl, ?_⟩) hS ?_
          rotate_left
          · intro wz hSw
            (try dsimp only at hSw)
            (try go_split_ands)
            go_simp
            first | done | with_reducible rfl
          try simp only [Act.put, List.setIfInBounds_toArray, List.set_cons_zero, List.set_cons_succ]
          refine wpAnyH_take (i := 14) (oi := ⟨some 81, _, _, _, _, _⟩) (v := ?_) rfl (by kernel_rfl) (by kernel_rfl) (by kernel_rfl) (fun _ _ _ h => h) (Or.inl ⟨by rfl, ?_⟩) hS ?_
          rotate_left
          · intro wz hSw
            clear hSw
            go_simp
            first | done | with_reducible rfl
          try simp only [Act.put, List.setIfInBounds_toArray, List.set_cons_zero, List.set_cons_succ]
          refine wpAnyH_take (i := 15) (oi := ⟨some 82, _, _, _, _, _⟩) (v := ?_) rfl (by kernel_rfl) (by kernel_rfl) (by kernel_rfl) (fun _ _ _ h => h) (Or.inl ⟨by rfl, ?_⟩) hS ?_
          rotate_left
          · intro wz hSw
            clear hSw
            go_simp
            first | done | with_reducible rfl
          try simp only [Act.put, List.setIfInBounds_toArray, List.set_cons_zero, List.set_cons_succ]
          refine wpAnyH_take (i := 16) (oi := ⟨some 83, _, _, _, _, _⟩) (v := ?_) rfl (by kernel_rfl) (by kernel_rfl) (by kernel_rfl) (fun _ _ _ h => h) (Or.inl ⟨by rfl, ?_⟩) hS ?_
          rotate_left
          · intro wz hSw
            clear hSw
            go_simp
            first | done | with_reducible rfl
          try simp only [Act.put, List.setIfInBounds_toArray, List.set_cons_zero, List.set_cons_succ]
          refine wpAnyH_ready (rs := [5]) (by kernel_rfl) (by simp) ?_
          refine AllReadyH.cons (o := ⟨some 72, _, _, _, _, _⟩) rfl (fun K hK => ?_) AllReadyH.nil
          go_simp
          refine hK.out _ _ (((Below.refl _ wr).drew.alloc (Nat.le_refl _) _).cell (World.block_lt_of_cell? _ _ z1) |>.trans z1) (fun hS => ?_)
          clear hK K
          try simp only [Act.put, List.setIfInBounds_toArray, List.set_cons_zero, List.set_cons_succ]
          obtain ⟨l8, hl8, ho8⟩ := own8 wr at1 (at1 / 256)
          have hal8 := ((Below.refl wr.heap.size wr).alloc (Nat.le_refl _) (.cells #[.int .u8 (IntKind.u8.wrap at1), .int .u8 (IntKind.u8.wrap (at1 / 256)), .int .u8 0, .int .u8 0, .int .u8 0, .int .u8 0, .int .u8 0, .int .u8 0] 5)).drew
          have hbt8 := HBT.out.below hal8
          have hzlt := World.block_lt_of_cell? _ _ z1
          refine wpAnyH_ready (rs := [17]) (by kernel_rfl) (by simp) ?_
          refine AllReadyH.cons (o := ⟨some 84, _, _, _, _, _⟩) rfl (fun K hK => ?_) AllReadyH.nil
          refine step_append_bytes rfl (.tmp 72) (.tmp 83) rfl wr.heap.size _ l8 rfl (ho8.below (Below.refl _ _).drew) _ (bs.take kk) rfl hbt8 ?_ ?_ ?_
          · rw [hl8, List.length_take]; omega
          · exact hal8.size
          intro va wa hva hga
          have hbwa := hal8.grown hga hal8.size (fun q hq => (ho8.out.lt q hq).1)
          refine hK.out _ _ ((hbwa.cell hzlt).trans z1) (fun hS => ?_)
          clear hK K
          try simp only [Act.put, List.setIfInBounds_toArray, List.set_cons_zero, List.set_cons_succ]
          refine wpAnyH_take (i := 18) (oi := ⟨some 16, _, _, _, _, _⟩) (v := ?_) rfl (by kernel_rfl) (by kernel_rfl) (by kernel_rfl) (fun _ _ _ h => h) (Or.inl ⟨by rfl, ?_⟩) hS ?_
          rotate_left
          · intro wz hSw
            clear hSw
            go_simp
            first | done | with_reducible rfl
          try simp only [Act.put, List.setIfInBounds_toArray, List.set_cons_zero, List.set_cons_succ]
          refine wpAnyH_done (by kernel_rfl) ?_ _
          have hva' := hva.bs
          obtain ⟨BL, hBL⟩ : ∃ BL, BL = l8 ++ bs.take kk := ⟨_, rfl⟩
          rw [← hBL] at hva hva'
          have HVA := Lib.hid hva'
          have HVL := Lib.hid (fun q hq => hva.out.lt q hq)
          obtain ⟨vao, vac, rfl, -⟩ := hva'
          have HPA := Lib.hid (HPX.out.take hbwa)
          clear hS hva hga hbwa hzlt hbt8 hal8 ho8 hl8 hBL HBT
          go_wp2_with fail
          refine (px_writeD (1 + (k : Int)) _ BL HPA.out HVA.out (HSM.out.mono (by omega))).mono ?_
          rintro e wc ⟨rfl, hc1, hc2⟩
          have HVC := Lib.hid (hc2.bs HVA.out (fun q hq => .inr (.inr (HVL.out q hq))))
          have HPC := Lib.hid hc1
          clear hc1 hc2 HVA HVL HPA
          go_wp2_with fail
          refine (px_writeR (1 + (k : Int)) _ BL HPC.out HVC.out (HSM.out.mono (by omega))).mono ?_
          rintro e wd ⟨rfl, hd1, -⟩
          have HPD := Lib.hid hd1.forget
          clear hd1 HVC HPC
          go_wp2_with fail
          go_roundw
          case rel => exact ⟨k + 1, by omega, by go_num, _, HPD.out, (HSM.out.write _ _).mono (by omega), HL.out.write _ _⟩
          case measure => simp [intOf]; omega
        · have hka' : ¬ (k : Int) < la := hka
          go_wp2_with fail
          generalize hat : (405 : Int) = at1
          have hat1 : 399 ≤ at1 := by omega
          have hat2 : at1 < 412 := by omega
          clear hat
          refine wp_region_any (by kernel_rfl) ?_
          change wpAny _ _ _ _ _ _ _ (World.drew _)
          refine wpAny_of_held (S := fun (w' : World) => w'.cell? ⟨zb, zoff + k, none⟩ = some (Value.slice bo m1 bc)) _ _ _ _ ?_
          have hS : (fun (w' : World) => w'.cell? ⟨zb, zoff + k, none⟩ = some (Value.slice bo m1 bc)) _ := z1
          refine wpAnyH_take (i := 0) (oi := ⟨some 67, _, _, _, _, _⟩) (v := ?_) rfl (by kernel_rfl) (by kernel_rfl) (by kernel_rfl) (fun _ _ _ h => h) (Or.inl ⟨by rfl, ?_⟩) hS ?_
          rotate_left
          · intro wz hSw
            clear hSw
            go_simp
            first | done | with_reducible rfl
          try simp only [Act.put, List.setIfInBounds_toArray, List.set_cons_zero, List.set_cons_succ]
          refine wpAnyH_take (i := 1) (oi := ⟨some 68, _, _, _, _, _⟩) (v := ?_) rfl (by kernel_rfl) (by kernel_rfl) (by kernel_rfl) (fun _ _ _ h => h) (Or.inl ⟨by rfl, ?_⟩) hS ?_
          rotate_left
          · intro wz hSw
            clear hSw
            go_simp
            first | done | with_reducible rfl
          try simp only [Act.put, List.setIfInBounds_toArray, List.set_cons_zero, List.set_cons_succ]
          refine wpAnyH_take (i := 2) (oi := ⟨some 69, _, _, _, _, _⟩) (v := ?_) rfl (by kernel_rfl) (by kernel_rfl) (by kernel_rfl) (fun _ _ _ h => h) (Or.inl ⟨by rfl, ?_⟩) hS ?_
          rotate_left
          · intro wz hSw
            clear hSw
            go_simp
            first | done | with_reducible rfl
          try simp only [Act.put, List.setIfInBounds_toArray, List.set_cons_zero, List.set_cons_succ]
          refine wpAnyH_take (i := 3) (oi := ⟨some 70, _, _, _, _, _⟩) (v := ?_) rfl (by kernel_rfl) (by kernel_rfl) (by kernel_rfl) (fun _ _ _ h => h) (Or.inl ⟨by rfl, ?_⟩) hS ?_
          rotate_left
          · intro wz hSw
            clear hSw
            go_simp
            first | done | with_reducible rfl
          try simp only [Act.put, List.setIfInBounds_toArray, List.set_cons_zero, List.set_cons_succ]
          refine wpAnyH_take (i := 4) (oi := ⟨some 71, _, _, _, _, _⟩) (v := ?_) rfl (by kernel_rfl) (by kernel_rfl) (by kernel_rfl) (fun _ _ _ h => h) (Or.inl ⟨by rfl, ?_⟩) hS ?_
          rotate_left
          · intro wz hSw
            clear hSw
            go_simp
            first | done | with_reducible rfl
          try simp only [Act.put, List.setIfInBounds_toArray, List.set_cons_zero, List.set_cons_succ]
          refine wpAnyH_take (i := 6) (oi := ⟨some 73, _, _, _, _, _⟩) (v := ?_) rfl (by kernel_rfl) (by kernel_rfl) (by kernel_rfl) (fun _ _ _ h => h) (Or.inl ⟨by rfl, ?_⟩) hS ?_
          rotate_left
          · intro wz hSw
            clear hSw
            go_simp
            first | done | with_reducible rfl
          try simp only [Act.put, List.setIfInBounds_toArray, List.set_cons_zero, List.set_cons_succ]
          refine wpAnyH_take (i := 7) (oi := ⟨some 74, _, _, _, _, _⟩) (v := ?_) rfl (by kernel_rfl) (by kernel_rfl) (by kernel_rfl) (fun _ _ _ h => h) (Or.inl ⟨by rfl, ?_⟩) hS ?_
          rotate_left
          · intro wz hSw
            clear hSw
            go_simp
            first | done | with_reducible rfl
          try simp only [Act.put, List.setIfInBounds_toArray, List.set_cons_zero, List.set_cons_succ]
          refine wpAnyH_take (i := 8) (oi := ⟨some 75, _, _, _, _, _⟩) (v := ?_) rfl (by kernel_rfl) (by kernel_rfl) (by kernel_rfl) (fun _ _ _ h => h) (Or.inl ⟨by rfl, ?_⟩) hS ?_
          rotate_left
          · intro wz hSw
            clear hSw
            go_simp
            first | done | with_reducible rfl
          try simp only [Act.put, List.setIfInBounds_toArray, List.set_cons_zero, List.set_cons_succ]
          refine wpAnyH_take (i := 9) (oi := ⟨some 76, _, _, _, _, _⟩) (v := ?_) rfl (by kernel_rfl) (by kernel_rfl) (by kernel_rfl) (fun _ _ _ h => h) (Or.inl ⟨by rfl, ?_⟩) hS ?_
          rotate_left
          · intro wz hSw
            (try dsimp only at hSw)
            (try go_split_ands)
            go_simp
            first | done | with_reducible rfl
          try simp only [Act.put, List.setIfInBounds_toArray, List.set_cons_zero, List.set_cons_succ]
          refine wpAnyH_take (i := 10) (oi := ⟨some 77, _, _, _, _, _⟩) (v := ?_) rfl (by kernel_rfl) (by kernel_rfl) (by kernel_rfl) (fun _ _ _ h => h) (Or.inl ⟨by rfl, ?_⟩) hS ?_
          rotate_left
          · intro wz hSw
            clear hSw
            go_simp
            first | done | with_reducible rfl
          try simp only [Act.put, List.setIfInBounds_toArray, List.set_cons_zero, List.set_cons_succ]
          refine wpAnyH_take (i := 11) (oi := ⟨some 78, _, _, _, _, _⟩) (v := ?_) rfl (by kernel_rfl) (by kernel_rfl) (by kernel_rfl) (fun _ _ _ h => h) (Or.inl ⟨by rfl, ?_⟩) hS ?_
          rotate_left
          · intro wz hSw
            clear hSw
            go_simp
            first | done | with_reducible rfl
          try simp only [Act.put, List.setIfInBounds_toArray, List.set_cons_zero, List.set_cons_succ]
          refine wpAnyH_take (i := 12) (oi := ⟨some 79, _, _, _, _, _⟩) (v := ?_) rfl (by kernel_rfl) (by kernel_rfl) (by kernel_rfl) (fun _ _ _ h => h) (Or.inl ⟨by rfl, ?_⟩) hS ?_
          rotate_left
          · intro wz hSw
            clear hSw
            go_simp
            first | done | with_reducible rfl
          try simp only [Act.put, List.setIfInBounds_toArray, List.set_cons_zero, List.set_cons_succ]
          refine wpAnyH_take (i := 13) (oi := ⟨some 80, _, _, _, _, _⟩) (v := ?_) rfl (by kernel_rfl) (by kernel_rfl) (by kernel_rfl) (fun _ _ _ h => h) (Or.inl ⟨by rfl, ?_⟩) hS ?_
          rotate_left
          · intro wz hSw
            (try dsimp only at hSw)
            (try go_split_ands)
            go_simp
            first | done | with_reducible rfl
          try simp only [Act.put, List.setIfInBounds_toArray, List.set_cons_zero, List.set_cons_succ]
          refine wpAnyH_take (i := 14) (oi := ⟨some 81, _, _, _, _, _⟩) (v := ?_) rfl (by kernel_rfl) (by kernel_rfl) (by kernel_rfl) (fun _ _ _ h => h) (Or.inl ⟨by rfl, ?_⟩) hS ?_
          rotate_left
          · intro wz hSw
            clear hSw
            go_simp
            first | done | with_reducible rfl
          try simp only [Act.put, List.setIfInBounds_toArray, List.set_cons_zero, List.set_cons_succ]
          refine wpAnyH_take (i := 15) (oi := ⟨some 82, _, _, _, _, _⟩) (v := ?_) rfl (by kernel_rfl) (by kernel_rfl) (by kernel_rfl) (fun _ _ _ h => h) (Or.inl ⟨by rfl, ?_⟩) hS ?_
          rotate_left
          · intro wz hSw
            clear hSw
            go_simp
            first | done | with_reducible rfl
          try simp only [Act.put, List.setIfInBounds_toArray, List.set_cons_zero, List.set_cons_succ]
          refine wpAnyH_take (i := 16) (oi := ⟨some 83, _, _, _, _, _⟩) (v := ?_) rfl (by kernel_rfl) (by kernel_rfl) (by kernel_rfl) (fun _ _ _ h => h) (Or.inl ⟨by rfl, ?_⟩) hS ?_
          rotate_left
          · intro wz hSw
            clear hSw
            go_simp
            first | done | with_reducible rfl
          try simp only [Act.put, List.setIfInBounds_toArray, List.set_cons_zero, List.set_cons_succ]
          refine wpAnyH_ready (rs := [5]) (by kernel_rfl) (by simp) ?_
          refine AllReadyH.cons (o := ⟨some 72, _, _, _, _, _⟩) rfl (fun K hK => ?_) AllReadyH.nil
          go_simp
          refine hK.out _ _ (((Below.refl _ wr).drew.alloc (Nat.le_refl _) _).cell (World.block_lt_of_cell? _ _ z1) |>.trans z1) (fun hS => ?_)
          clear hK K
          try simp only [Act.put, List.setIfInBounds_toArray, List.set_cons_zero, List.set_cons_succ]
          obtain ⟨l8, hl8, ho8⟩ := own8 wr at1 (at1 / 256)
          have hal8 := ((Below.refl wr.heap.size wr).alloc (Nat.le_refl _) (.cells #[.int .u8 (IntKind.u8.wrap at1), .int .u8 (IntKind.u8.wrap (at1 / 256)), .int .u8 0, .int .u8 0, .int .u8 0, .int .u8 0, .int .u8 0, .int .u8 0] 5)).drew
          have hbt8 := HBT.out.below hal8
          have hzlt := World.block_lt_of_cell? _ _ z1
          refine wpAnyH_ready (rs := [17]) (by kernel_rfl) (by simp) ?_
          refine AllReadyH.cons (o := ⟨some 84, _, _, _, _, _⟩) rfl (fun K hK => ?_) AllReadyH.nil
          refine step_append_bytes rfl (.tmp 72) (.tmp 83) rfl wr.heap.size _ l8 rfl (ho8.below (Below.refl _ _).drew) _ (bs.take kk) rfl hbt8 ?_ ?_ ?_
          · rw [hl8, List.length_take]; omega
          · exact hal8.size
          intro va wa hva hga
          have hbwa := hal8.grown hga hal8.size (fun q hq => (ho8.out.lt q hq).1)
          refine hK.out _ _ ((hbwa.cell hzlt).trans z1) (fun hS => ?_)
          clear hK K
          try simp only [Act.put, List.setIfInBounds_toArray, List.set_cons_zero, List.set_cons_succ]
          refine wpAnyH_take (i := 18) (oi := ⟨some 16, _, _, _, _, _⟩) (v := ?_) rfl (by kernel_rfl) (by kernel_rfl) (by kernel_rfl) (fun _ _ _ h => h) (Or.inl ⟨by rfl, ?_⟩) hS ?_
          rotate_left
          · intro wz hSw
            clear hSw
            go_simp
            first | done | with_reducible rfl
          try simp only [Act.put, List.setIfInBounds_toArray, List.set_cons_zero, List.set_cons_succ]
          refine wpAnyH_done (by kernel_rfl) ?_ _
          have hva' := hva.bs
          obtain ⟨BL, hBL⟩ : ∃ BL, BL = l8 ++ bs.take kk := ⟨_, rfl⟩
          rw [← hBL] at hva hva'
          have HVA := Lib.hid hva'
          have HVL := Lib.hid (fun q hq => hva.out.lt q hq)
          obtain ⟨vao, vac, rfl, -⟩ := hva'
          have HPA := Lib.hid (HPX.out.take hbwa)
          clear hS hva hga hbwa hzlt hbt8 hal8 ho8 hl8 hBL HBT
          go_wp2_with fail
          refine (px_writeD (1 + (k : Int)) _ BL HPA.out HVA.out (HSM.out.mono (by omega))).mono ?_
          rintro e wc ⟨rfl, hc1, hc2⟩
          have HVC := Lib.hid (hc2.bs HVA.out (fun q hq => .inr (.inr (HVL.out q hq))))
          have HPC := Lib.hid hc1
          clear hc1 hc2 HVA HVL HPA
          go_wp2_with fail
          refine (px_writeR (1 + (k : Int)) _ BL HPC.out HVC.out (HSM.out.mono (by omega))).mono ?_
          rintro e wd ⟨rfl, hd1, -⟩
          have HPD := Lib.hid hd1.forget
          clear hd1 HVC HPC
          go_wp2_with fail
          go_roundw
          case rel => exact ⟨k + 1, by omega, by go_num, _, HPD.out, (HSM.out.write _ _).mono (by omega), HL.out.write _ _⟩
          case measure => simp [intOf]; omega
      · obtain rfl : k = lb := by omega
        go_wp2_with fail
        refine (px_syncD HPX.out (HSM.out.mono (by omega))).mono ?_
        rintro e wa ⟨rfl, ha, -⟩
        go_wp2_with fail
        refine (px_syncR ha (HSM.out.mono (by omega))).mono ?_
        rintro e wb ⟨rfl, hb, -⟩
        have hsb : Small A.sync 100 := HSM.out.sync.mono (by omega)
        have hlb := HL.out.sync
        obtain ⟨B, hB⟩ : ∃ B, B = A.sync := ⟨_, rfl⟩
        rw [← hB] at hb hsb hlb
        have HPB := Lib.hid hb
        have HSB := Lib.hid hsb
        have HLB2 := Lib.hid hlb
        clear ha hb hsb hlb hB HPX HSM HL
        go_wp2_with fail
        refine (HW20.out _).mono ?_
        rintro e wz ⟨rfl, hwz⟩
        replace hwz := hwz.symm
        subst hwz
        go_wp2_with fail
        refine (px_stopD s HPB.out).mono ?_
        rintro e wc ⟨rfl, hc, -⟩
        go_wp2_with fail
        refine (HW20.out _).mono ?_
        rintro e wz ⟨rfl, hwz⟩
        replace hwz := hwz.symm
        subst hwz
        go_wp2_with fail
        refine (px_stopR s hc).mono ?_
        rintro e wd ⟨rfl, hd', -⟩
        have hsd : Small (B.stopAt s) 100 := stop_small HSB.out (by omega)
        have hld := HLB2.out.stop s
        obtain ⟨C, hC⟩ : ∃ C, C = B.stopAt s := ⟨_, rfl⟩
        rw [← hC] at hd' hsd hld
        have HPD := Lib.hid hd'
        have HSD := Lib.hid hsd
        have HLD := Lib.hid hld
        clear hc hd' hsd hld hC HPB HSB HLB2
        go_wp2_with fail
        refine (px_recoverD HPD.out (HSD.out.mono (by omega))).mono ?_
        rintro e we ⟨rfl, he, -⟩
        have HPE := Lib.hid he
        clear he
        obtain ⟨rn, hrn⟩ : ∃ m, m = C.recover.1 := ⟨_, rfl⟩
        obtain ⟨re, hre⟩ : ∃ m, m = C.recover.2.1 := ⟨_, rfl⟩
        have hrec := px_recoverR HPE.out (HSD.out.mono (by omega))
        rw [← hrn, ← hre] at hrec
        rw [← hrn, ← hre]
        have HREC := Lib.hid hrec
        have e1 : (rn == rn) = true := by simp
        have e2 : (re == re) = true := by simp
        clear hrec hrn hre
        go_wp2_with fail
        refine HREC.out.mono ?_
        rintro e wf ⟨rfl, hf, -⟩
        have HPF := Lib.hid hf
        clear hf HREC
        go_wp2_with (go_at_call 20; refine (psame_any w _ _ r x _ HPF.out ((recover_small HSD.out).mono (by omega)) (by rw [(recover_len HLD.out).1]; omega)).mono ?_; rintro e wg ⟨rfl, hbg⟩)
        go_ret
        exact ⟨rfl, (HPF.out.grow hbg).below⟩
end Go.Proofs.Ytkhdahipnfloeaa
