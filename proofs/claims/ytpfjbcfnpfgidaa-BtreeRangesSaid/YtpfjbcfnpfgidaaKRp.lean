/- Rp -/
import Derived.Test.YtpfjbcfnpfgidaaKHh
import Derived.Test.YtpfjbcfnpfgidaaKRh
import Derived.Test.YtpfjbcfnpfgidaaKRk
import Derived.Test.YtpfjbcfnpfgidaaKRl
namespace Go.Proofs.Ytpfjbcfnpfgidaa
open Go.RowKit Go.Maps
set_option maxRecDepth 100000
set_option linter.unusedVariables false
theorem ranges_all {fr : ByteArray} {l : List Ent} (h : l.Pairwise rK) (hl : l.length ≤ 1000) (hf : ¬ fr.toList = []) : (rangeL ⟨#[]⟩ fr 1000 l).length + (rangeL fr ⟨#[]⟩ 1000 l).length = l.length := by
 have e0 : (⟨#[]⟩ : ByteArray).toList = [] := by rw [Lib.toList_data]
 have e1 : tokK ⟨#[]⟩ = fun _ => true := by
  funext x
  unfold tokK
  rw [e0]; rfl
 have e2 : (l.filter (gK ⟨#[]⟩)) = l := filter_all l
 have e3 : l.takeWhile (tokK fr) = lowL fr l := by
  rw [← low_tw fr h]
  congr 1
  funext x
  unfold tokK lsK geB
  have : fr.toList.isEmpty = false := by cases hh : fr.toList with | nil => exact absurd hh hf | cons _ _ => rfl
  rw [this]; simp
 have hsp := split_sorted fr h
 have hlen := congrArg List.length hsp
 rw [List.length_append] at hlen
 unfold rangeL
 rw [e1, e2, e3, takeWhile_all, List.length_take, List.length_take]
 unfold lowL
 omega
def RelRg (W : World) (n r p B x : Nat) (root i : Value) (wr : World) : Prop :=
 ∃ (k : Nat) (X : Nat → Prop) (m : Nat) (t : BT Ent m) (H : Lg) (c : Nat) (kv vv : Value), k ≤ n ∧ i = .int .i64 k ∧ root = .int .i64 (t.page : Int) ∧ c ≤ 2 + 110 * k ∧ t.flat.length ≤ k ∧ Bo W wr X r p 1199 0 c (Lg.new 1199) H t 1198 B x kv vv
set_option maxHeartbeats 16000000 in
theorem ranges5_walk (v : Value) (l : List ByteArray) (fr to : ByteArray) (most : Int) (W : World) (h : Ss W v l) :
 Calls Try.prog 3 #[v, .string fr, .string to, .int .i64 most] W fun e w' => e = .returned (.bool true) ∧ Below W.heap.size W w' := by
 obtain ⟨ao, cap, hv, hc1, hc2⟩ := h.form
 obtain ⟨n, hn⟩ : ∃ n, n = l.length := ⟨_, rfl⟩
 rw [← hn] at hc1 hv
 subst hv
 have HN := Lib.hid hn
 have HA := Lib.hid h
 clear hn h
 by_cases hs : n ≤ 60 ∧ fr.size ≤ 50 ∧ to.size ≤ 50
 ·obtain ⟨s1, s2, s3⟩ := hs
  have t1 : ¬ (60 : Int) < n := by omega
  have t2 : ¬ (50 : Int) < fr.size := by omega
  have t3 : ¬ (50 : Int) < to.size := by omega
  go_enter Try.func3, Try.ntmps3
  go_wp2_with fail
  refine (known5_any W).mono ?_
  rintro e w1 ⟨rfl, h1⟩
  have H1 := Lib.hid h1
  clear h1
  go_wp2_with fail
  refine (open5_any W _ H1.out).mono ?_
  rintro e w3 ⟨r, p, rfl, h3⟩
  have H3 := Lib.hid h3
  clear h3
  go_wp2_with fail
  refine (bt_new H3.out (by omega) new5_free).mono ?_
  rintro e w4 ⟨rfl, h4, -⟩
  have H4 := Lib.hid (Bo.start h4)
  clear h4 t1 t2 t3
  go_wp2_with fail
  go_loopw [10, 13] (fun root i wr => RelRg W n r p (w4.alloc (.cells #[.slice none 0 0, .slice none 0 0] 31)).heap.size w4.heap.size root i wr) (fun _ i _ => n - (intOf i).toNat)
  case atStart => exact ⟨0, _, 0, BT.leaf 1 [], _, 2, _, _, Nat.zero_le _, rfl, rfl, by omega, Nat.le_refl _, H4.out⟩
  case round =>
   obtain ⟨k, X, m, t, H, c, kv, vv, hk, rfl, rfl, hc, hfl, hbo⟩ := hrel
   have HBO := Lib.hid hbo
   obtain ⟨pg, hpg⟩ : ∃ pg : Int, pg = (t.page : Int) := ⟨_, rfl⟩
   rw [← hpg]
   have HPG := Lib.hid hpg
   by_cases hlt : k < n
   ·have hkl : k < l.length := by rw [← HN.out]; exact hlt
    obtain ⟨b, off, rfl, c0, hb⟩ := (HA.out.below hbo.pb.below).cellAt k hkl
    obtain ⟨key, hkey⟩ : ∃ key, key = l[k] := ⟨_, rfl⟩
    rw [← hkey] at c0
    have HKY := Lib.hid hkey
    have hlt' : (k : Int) < n := by omega
    have hk0 : (0 : Int) ≤ k := by omega
    by_cases h130 : (130 : Int) < key.size
    ·clear hbo hpg hkey
     go_wp2_with fail
     go_ret
     exact ⟨rfl, HBO.out.pb.below⟩
    ·have hroom := hbo.room
     have hvb : vb (byteOf k) = .int .u8 (k : Int) := by rw [vb_byteOf]; congr 1; omega
     obtain ⟨val, hval⟩ : ∃ val : ByteArray, val = ⟨[byteOf k].toArray⟩ := ⟨_, rfl⟩
     have hvs : val.size = 1 := by rw [hval]; rfl
     have hu8 : IntKind.u8.wrap (k : Int) = k := by rw [IntKind.wrap_u8]; omega
     have HV := Lib.hid (And.intro hvb (And.intro hval hvs))
     have HU := Lib.hid hu8
     have HBD := Lib.hid (show c ≤ 2 + 110 * k ∧ t.flat.length ≤ k ∧ n ≤ 60 ∧ k < n ∧ 25 ≤ H.free.length from ⟨hc, hfl, s1, hlt, by omega⟩)
     have HC0 := Lib.hid (show ∀ u, Below W.heap.size W u → u.cell? ⟨b, off + k, none⟩ = some (.string key) from fun u hu => by
      obtain ⟨b', off', e', c', -⟩ := (HA.out.below hu).cellAt k hkl
      simp only [Option.some.injEq, Addr.mk.injEq, and_true] at e'
      obtain ⟨rfl, rfl⟩ := e'
      rw [HKY.out]; exact c')
     have hsz : key.size ≤ 130 := by omega
     have HSZ := Lib.hid hsz
     obtain ⟨wo, rfl⟩ : ∃ wo, wo = wr := ⟨_, rfl⟩
     clear hbo hpg hkey hvb hval hvs hu8 hc hfl hroom hb hsz
     go_wp2_with fail
     clear c0
     have hu8 := HU.out
     refine wp_region_any (by kernel_rfl) ?_
     change wpAny _ _ _ _ _ _ _ (World.drew _)
     refine wpAny_of_held (S := fun (w' : World) => w'.cell? ⟨b, off + k, none⟩ = some (.string key)) _ _ _ _ ?_
     have hS : (fun (w' : World) => w'.cell? ⟨b, off + k, none⟩ = some (.string key)) _ := HC0.out _ (HBO.out.pb.below.drew)
     have HB1 := Lib.hid ((Below.refl wo.heap.size wo).drew)
     generalize World.drew wo = v0 at HB1 hS ⊢
     try simp only [Act.put, List.setIfInBounds_toArray, List.set_cons_zero, List.set_cons_succ]
     refine wpAnyH_take (i := 0) (oi := ⟨some 68, _, _, _, _, _⟩) (v := ?_) rfl (by kernel_rfl) (by kernel_rfl) (by kernel_rfl) (fun _ _ _ h => h) (Or.inl ⟨by simp only [Region.wanted], ?_⟩) hS ?_
     rotate_left
     ·intro wz hSw
      clear hSw
      go_simp
      first | done | with_reducible rfl
     try simp only [Act.put, List.setIfInBounds_toArray, List.set_cons_zero, List.set_cons_succ]
     refine wpAnyH_take (i := 1) (oi := ⟨some 69, _, _, _, _, _⟩) (v := ?_) rfl (by kernel_rfl) (by kernel_rfl) (by kernel_rfl) (fun _ _ _ h => h) (Or.inl ⟨by simp only [Region.wanted], ?_⟩) hS ?_
     rotate_left
     ·intro wz hSw
      clear hSw
      go_simp
      first | done | with_reducible rfl
     try simp only [Act.put, List.setIfInBounds_toArray, List.set_cons_zero, List.set_cons_succ]
     refine wpAnyH_take (i := 2) (oi := ⟨some 70, _, _, _, _, _⟩) (v := ?_) rfl (by kernel_rfl) (by kernel_rfl) (by kernel_rfl) (fun _ _ _ h => h) (Or.inl ⟨by simp only [Region.wanted], ?_⟩) hS ?_
     rotate_left
     ·intro wz hSw
      clear hSw
      go_simp
      first | done | with_reducible rfl
     try simp only [Act.put, List.setIfInBounds_toArray, List.set_cons_zero, List.set_cons_succ]
     refine wpAnyH_take (i := 3) (oi := ⟨some 71, _, _, _, _, _⟩) (v := ?_) rfl (by kernel_rfl) (by kernel_rfl) (by kernel_rfl) (fun _ _ _ h => h) (Or.inl ⟨by simp only [Region.wanted], ?_⟩) hS ?_
     rotate_left
     ·intro wz hSw
      clear hSw
      go_simp
      first | done | with_reducible rfl
     try simp only [Act.put, List.setIfInBounds_toArray, List.set_cons_zero, List.set_cons_succ]
     refine wpAnyH_take (i := 4) (oi := ⟨some 72, _, _, _, _, _⟩) (v := ?_) rfl (by kernel_rfl) (by kernel_rfl) (by kernel_rfl) (fun _ _ _ h => h) (Or.inl ⟨by simp only [Region.wanted], ?_⟩) hS ?_
     rotate_left
     ·intro wz hSw
      clear hSw
      go_simp
      first | done | with_reducible rfl
     try simp only [Act.put, List.setIfInBounds_toArray, List.set_cons_zero, List.set_cons_succ]
     refine wpAnyH_take (i := 5) (oi := ⟨some 73, _, _, _, _, _⟩) (v := ?_) rfl (by kernel_rfl) (by kernel_rfl) (by kernel_rfl) (fun _ _ _ h => h) (Or.inl ⟨by simp only [Region.wanted], ?_⟩) hS ?_
     rotate_left
     ·intro wz hSw
      (try dsimp only at hSw)
      (try go_split_ands)
      go_simp
      first | done | with_reducible rfl
     try simp only [Act.put, List.setIfInBounds_toArray, List.set_cons_zero, List.set_cons_succ]
     refine wpAnyH_take (i := 6) (oi := ⟨some 74, _, _, _, _, _⟩) (v := ?_) rfl (by kernel_rfl) (by kernel_rfl) (by kernel_rfl) (fun _ _ _ h => h) (Or.inl ⟨by simp only [Region.wanted], ?_⟩) hS ?_
     rotate_left
     ·intro wz hSw
      clear hSw
      go_simp
      first | done | with_reducible rfl
     try simp only [Act.put, List.setIfInBounds_toArray, List.set_cons_zero, List.set_cons_succ]
     refine wpAnyH_take (i := 7) (oi := ⟨some 75, _, _, _, _, _⟩) (v := ?_) rfl (by kernel_rfl) (by kernel_rfl) (by kernel_rfl) (fun _ _ _ h => h) (Or.inl ⟨by simp only [Region.wanted], ?_⟩) hS ?_
     rotate_left
     ·intro wz hSw
      clear hSw
      go_simp
      first | done | with_reducible rfl
     try simp only [Act.put, List.setIfInBounds_toArray, List.set_cons_zero, List.set_cons_succ]
     refine wpAnyH_ready (rs := [8]) (by kernel_rfl) (by simp) ?_
     refine AllReadyH.cons (o := ⟨some 76, _, _, _, _, _⟩) rfl (fun K hK => ?_) AllReadyH.nil
     go_simp
     have hbs := Bs.one v0 (byteOf k) _ HV.out.1.symm
     have HBA := Lib.hid (show Below v0.heap.size v0 (v0.alloc (.cells #[.int .u8 (k : Int)] 5)) from (Below.refl _ v0).alloc (Nat.le_refl _) _)
     generalize World.alloc v0 _ = v1 at hbs HBA ⊢
     refine hK.out _ _ (HC0.out _ ((HBO.out.read HB1.out).read HBA.out).pb.below) (fun hS => ?_)
     clear hK K
     try simp only [Act.put, List.setIfInBounds_toArray, List.set_cons_zero, List.set_cons_succ]
     refine wpAnyH_ready (rs := [9]) (by kernel_rfl) (by simp) ?_
     refine AllReadyH.cons (o := ⟨some 77, _, _, _, _, _⟩) rfl (fun K hK => ?_) AllReadyH.nil
     have hcv := run_conv_bytes hbs
     go_simp
     refine hK.out _ _ (hS) (fun hS => ?_)
     clear hK K
     try simp only [Act.put, List.setIfInBounds_toArray, List.set_cons_zero, List.set_cons_succ]
     have hst := set_tree ((HBO.out.read HB1.out).take HBA.out).pb HBO.out.tree HBD.out.2.2.2.2 key val (by have := HSZ.out; omega) (by have := HSZ.out; have := HV.out.2.2; omega) (by have := HBD.out; omega)
     rw [← HPG.out, HV.out.2.1] at hst
     refine wpAnyH_ready (rs := [10]) (by kernel_rfl) (by simp) ?_
     refine AllReadyH.cons (o := ⟨some 78, _, _, _, _, _⟩) rfl (fun K hK => ?_) AllReadyH.nil
     go_simp
     refine hst.mono ?_
     rintro en w2 ⟨m', t', H', c', rfl, hc', hch, hpb, hmx⟩
     obtain ⟨pg', hpg'⟩ : ∃ pg' : Int, pg' = (t'.page : Int) := ⟨_, rfl⟩
     rw [← hpg']
     have hb2 := hpb.below
     have hmap := ((HBO.out.read HB1.out).take HBA.out).half hmx
     rw [← HV.out.2.1] at hch
     refine hK.out _ _ (HC0.out _ hb2) (fun hS => ?_)
     clear hK K
     try simp only [Act.put, List.setIfInBounds_toArray, List.set_cons_zero, List.set_cons_succ]
     clear hst hbs
     refine wpAnyH_take (i := 11) (oi := ⟨some 67, _, _, _, _, _⟩) (v := ?_) rfl (by kernel_rfl) (by kernel_rfl) (by kernel_rfl) (fun _ _ _ h => h) (Or.inl ⟨by simp only [Region.wanted], ?_⟩) hS ?_
     rotate_left
     ·intro wz hSw
      clear hSw
      go_simp
      first | done | with_reducible rfl
     try simp only [Act.put, List.setIfInBounds_toArray, List.set_cons_zero, List.set_cons_succ]
     refine wpAnyH_take (i := 12) (oi := ⟨some 79, _, _, _, _, _⟩) (v := ?_) rfl (by kernel_rfl) (by kernel_rfl) (by kernel_rfl) (fun _ _ _ h => h) (Or.inl ⟨by simp only [Region.wanted], ?_⟩) hS ?_
     rotate_left
     ·intro wz hSw
      clear hSw
      go_simp
      first | done | with_reducible rfl
     try simp only [Act.put, List.setIfInBounds_toArray, List.set_cons_zero, List.set_cons_succ]
     refine wpAnyH_take (i := 13) (oi := ⟨some 80, _, _, _, _, _⟩) (v := ?_) rfl (by kernel_rfl) (by kernel_rfl) (by kernel_rfl) (fun _ _ _ h => h) (Or.inl ⟨by simp only [Region.wanted], ?_⟩) hS ?_
     rotate_left
     ·intro wz hSw
      clear hSw
      go_simp
      first | done | with_reducible rfl
     try simp only [Act.put, List.setIfInBounds_toArray, List.set_cons_zero, List.set_cons_succ]
     refine wpAnyH_take (i := 14) (oi := ⟨some 10, _, _, _, _, _⟩) (v := ?_) rfl (by kernel_rfl) (by kernel_rfl) (by kernel_rfl) (fun _ _ _ h => h) (Or.inl ⟨by simp only [Region.wanted], ?_⟩) hS ?_
     rotate_left
     ·intro wz hSw
      clear hSw
      go_simp
      first | done | with_reducible rfl
     try simp only [Act.put, List.setIfInBounds_toArray, List.set_cons_zero, List.set_cons_succ]
     refine wpAnyH_take (i := 15) (oi := ⟨some 11, _, _, _, _, _⟩) (v := ?_) rfl (by kernel_rfl) (by kernel_rfl) (by kernel_rfl) (fun _ _ _ h => h) (Or.inl ⟨by simp only [Region.wanted], ?_⟩) hS ?_
     rotate_left
     ·intro wz hSw
      clear hSw
      go_simp
      first | done | with_reducible rfl
     try simp only [Act.put, List.setIfInBounds_toArray, List.set_cons_zero, List.set_cons_succ]
     refine wpAnyH_done (by kernel_rfl) ?_ _
     clear hS hu8
     have HB2 := Lib.hid hb2
     have HCH := Lib.hid (And.intro hc' (And.intro hch (And.intro hpb (And.intro hpg' hmap))))
     clear hb2 hc' hch hpb hpg' hmap
     go_wp2_with fail
     have hu8 := HU.out
     refine wp_region_any (by kernel_rfl) ?_
     change wpAny _ _ _ _ _ _ _ (World.drew _)
     refine wpAny_of_held (S := fun (w' : World) => w'.cell? ⟨b, off + k, none⟩ = some (.string key)) _ _ _ _ ?_
     have hS : (fun (w' : World) => w'.cell? ⟨b, off + k, none⟩ = some (.string key)) _ := HC0.out _ (HB2.out.drew)
     have HB3 := Lib.hid ((Below.refl w2.heap.size w2).drew)
     have HB3W := Lib.hid (HB2.out.drew)
     generalize World.drew w2 = v2 at HB3 HB3W hS ⊢
     try simp only [Act.put, List.setIfInBounds_toArray, List.set_cons_zero, List.set_cons_succ]
     refine wpAnyH_take (i := 0) (oi := ⟨some 81, _, _, _, _, _⟩) (v := ?_) rfl (by kernel_rfl) (by kernel_rfl) (by kernel_rfl) (fun _ _ _ h => h) (Or.inl ⟨by simp only [Region.wanted], ?_⟩) hS ?_
     rotate_left
     ·intro wz hSw
      clear hSw
      go_simp
      first | done | with_reducible rfl
     try simp only [Act.put, List.setIfInBounds_toArray, List.set_cons_zero, List.set_cons_succ]
     refine wpAnyH_take (i := 1) (oi := ⟨some 82, _, _, _, _, _⟩) (v := ?_) rfl (by kernel_rfl) (by kernel_rfl) (by kernel_rfl) (fun _ _ _ h => h) (Or.inl ⟨by simp only [Region.wanted], ?_⟩) hS ?_
     rotate_left
     ·intro wz hSw
      clear hSw
      go_simp
      first | done | with_reducible rfl
     try simp only [Act.put, List.setIfInBounds_toArray, List.set_cons_zero, List.set_cons_succ]
     refine wpAnyH_take (i := 2) (oi := ⟨some 83, _, _, _, _, _⟩) (v := ?_) rfl (by kernel_rfl) (by kernel_rfl) (by kernel_rfl) (fun _ _ _ h => h) (Or.inl ⟨by simp only [Region.wanted], ?_⟩) hS ?_
     rotate_left
     ·intro wz hSw
      clear hSw
      go_simp
      first | done | with_reducible rfl
     try simp only [Act.put, List.setIfInBounds_toArray, List.set_cons_zero, List.set_cons_succ]
     refine wpAnyH_take (i := 3) (oi := ⟨some 84, _, _, _, _, _⟩) (v := ?_) rfl (by kernel_rfl) (by kernel_rfl) (by kernel_rfl) (fun _ _ _ h => h) (Or.inl ⟨by simp only [Region.wanted], ?_⟩) hS ?_
     rotate_left
     ·intro wz hSw
      clear hSw
      go_simp
      first | done | with_reducible rfl
     try simp only [Act.put, List.setIfInBounds_toArray, List.set_cons_zero, List.set_cons_succ]
     refine wpAnyH_take (i := 4) (oi := ⟨some 85, _, _, _, _, _⟩) (v := ?_) rfl (by kernel_rfl) (by kernel_rfl) (by kernel_rfl) (fun _ _ _ h => h) (Or.inl ⟨by simp only [Region.wanted], ?_⟩) hS ?_
     rotate_left
     ·intro wz hSw
      (try dsimp only at hSw)
      (try go_split_ands)
      go_simp
      first | done | with_reducible rfl
     try simp only [Act.put, List.setIfInBounds_toArray, List.set_cons_zero, List.set_cons_succ]
     refine wpAnyH_take (i := 5) (oi := ⟨some 86, _, _, _, _, _⟩) (v := ?_) rfl (by kernel_rfl) (by kernel_rfl) (by kernel_rfl) (fun _ _ _ h => h) (Or.inl ⟨by simp only [Region.wanted], ?_⟩) hS ?_
     rotate_left
     ·intro wz hSw
      clear hSw
      go_simp
      first | done | with_reducible rfl
     try simp only [Act.put, List.setIfInBounds_toArray, List.set_cons_zero, List.set_cons_succ]
     refine wpAnyH_take (i := 6) (oi := ⟨some 87, _, _, _, _, _⟩) (v := ?_) rfl (by kernel_rfl) (by kernel_rfl) (by kernel_rfl) (fun _ _ _ h => h) (Or.inl ⟨by simp only [Region.wanted], ?_⟩) hS ?_
     rotate_left
     ·intro wz hSw
      clear hSw
      go_simp
      first | done | with_reducible rfl
     try simp only [Act.put, List.setIfInBounds_toArray, List.set_cons_zero, List.set_cons_succ]
     refine wpAnyH_ready (rs := [7]) (by kernel_rfl) (by simp) ?_
     refine AllReadyH.cons (o := ⟨some 88, _, _, _, _, _⟩) rfl (fun K hK => ?_) AllReadyH.nil
     go_simp
     have hbs := Bs.one v2 (byteOf k) _ HV.out.1.symm
     have hba := (show Below v2.heap.size v2 (v2.alloc (.cells #[.int .u8 (k : Int)] 5)) from (Below.refl _ v2).alloc (Nat.le_refl _) _)
     have HBC := Lib.hid (show Below w2.heap.size w2 (v2.alloc (.cells #[.int .u8 (k : Int)] 5)) from HB3.out.trans (hba.mono HB3.out.size))
     have HBCW := Lib.hid (HB3W.out.trans (hba.mono HB3W.out.size))
     clear hba
     generalize World.alloc v2 _ = v3 at hbs HBC HBCW ⊢
     refine hK.out _ _ (HC0.out _ HBCW.out) (fun hS => ?_)
     clear hK K
     try simp only [Act.put, List.setIfInBounds_toArray, List.set_cons_zero, List.set_cons_succ]
     refine wpAnyH_ready (rs := [8]) (by kernel_rfl) (by simp) ?_
     refine AllReadyH.cons (o := ⟨some 89, _, _, _, _, _⟩) rfl (fun K hK => ?_) AllReadyH.nil
     have hcv := run_conv_bytes hbs
     go_simp
     refine hK.out _ _ (hS) (fun hS => ?_)
     clear hK K
     try simp only [Act.put, List.setIfInBounds_toArray, List.set_cons_zero, List.set_cons_succ]
     have hrs := rset_tree (Live.below HCH.out.2.2.2.2 HBC.out) (.inl rfl) HBO.out.tree.sorted key val (by have := HBD.out; omega) (by have := HSZ.out; omega) (by have := HSZ.out; have := HV.out.2.2; omega)
     rw [HV.out.2.1] at hrs
     refine wpAnyH_ready (rs := [9]) (by kernel_rfl) (by simp) ?_
     refine AllReadyH.cons (o := ⟨some 90, _, _, _, _, _⟩) rfl (fun K hK => ?_) AllReadyH.nil
     go_simp
     refine hrs.mono ?_
     rintro en w5 ⟨rfl, kv', vv', hm5⟩
     rw [← HV.out.2.1] at hm5
     refine hK.out _ _ (HC0.out _ (((HBO.out.read HB1.out).take HBA.out).both HCH.out.2.2.1 HCH.out.2.1 hm5).pb.below) (fun hS => ?_)
     clear hK K
     try simp only [Act.put, List.setIfInBounds_toArray, List.set_cons_zero, List.set_cons_succ]
     clear hrs hbs
     refine wpAnyH_done (by kernel_rfl) ?_ _
     clear hS hu8
     have HM5 := Lib.hid hm5
     clear hm5
     go_wp2_with fail
     go_roundw
     case rel =>
      obtain ⟨hc', hch, hpb, hpg', -⟩ := HCH.out
      have hb := HBD.out
      have hfl := setL_most key val HBO.out.tree.sorted
      refine ⟨k + 1, _, m', t', H', c', kv', vv', by omega, by go_num, by first | rfl | rw [hpg'] | rw [← hpg'], by omega, by rw [hch.flat]; omega, ((HBO.out.read HB1.out).take HBA.out).both hpb hch HM5.out⟩
     case measure => simp [intOf]; omega
   ·obtain rfl : k = n := by omega
    have hfl60 : t.flat.length ≤ 60 := by omega
    obtain ⟨nm, hnm⟩ : ∃ nm, nm = most % 70 := ⟨_, rfl⟩
    have hwi := fun w => within5_eq most 70 (by omega) (by omega) w
    rw [← hnm] at hwi
    have hn0 : 0 ≤ nm ∧ nm < 70 := by omega
    have HWI := Lib.hid hwi
    have HF60 := Lib.hid hfl60
    clear hbo hpg hc hfl hnm hwi hfl60
    go_wp2_with fail
    go_loopw [14] (fun i wz => ∃ j : Nat, j ≤ 4 ∧ i = .int .i64 j ∧ Below wr.heap.size wr wz) (fun i _ => 4 - (intOf i).toNat)
    case atStart => exact ⟨0, by omega, rfl, Below.refl _ _⟩
    case round =>
     obtain ⟨j, hj, rfl, hbz⟩ := hrel
     have HBZ := Lib.hid hbz
     obtain ⟨wq, hwq⟩ : ∃ wq : World, wq = wr := ⟨_, rfl⟩
     clear hwq wq
     by_cases hj4 : j < 4
     ·have hj4' : (j : Int) < 4 := by omega
      obtain ⟨mm, hmm⟩ : ∃ mm, mm = nm * (j : Int) := ⟨_, rfl⟩
      have hmb : 0 ≤ mm ∧ mm ≤ 280 := by
       rw [hmm]
       rcases (show j = 0 ∨ j = 1 ∨ j = 2 ∨ j = 3 by omega) with rfl | rfl | rfl | rfl <;> omega
      obtain ⟨A, V, ee, hA, hV, hrg, hrr, hpos⟩ := both_range HBO.out fr to mm (by have := HF60.out; omega)
      obtain ⟨rfl, -, -⟩ := hpos hmb.1
      rw [← HPG.out] at hrg
      have HRG := Lib.hid hrg
      have HRR := Lib.hid hrr
      have HAV := Lib.hid (And.intro hA hV)
      clear hbz hA hV hrg hrr hpos
      go_wp2_with fail
      refine (HWI.out _).mono ?_
      rintro en wz ⟨rfl, hwz⟩
      obtain rfl := hwz.symm
      go_wp2_with fail
      rw [← hmm]
      refine (HRG.out _ HBZ.out).mono ?_
      rintro en u2 ⟨a2, b2, rfl, ha2, hb2, hbu2⟩
      have HU2 := Lib.hid (HBZ.out.trans (hbu2.mono HBZ.out.size))
      have HA2 := Lib.hid (And.intro ha2 hb2)
      clear ha2 hb2 hbu2
      go_wp2_with fail
      refine (HWI.out _).mono ?_
      rintro en wz2 ⟨rfl, hwz2⟩
      obtain rfl := hwz2.symm
      go_wp2_with fail
      rw [← hmm]
      refine (HRR.out _ HU2.out).mono ?_
      rintro en u4 ⟨a4, b4, rfl, ha4, hb4, hbu4⟩
      have HU4 := Lib.hid (HU2.out.trans (hbu4.mono HU2.out.size))
      have hr1 := rows_any (HA2.out.1.below hbu4) ha4 (by have := HAV.out.1; omega) (by have := HAV.out.1; omega)
      rw [decide_eq_true rfl] at hr1
      have HA4 := Lib.hid (And.intro (HA2.out.2.below hbu4) hb4)
      have HR1 := Lib.hid hr1
      clear ha4 hb4 hbu4 hr1 hmm
      go_wp2_with fail
      refine HR1.out.mono ?_
      rintro en w5 ⟨rfl, hb5⟩
      have hr2 := rows_any (HA4.out.1.below hb5) (HA4.out.2.below hb5) (by have := HAV.out.2; omega) (by have := HAV.out.2; omega)
      rw [decide_eq_true rfl] at hr2
      have HR2 := Lib.hid hr2
      have HB5 := Lib.hid (HU4.out.trans (hb5.mono HU4.out.size))
      clear hr2 hb5 HR1
      go_wp2_with fail
      refine HR2.out.mono ?_
      rintro en w6 ⟨rfl, hb6⟩
      have HB6 := Lib.hid (HB5.out.trans (hb6.mono HB5.out.size))
      clear hb6 HR2
      go_wp2_with fail
      go_roundw
      case rel => exact ⟨j + 1, by omega, by go_num, HB6.out⟩
      case measure => simp [intOf]; omega
     ·obtain rfl : j = 4 := by omega
      have f60 := HF60.out
      obtain ⟨A1, V1, e1, hA1, -, hrg1, -, hp1⟩ := both_range HBO.out ⟨#[]⟩ fr 1000 (by omega)
      obtain ⟨rfl, hE1, -⟩ := hp1 (by omega)
      obtain ⟨A2, V2, e2, hA2, -, hrg2, -, hp2⟩ := both_range HBO.out fr ⟨#[]⟩ 1000 (by omega)
      obtain ⟨rfl, hE2, -⟩ := hp2 (by omega)
      rw [← HPG.out] at hrg1 hrg2
      have hsum : ¬ fr.toList = [] → A1.length + A2.length = t.flat.length := fun hf => by
       rw [hE1, hE2, List.length_map, List.length_map]
       exact ranges_all HBO.out.tree.sorted (by omega) hf
      obtain ⟨n1, hn1⟩ : ∃ n1, n1 = A1.length := ⟨_, rfl⟩
      obtain ⟨n2, hn2⟩ : ∃ n2, n2 = A2.length := ⟨_, rfl⟩
      obtain ⟨nf, hnf⟩ : ∃ nf, nf = t.flat.length := ⟨_, rfl⟩
      rw [← hn1, ← hn2, ← hnf] at hsum
      obtain ⟨ng, hng⟩ : ∃ ng, ng = most % 9 := ⟨_, rfl⟩
      have hw9 := fun w => within5_eq most 9 (by omega) (by omega) w
      rw [← hng] at hw9
      have hn9 : 0 ≤ ng ∧ ng < 9 := by omega
      have hneg := fun w => range_neg p pg ⟨#[]⟩ ⟨#[]⟩ (-1 - ng) (by omega) w
      have HG1 := Lib.hid hrg1
      have HG2 := Lib.hid hrg2
      have HW9 := Lib.hid hw9
      have HNEG := Lib.hid hneg
      have HSUM := Lib.hid hsum
      have HNS := Lib.hid (And.intro hn1 (And.intro hn2 (And.intro hnf (And.intro hA1 hA2))))
      clear hbz hrg1 hrg2 hw9 hneg hsum hn1 hn2 hnf hE1 hE2 hp1 hp2 hA1 hA2 hng f60
      go_wp2_with fail
      refine (HG1.out _ HBZ.out).mono ?_
      rintro en u1 ⟨a1, b1, rfl, ha1, -, hbu1⟩
      have HU1 := Lib.hid (HBZ.out.trans (hbu1.mono HBZ.out.size))
      have HA1 := Lib.hid ha1
      clear ha1 hbu1
      go_wp2_with fail
      refine (HG2.out _ HU1.out).mono ?_
      rintro en u2 ⟨a2, b2, rfl, ha2, -, hbu2⟩
      have HU2 := Lib.hid (HU1.out.trans (hbu2.mono HU1.out.size))
      have HA2 := Lib.hid (And.intro (HA1.out.below hbu2) ha2)
      clear ha2 hbu2
      go_wp2_with fail
      refine (HW9.out _).mono ?_
      rintro en wz9 ⟨rfl, hwz9⟩
      obtain rfl := hwz9.symm
      go_wp2_with fail
      refine (HNEG.out _).mono ?_
      rintro en u3 ⟨rfl, hbu3⟩
      have HU3 := Lib.hid (HU2.out.trans (hbu3.mono HU2.out.size))
      obtain ⟨ao1, cap1, ea1, g1, -⟩ := HA2.out.1.form
      obtain ⟨ao2, cap2, ea2, g2, -⟩ := HA2.out.2.form
      have hmz : MapAt _ _ u3 _ _ kv vv _ _ := Live.below HBO.out.map HU3.out
      obtain ⟨ao3, cap3, ea3, g3, -⟩ := (Live.at1 hmz).ss.form
      dsimp only at ea3
      have hkl3 : (keysL t.flat).length = nf := by unfold keysL; rw [List.length_map, HNS.out.2.2.1]
      rw [hkl3] at ea3
      rw [← HNS.out.1] at ea1
      rw [← HNS.out.2.1] at ea2
      have c3 : u3.cell? ⟨w4.heap.size, 0, none⟩ = some (.slice ao3 nf cap3) := by rw [hmz.x.1.cell, ea3]; rfl
      have hb1 : n1 ≤ 1000 ∧ n2 ≤ 1000 := ⟨by rw [HNS.out.1]; exact HNS.out.2.2.2.1, by rw [HNS.out.2.1]; exact HNS.out.2.2.2.2⟩
      have i1 : IntKind.i64.wrap ((n1 : Int) + n2) = (n1 : Int) + n2 := wrap_small (by omega) (by omega)
      subst ea1 ea2
      clear hmz ea3 hkl3 g1 g2 g3 hbu3
      by_cases hf : fr = ⟨#[]⟩
      ·subst hf
       go_wp2_with fail
       go_ret
       exact ⟨rfl, HBO.out.pb.below.trans (HU3.out.mono HBO.out.pb.below.size)⟩
      ·have hf' : ¬ fr.toList = [] := (fun h => hf (by cases fr with | mk d => cases d with | mk dl => rw [Lib.toList_data] at h; exact congrArg _ (congrArg _ h)))
       have hs := HSUM.out hf'
       have hs' : (n1 : Int) + n2 = nf := by omega
       go_wp2_with fail
       all_goals first | (exfalso; omega) | skip
       all_goals
        go_ret
        exact ⟨rfl, HBO.out.pb.below.trans (HU3.out.mono HBO.out.pb.below.size)⟩
 ·by_cases t1 : (60 : Int) < n
  ·go_enter Try.func3, Try.ntmps3
   go_wp2_with fail
   refine (known5_any W).mono ?_
   rintro e w1 ⟨rfl, h1⟩
   go_wp2_with fail
   go_ret
   exact ⟨rfl, h1⟩
  ·by_cases t2 : (50 : Int) < fr.size
   ·go_enter Try.func3, Try.ntmps3
    go_wp2_with fail
    refine (known5_any W).mono ?_
    rintro e w1 ⟨rfl, h1⟩
    go_wp2_with fail
    go_ret
    exact ⟨rfl, h1⟩
   ·have t3 : (50 : Int) < to.size := by omega
    go_enter Try.func3, Try.ntmps3
    go_wp2_with fail
    refine (known5_any W).mono ?_
    rintro e w1 ⟨rfl, h1⟩
    go_wp2_with fail
    go_ret
    exact ⟨rfl, h1⟩
end Go.Proofs.Ytpfjbcfnpfgidaa
