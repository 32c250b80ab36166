/- Rs -/
import Derived.Test.YtpfjbcfnpfgidaaKGh
import Derived.Defers
import Derived.Laws.EntriesVeiled
import Derived.Laws.Cover1
import Derived.ScopeJumps
import Derived.OrdersHeld
import Derived.Deep.RegionHeld
namespace Go.Proofs.Ytpfjbcfnpfgidaa
open Go.RowKit Go.Maps
set_option maxRecDepth 100000
set_option linter.unusedVariables false
def keyM (n size : Nat) : List UInt8 := [byteOf ((n : Int) / 256), byteOf n] ++ zeros (size - 2)
theorem Bs.two (w : World) (a b : UInt8) (x y : Value) (hx : vb a = x) (hy : vb b = y) : Bs (w.alloc (.cells #[x, y] 5)) (.slice (some ⟨w.heap.size, 0, none⟩) 2 2) [a, b] := by
 subst hx hy
 exact Blk.bs (l := [a, b]) (Blk.new w #[vb a, vb b] 5) (by simp [maxLen])
set_option maxHeartbeats 4000000 in
theorem key_any (n size : Nat) (hn : n < 65536) (h2 : 2 ≤ size) (h3 : size ≤ 1000) (w : World) :
 Calls Try.prog 15 #[.int .i64 n, .int .i64 size] w fun e w' => e = .returned (.string ⟨(keyM n size).toArray⟩) ∧ Below w.heap.size w w' := by
 obtain ⟨m, hm⟩ : ∃ m : Nat, size = m + 2 := ⟨size - 2, by omega⟩
 subst hm
 have e3 : IntKind.i64.wrap (m : Int) = m := by rw [IntWalk.i64_in _ (by omega)]
 have hmk := fun w => run_make_bytes m m rfl (by omega) w
 have HMK := Lib.hid hmk
 have E3 := Lib.hid e3
 clear hmk e3
 have E1 := Lib.hid (show IntKind.u8.wrap ((n : Int) / 256) = ((n : Int) / 256) by rw [IntKind.wrap_u8]; omega)
 have HCAT := Lib.hid (show ¬ 9223372036854775807 < 2 + (zeros m).length by rw [zeros_length]; omega)
 have E2 := Lib.hid (show IntKind.u8.wrap (n : Int) = ((n : Int) % 256) by rw [IntKind.wrap_u8])
 have VB1 := Lib.hid (show vb (byteOf ((n : Int) / 256)) = .int .u8 ((n : Int) / 256) by rw [vb_byteOf, Int.emod_eq_of_lt (by omega) (by omega)])
 have VB2 := Lib.hid (show vb (byteOf n) = .int .u8 ((n : Int) % 256) by rw [vb_byteOf])
 have KEYEQ : Hid (Ending.returned (.string (⟨([byteOf ((n : Int) / 256), byteOf n] : List UInt8).toArray⟩ ++ ⟨(zeros m).toArray⟩)) = Ending.returned (.string ⟨(keyM n (m + 2)).toArray⟩)) := Lib.hid (by
  unfold keyM
  rw [Nat.add_sub_cancel]
  rfl)
 have hb0 : Below w.heap.size w w.drew := (Below.refl _ w).drew
 go_enter Try.func15, Try.ntmps15
 go_wp2_with fail
 refine wp_region_any (by kernel_rfl) ?_
 change wpAny _ _ _ _ _ _ _ (World.drew _)
 refine wpAny_of_held (S := fun (_ : World) => True) _ _ _ _ ?_
 have hS : (fun (_ : World) => True) (World.drew w) := trivial
 generalize World.drew w = v0 at hb0 hS ⊢
 try simp only [Act.put, List.setIfInBounds_toArray, List.set_cons_zero, List.set_cons_succ]
 refine wpAnyH_take (i := 0) (oi := ⟨some 5, _, _, _, _, _⟩) (v := ?_) rfl (by kernel_rfl) (by kernel_rfl) (by kernel_rfl) (fun _ _ _ h => h) (Or.inl ⟨by simp only [Region.wanted], ?_⟩) hS ?_
 rotate_left
 ·intro wz hSw
  clear hSw
  go_simp
  first | done | with_reducible rfl
 try simp only [Act.put, List.setIfInBounds_toArray, List.set_cons_zero, List.set_cons_succ]
 refine wpAnyH_take (i := 1) (oi := ⟨some 6, _, _, _, _, _⟩) (v := ?_) rfl (by kernel_rfl) (by kernel_rfl) (by kernel_rfl) (fun _ _ _ h => h) (Or.inl ⟨by simp only [Region.wanted], ?_⟩) hS ?_
 rotate_left
 ·intro wz hSw
  clear hSw
  go_simp
  first | done | with_reducible rfl
 try simp only [Act.put, List.setIfInBounds_toArray, List.set_cons_zero, List.set_cons_succ]
 refine wpAnyH_take (i := 2) (oi := ⟨some 7, _, _, _, _, _⟩) (v := ?_) rfl (by kernel_rfl) (by kernel_rfl) (by kernel_rfl) (fun _ _ _ h => h) (Or.inl ⟨by simp only [Region.wanted], ?_⟩) hS ?_
 rotate_left
 ·intro wz hSw; have hn1 := E1.out
  clear hSw
  go_simp
  first | done | with_reducible rfl
 try simp only [Act.put, List.setIfInBounds_toArray, List.set_cons_zero, List.set_cons_succ]
 refine wpAnyH_take (i := 3) (oi := ⟨some 8, _, _, _, _, _⟩) (v := ?_) rfl (by kernel_rfl) (by kernel_rfl) (by kernel_rfl) (fun _ _ _ h => h) (Or.inl ⟨by simp only [Region.wanted], ?_⟩) hS ?_
 rotate_left
 ·intro wz hSw
  clear hSw
  go_simp
  first | done | with_reducible rfl
 try simp only [Act.put, List.setIfInBounds_toArray, List.set_cons_zero, List.set_cons_succ]
 refine wpAnyH_take (i := 4) (oi := ⟨some 9, _, _, _, _, _⟩) (v := ?_) rfl (by kernel_rfl) (by kernel_rfl) (by kernel_rfl) (fun _ _ _ h => h) (Or.inl ⟨by simp only [Region.wanted], ?_⟩) hS ?_
 rotate_left
 ·intro wz hSw; have hn2 := E2.out
  clear hSw
  go_simp
  first | done | with_reducible rfl
 try simp only [Act.put, List.setIfInBounds_toArray, List.set_cons_zero, List.set_cons_succ]
 refine wpAnyH_take (i := 7) (oi := ⟨some 12, _, _, _, _, _⟩) (v := ?_) rfl (by kernel_rfl) (by kernel_rfl) (by kernel_rfl) (fun _ _ _ h => h) (Or.inl ⟨by simp only [Region.wanted], ?_⟩) hS ?_
 rotate_left
 ·intro wz hSw
  clear hSw
  go_simp
  first | done | with_reducible rfl
 try simp only [Act.put, List.setIfInBounds_toArray, List.set_cons_zero, List.set_cons_succ]
 refine wpAnyH_take (i := 8) (oi := ⟨some 13, _, _, _, _, _⟩) (v := ?_) rfl (by kernel_rfl) (by kernel_rfl) (by kernel_rfl) (fun _ _ _ h => h) (Or.inl ⟨by simp only [Region.wanted], ?_⟩) hS ?_
 rotate_left
 ·intro wz hSw; have e3 := E3.out
  clear hSw
  go_simp
  first | done | with_reducible rfl
 try simp only [Act.put, List.setIfInBounds_toArray, List.set_cons_zero, List.set_cons_succ]
 refine wpAnyH_ready (rs := [5, 9]) (by kernel_rfl) (by simp) ?_
 refine AllReadyH.cons (o := ⟨some 10, _, _, _, _, _⟩) rfl (fun K hK => ?_) (AllReadyH.cons (o := ⟨some 14, _, _, _, _, _⟩) rfl (fun K hK => ?_) (AllReadyH.nil))
 ·have hn1 := E1.out
  go_simp
  clear hn1
  have hbA := Bs.two v0 _ _ _ _ VB1.out VB2.out
  have hal1 : Below w.heap.size w (World.alloc v0 (.cells #[.int .u8 ((n : Int) / 256), .int .u8 ((n : Int) % 256)] 5)) := hb0.alloc hb0.size _
  generalize World.alloc v0 _ = v1 at hal1 hbA ⊢
  refine hK.out _ _ trivial (fun hS => ?_)
  clear hK K
  try simp only [Act.put, List.setIfInBounds_toArray, List.set_cons_zero, List.set_cons_succ]
  refine wpAnyH_ready (rs := [6, 9]) (by kernel_rfl) (by simp) ?_
  refine AllReadyH.cons (o := ⟨some 11, _, _, _, _, _⟩) rfl (fun K hK => ?_) (AllReadyH.cons (o := ⟨some 14, _, _, _, _, _⟩) rfl (fun K hK => ?_) (AllReadyH.nil))
  ·have hcv := run_conv_bytes hbA
   go_simp
   clear hcv hbA
   refine hK.out _ _ trivial (fun hS => ?_)
   clear hK K
   try simp only [Act.put, List.setIfInBounds_toArray, List.set_cons_zero, List.set_cons_succ]
   refine wpAnyH_ready (rs := [9]) (by kernel_rfl) (by simp) ?_
   refine AllReadyH.cons (o := ⟨some 14, _, _, _, _, _⟩) rfl (fun K hK => ?_) (AllReadyH.nil)
   ·have e3 := E3.out
    have hmk := HMK.out
    go_simp
    clear e3 hmk
    have hbB : Bs (World.alloc v1 (.cells (vbs (zeros m)).toArray 5)) (.slice (some ⟨v1.heap.size, 0, none⟩) m m) (zeros m) := by
     have := Blk.bs (Blk.new v1 (vbs (zeros m)).toArray 5) (by rw [zeros_length]; unfold maxLen; omega)
     rwa [zeros_length] at this
    have hal2 : Below w.heap.size w (World.alloc v1 (.cells (vbs (zeros m)).toArray 5)) := hal1.alloc hal1.size _
    generalize World.alloc v1 _ = v2 at hal2 hbB ⊢
    refine hK.out _ _ trivial (fun hS => ?_)
    clear hK K
    try simp only [Act.put, List.setIfInBounds_toArray, List.set_cons_zero, List.set_cons_succ]
    refine wpAnyH_ready (rs := [10]) (by kernel_rfl) (by simp) ?_
    refine AllReadyH.cons (o := ⟨some 15, _, _, _, _, _⟩) rfl (fun K hK => ?_) (AllReadyH.nil)
    ·have hcv := run_conv_bytes hbB
     go_simp
     clear hcv hbB
     refine hK.out _ _ trivial (fun hS => ?_)
     clear hK K
     try simp only [Act.put, List.setIfInBounds_toArray, List.set_cons_zero, List.set_cons_succ]
     refine wpAnyH_take (i := 11) (oi := ⟨some 16, _, _, _, _, _⟩) (v := ?_) rfl (by kernel_rfl) (by kernel_rfl) (by kernel_rfl) (fun _ _ _ h => h) (Or.inl ⟨by simp only [Region.wanted], ?_⟩) hS ?_
     rotate_left
     ·intro wz hSw; have hcat := HCAT.out
      clear hSw
      go_simp
      first | done | with_reducible rfl
     try simp only [Act.put, List.setIfInBounds_toArray, List.set_cons_zero, List.set_cons_succ]
     refine wpAnyH_take (i := 12) (oi := ⟨some 4, _, _, _, _, _⟩) (v := ?_) rfl (by kernel_rfl) (by kernel_rfl) (by kernel_rfl) (fun _ _ _ h => h) (Or.inl ⟨by simp only [Region.wanted], ?_⟩) hS ?_
     rotate_left
     ·intro wz hSw
      clear hSw
      go_simp
      first | done | with_reducible rfl
     try simp only [Act.put, List.setIfInBounds_toArray, List.set_cons_zero, List.set_cons_succ]
     refine wpAnyH_done (by kernel_rfl) ?_ _
     go_wp2_with fail
     go_ret
     exact ⟨KEYEQ.out, hal2⟩
  ·have e3 := E3.out
   have hmk := HMK.out
   go_simp
   clear e3 hmk
   have hbB : Bs (World.alloc v1 (.cells (vbs (zeros m)).toArray 5)) (.slice (some ⟨v1.heap.size, 0, none⟩) m m) (zeros m) := by
    have := Blk.bs (Blk.new v1 (vbs (zeros m)).toArray 5) (by rw [zeros_length]; unfold maxLen; omega)
    rwa [zeros_length] at this
   replace hbA := hbA.below ((Below.refl _ v1).alloc (Nat.le_refl _) (.cells (vbs (zeros m)).toArray 5))
   have hal2 : Below w.heap.size w (World.alloc v1 (.cells (vbs (zeros m)).toArray 5)) := hal1.alloc hal1.size _
   generalize World.alloc v1 _ = v2 at hal2 hbA hbB ⊢
   refine hK.out _ _ trivial (fun hS => ?_)
   clear hK K
   try simp only [Act.put, List.setIfInBounds_toArray, List.set_cons_zero, List.set_cons_succ]
   refine wpAnyH_ready (rs := [6, 10]) (by kernel_rfl) (by simp) ?_
   refine AllReadyH.cons (o := ⟨some 11, _, _, _, _, _⟩) rfl (fun K hK => ?_) (AllReadyH.cons (o := ⟨some 15, _, _, _, _, _⟩) rfl (fun K hK => ?_) (AllReadyH.nil))
   ·have hcv := run_conv_bytes hbA
    go_simp
    clear hcv hbA
    refine hK.out _ _ trivial (fun hS => ?_)
    clear hK K
    try simp only [Act.put, List.setIfInBounds_toArray, List.set_cons_zero, List.set_cons_succ]
    refine wpAnyH_ready (rs := [10]) (by kernel_rfl) (by simp) ?_
    refine AllReadyH.cons (o := ⟨some 15, _, _, _, _, _⟩) rfl (fun K hK => ?_) (AllReadyH.nil)
    ·have hcv := run_conv_bytes hbB
     go_simp
     clear hcv hbB
     refine hK.out _ _ trivial (fun hS => ?_)
     clear hK K
     try simp only [Act.put, List.setIfInBounds_toArray, List.set_cons_zero, List.set_cons_succ]
     refine wpAnyH_take (i := 11) (oi := ⟨some 16, _, _, _, _, _⟩) (v := ?_) rfl (by kernel_rfl) (by kernel_rfl) (by kernel_rfl) (fun _ _ _ h => h) (Or.inl ⟨by simp only [Region.wanted], ?_⟩) hS ?_
     rotate_left
     ·intro wz hSw; have hcat := HCAT.out
      clear hSw
      go_simp
      first | done | with_reducible rfl
     try simp only [Act.put, List.setIfInBounds_toArray, List.set_cons_zero, List.set_cons_succ]
     refine wpAnyH_take (i := 12) (oi := ⟨some 4, _, _, _, _, _⟩) (v := ?_) rfl (by kernel_rfl) (by kernel_rfl) (by kernel_rfl) (fun _ _ _ h => h) (Or.inl ⟨by simp only [Region.wanted], ?_⟩) hS ?_
     rotate_left
     ·intro wz hSw
      clear hSw
      go_simp
      first | done | with_reducible rfl
     try simp only [Act.put, List.setIfInBounds_toArray, List.set_cons_zero, List.set_cons_succ]
     refine wpAnyH_done (by kernel_rfl) ?_ _
     go_wp2_with fail
     go_ret
     exact ⟨KEYEQ.out, hal2⟩
   ·have hcv := run_conv_bytes hbB
    go_simp
    clear hcv hbB
    refine hK.out _ _ trivial (fun hS => ?_)
    clear hK K
    try simp only [Act.put, List.setIfInBounds_toArray, List.set_cons_zero, List.set_cons_succ]
    refine wpAnyH_ready (rs := [6]) (by kernel_rfl) (by simp) ?_
    refine AllReadyH.cons (o := ⟨some 11, _, _, _, _, _⟩) rfl (fun K hK => ?_) (AllReadyH.nil)
    ·have hcv := run_conv_bytes hbA
     go_simp
     clear hcv hbA
     refine hK.out _ _ trivial (fun hS => ?_)
     clear hK K
     try simp only [Act.put, List.setIfInBounds_toArray, List.set_cons_zero, List.set_cons_succ]
     refine wpAnyH_take (i := 11) (oi := ⟨some 16, _, _, _, _, _⟩) (v := ?_) rfl (by kernel_rfl) (by kernel_rfl) (by kernel_rfl) (fun _ _ _ h => h) (Or.inl ⟨by simp only [Region.wanted], ?_⟩) hS ?_
     rotate_left
     ·intro wz hSw; have hcat := HCAT.out
      clear hSw
      go_simp
      first | done | with_reducible rfl
     try simp only [Act.put, List.setIfInBounds_toArray, List.set_cons_zero, List.set_cons_succ]
     refine wpAnyH_take (i := 12) (oi := ⟨some 4, _, _, _, _, _⟩) (v := ?_) rfl (by kernel_rfl) (by kernel_rfl) (by kernel_rfl) (fun _ _ _ h => h) (Or.inl ⟨by simp only [Region.wanted], ?_⟩) hS ?_
     rotate_left
     ·intro wz hSw
      clear hSw
      go_simp
      first | done | with_reducible rfl
     try simp only [Act.put, List.setIfInBounds_toArray, List.set_cons_zero, List.set_cons_succ]
     refine wpAnyH_done (by kernel_rfl) ?_ _
     go_wp2_with fail
     go_ret
     exact ⟨KEYEQ.out, hal2⟩
 ·have e3 := E3.out
  have hmk := HMK.out
  go_simp
  clear e3 hmk
  have hbB : Bs (World.alloc v0 (.cells (vbs (zeros m)).toArray 5)) (.slice (some ⟨v0.heap.size, 0, none⟩) m m) (zeros m) := by
   have := Blk.bs (Blk.new v0 (vbs (zeros m)).toArray 5) (by rw [zeros_length]; unfold maxLen; omega)
   rwa [zeros_length] at this
  have hal1 : Below w.heap.size w (World.alloc v0 (.cells (vbs (zeros m)).toArray 5)) := hb0.alloc hb0.size _
  generalize World.alloc v0 _ = v1 at hal1 hbB ⊢
  refine hK.out _ _ trivial (fun hS => ?_)
  clear hK K
  try simp only [Act.put, List.setIfInBounds_toArray, List.set_cons_zero, List.set_cons_succ]
  refine wpAnyH_ready (rs := [5, 10]) (by kernel_rfl) (by simp) ?_
  refine AllReadyH.cons (o := ⟨some 10, _, _, _, _, _⟩) rfl (fun K hK => ?_) (AllReadyH.cons (o := ⟨some 15, _, _, _, _, _⟩) rfl (fun K hK => ?_) (AllReadyH.nil))
  ·have hn1 := E1.out
   go_simp
   clear hn1
   have hbA := Bs.two v1 _ _ _ _ VB1.out VB2.out
   replace hbB := hbB.below ((Below.refl _ v1).alloc (Nat.le_refl _) (.cells #[.int .u8 ((n : Int) / 256), .int .u8 ((n : Int) % 256)] 5))
   have hal2 : Below w.heap.size w (World.alloc v1 (.cells #[.int .u8 ((n : Int) / 256), .int .u8 ((n : Int) % 256)] 5)) := hal1.alloc hal1.size _
   generalize World.alloc v1 _ = v2 at hal2 hbB hbA ⊢
   refine hK.out _ _ trivial (fun hS => ?_)
   clear hK K
   try simp only [Act.put, List.setIfInBounds_toArray, List.set_cons_zero, List.set_cons_succ]
   refine wpAnyH_ready (rs := [6, 10]) (by kernel_rfl) (by simp) ?_
   refine AllReadyH.cons (o := ⟨some 11, _, _, _, _, _⟩) rfl (fun K hK => ?_) (AllReadyH.cons (o := ⟨some 15, _, _, _, _, _⟩) rfl (fun K hK => ?_) (AllReadyH.nil))
   ·have hcv := run_conv_bytes hbA
    go_simp
    clear hcv hbA
    refine hK.out _ _ trivial (fun hS => ?_)
    clear hK K
    try simp only [Act.put, List.setIfInBounds_toArray, List.set_cons_zero, List.set_cons_succ]
    refine wpAnyH_ready (rs := [10]) (by kernel_rfl) (by simp) ?_
    refine AllReadyH.cons (o := ⟨some 15, _, _, _, _, _⟩) rfl (fun K hK => ?_) (AllReadyH.nil)
    ·have hcv := run_conv_bytes hbB
     go_simp
     clear hcv hbB
     refine hK.out _ _ trivial (fun hS => ?_)
     clear hK K
     try simp only [Act.put, List.setIfInBounds_toArray, List.set_cons_zero, List.set_cons_succ]
     refine wpAnyH_take (i := 11) (oi := ⟨some 16, _, _, _, _, _⟩) (v := ?_) rfl (by kernel_rfl) (by kernel_rfl) (by kernel_rfl) (fun _ _ _ h => h) (Or.inl ⟨by simp only [Region.wanted], ?_⟩) hS ?_
     rotate_left
     ·intro wz hSw; have hcat := HCAT.out
      clear hSw
      go_simp
      first | done | with_reducible rfl
     try simp only [Act.put, List.setIfInBounds_toArray, List.set_cons_zero, List.set_cons_succ]
     refine wpAnyH_take (i := 12) (oi := ⟨some 4, _, _, _, _, _⟩) (v := ?_) rfl (by kernel_rfl) (by kernel_rfl) (by kernel_rfl) (fun _ _ _ h => h) (Or.inl ⟨by simp only [Region.wanted], ?_⟩) hS ?_
     rotate_left
     ·intro wz hSw
      clear hSw
      go_simp
      first | done | with_reducible rfl
     try simp only [Act.put, List.setIfInBounds_toArray, List.set_cons_zero, List.set_cons_succ]
     refine wpAnyH_done (by kernel_rfl) ?_ _
     go_wp2_with fail
     go_ret
     exact ⟨KEYEQ.out, hal2⟩
   ·have hcv := run_conv_bytes hbB
    go_simp
    clear hcv hbB
    refine hK.out _ _ trivial (fun hS => ?_)
    clear hK K
    try simp only [Act.put, List.setIfInBounds_toArray, List.set_cons_zero, List.set_cons_succ]
    refine wpAnyH_ready (rs := [6]) (by kernel_rfl) (by simp) ?_
    refine AllReadyH.cons (o := ⟨some 11, _, _, _, _, _⟩) rfl (fun K hK => ?_) (AllReadyH.nil)
    ·have hcv := run_conv_bytes hbA
     go_simp
     clear hcv hbA
     refine hK.out _ _ trivial (fun hS => ?_)
     clear hK K
     try simp only [Act.put, List.setIfInBounds_toArray, List.set_cons_zero, List.set_cons_succ]
     refine wpAnyH_take (i := 11) (oi := ⟨some 16, _, _, _, _, _⟩) (v := ?_) rfl (by kernel_rfl) (by kernel_rfl) (by kernel_rfl) (fun _ _ _ h => h) (Or.inl ⟨by simp only [Region.wanted], ?_⟩) hS ?_
     rotate_left
     ·intro wz hSw; have hcat := HCAT.out
      clear hSw
      go_simp
      first | done | with_reducible rfl
     try simp only [Act.put, List.setIfInBounds_toArray, List.set_cons_zero, List.set_cons_succ]
     refine wpAnyH_take (i := 12) (oi := ⟨some 4, _, _, _, _, _⟩) (v := ?_) rfl (by kernel_rfl) (by kernel_rfl) (by kernel_rfl) (fun _ _ _ h => h) (Or.inl ⟨by simp only [Region.wanted], ?_⟩) hS ?_
     rotate_left
     ·intro wz hSw
      clear hSw
      go_simp
      first | done | with_reducible rfl
     try simp only [Act.put, List.setIfInBounds_toArray, List.set_cons_zero, List.set_cons_succ]
     refine wpAnyH_done (by kernel_rfl) ?_ _
     go_wp2_with fail
     go_ret
     exact ⟨KEYEQ.out, hal2⟩
  ·have hcv := run_conv_bytes hbB
   go_simp
   clear hcv hbB
   refine hK.out _ _ trivial (fun hS => ?_)
   clear hK K
   try simp only [Act.put, List.setIfInBounds_toArray, List.set_cons_zero, List.set_cons_succ]
   refine wpAnyH_ready (rs := [5]) (by kernel_rfl) (by simp) ?_
   refine AllReadyH.cons (o := ⟨some 10, _, _, _, _, _⟩) rfl (fun K hK => ?_) (AllReadyH.nil)
   ·have hn1 := E1.out
    go_simp
    clear hn1
    have hbA := Bs.two v1 _ _ _ _ VB1.out VB2.out
    have hal2 : Below w.heap.size w (World.alloc v1 (.cells #[.int .u8 ((n : Int) / 256), .int .u8 ((n : Int) % 256)] 5)) := hal1.alloc hal1.size _
    generalize World.alloc v1 _ = v2 at hal2 hbA ⊢
    refine hK.out _ _ trivial (fun hS => ?_)
    clear hK K
    try simp only [Act.put, List.setIfInBounds_toArray, List.set_cons_zero, List.set_cons_succ]
    refine wpAnyH_ready (rs := [6]) (by kernel_rfl) (by simp) ?_
    refine AllReadyH.cons (o := ⟨some 11, _, _, _, _, _⟩) rfl (fun K hK => ?_) (AllReadyH.nil)
    ·have hcv := run_conv_bytes hbA
     go_simp
     clear hcv hbA
     refine hK.out _ _ trivial (fun hS => ?_)
     clear hK K
     try simp only [Act.put, List.setIfInBounds_toArray, List.set_cons_zero, List.set_cons_succ]
     refine wpAnyH_take (i := 11) (oi := ⟨some 16, _, _, _, _, _⟩) (v := ?_) rfl (by kernel_rfl) (by kernel_rfl) (by kernel_rfl) (fun _ _ _ h => h) (Or.inl ⟨by simp only [Region.wanted], ?_⟩) hS ?_
     rotate_left
     ·intro wz hSw; have hcat := HCAT.out
      clear hSw
      go_simp
      first | done | with_reducible rfl
     try simp only [Act.put, List.setIfInBounds_toArray, List.set_cons_zero, List.set_cons_succ]
     refine wpAnyH_take (i := 12) (oi := ⟨some 4, _, _, _, _, _⟩) (v := ?_) rfl (by kernel_rfl) (by kernel_rfl) (by kernel_rfl) (fun _ _ _ h => h) (Or.inl ⟨by simp only [Region.wanted], ?_⟩) hS ?_
     rotate_left
     ·intro wz hSw
      clear hSw
      go_simp
      first | done | with_reducible rfl
     try simp only [Act.put, List.setIfInBounds_toArray, List.set_cons_zero, List.set_cons_succ]
     refine wpAnyH_done (by kernel_rfl) ?_ _
     go_wp2_with fail
     go_ret
     exact ⟨KEYEQ.out, hal2⟩
def hadB (k n step : Nat) : Bool := decide (∃ i, i < n ∧ i * step % 307 = k)
set_option maxHeartbeats 4000000 in
theorem in_any (k n step : Nat) (hn : n ≤ 100000) (hs : step ≤ 1000) (w : World) :
 Calls Try.prog 18 #[.int .i64 k, .int .i64 n, .int .i64 step] w fun e w' => e = .returned (.bool (hadB k n step)) ∧ w' = w := by
 have hmb : ∀ j : Nat, j ≤ n → IntKind.i64.wrap ((j : Int) * step) = (j : Int) * step := fun j hj => by
  have h1 : j * step ≤ 100000 * 1000 := Nat.mul_le_mul (by omega) hs
  have h2 : ((j * step : Nat) : Int) = (j : Int) * step := Int.natCast_mul j step
  rw [IntWalk.i64_in _ (by omega)]
 go_enter Try.func18, Try.ntmps18
 go_wp2_with fail
 go_loopw [7] (fun i wz => ∃ j : Nat, j ≤ n ∧ i = .int .i64 j ∧ wz = w ∧ ∀ t, t < j → t * step % 307 ≠ k) (fun i _ => n - (intOf i).toNat)
 case atStart => exact ⟨0, by omega, rfl, rfl, fun t ht => absurd ht (Nat.not_lt_zero _)⟩
 case round =>
  obtain ⟨j, hj, rfl, rfl, hall⟩ := hrel
  have HALL := Lib.hid hall
  have hm := hmb j hj
  have HMB := Lib.hid hmb
  clear hall hmb
  have hcast : ((j * step % 307 : Nat) : Int) = (j : Int) * step % 307 := by rw [Int.natCast_emod, Int.natCast_mul]; rfl
  have hnn : 0 ≤ (j : Int) * step := by rw [← Int.natCast_mul]; omega
  have htm : ((j : Int) * step).tmod 307 = ((j * step % 307 : Nat) : Int) := by rw [Int.tmod_eq_emod_of_nonneg hnn, hcast]
  by_cases hlt : j < n
  ·have hlt' : (j : Int) < n := by omega
   by_cases he : j * step % 307 = k
   ·have hk : (((j : Int) * step).tmod 307 == (k : Int)) = true := by rw [htm, he]; simp
    clear htm hcast hnn
    go_wp2_with fail
    go_ret
    refine ⟨?_, rfl⟩
    rw [show hadB k n step = true from decide_eq_true ⟨j, hlt, he⟩]; rfl
   ·have hk : (((j : Int) * step).tmod 307 == (k : Int)) = false := by rw [htm]; simp; omega
    clear htm hcast hnn
    go_wp2_with fail
    go_roundw
    case rel =>
     refine ⟨j + 1, by omega, by go_num, trivial, fun t ht => ?_⟩
     by_cases htj : t = j
     ·subst htj; exact he
     ·exact HALL.out t (by omega)
    case measure => simp [intOf]; omega
  ·obtain rfl : j = n := by omega
   clear htm hcast hnn
   go_wp2_with fail
   go_ret
   refine ⟨?_, rfl⟩
   rw [show hadB k j step = false from decide_eq_false (fun ⟨i, hi, e⟩ => HALL.out i hi e)]; rfl
end Go.Proofs.Ytpfjbcfnpfgidaa
