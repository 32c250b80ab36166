/- Package disk: Write, its walk. -/
import Derived.Test.YtkhdahipnfloeaaWrite
namespace Go.Proofs.Ytkhdahipnfloeaa
open Go.RowKit
set_option maxRecDepth 100000

theorem write_any (P : Nat → Prop) (r : Nat) (s : Dsk) (i : Int) (v : Value) (l : List UInt8) (w : World) (h : Dk w P r s) (hb : Bs w v l) (ho : s.ops ≤ 4611686018427387904) (hst : s.stop ≤ 9223372036854775807) (hsl : s.since.length ≤ 1073741824) :
    Calls Try.prog 23 #[.pointer (some ⟨r, 0, none⟩), .int .i64 i, v] w fun e w' =>
      e = .returned (.int .i64 (writeErr s i l)) ∧ ∃ P', Dk w' P' r (s.write i l) ∧ Moved P w w' ∧ ∀ k, P' k → P k ∨ w.heap.size ≤ k := by
  by_cases hf : faultOf s i = 0
  · by_cases hl : (512 : Int) < l.length
    · have e1 : writeErr s i l = 1 := by rw [writeErr, if_neg (by simpa using hf), if_pos (by omega)]
      have e2 : s.write i l = s := by rw [Dsk.write, if_neg (by omega)]
      rw [e1, e2]
      clear e1 e2
      obtain ⟨ao, cap, rfl, hc1, hc2, -⟩ := hb
      have hk := h
      clear h hc1 hc2
      go_enter Try.func23, Try.ntmps23
      go_wp2_with fail
      refine wp_scope_jumps 0 (fun a' w' => a' = { tmps := #[.pointer (some ⟨r, 0, none⟩), .int .i64 i, (.slice ao l.length cap), undef, undef, undef, .int .i64 0, .int .i64 1, .pointer (some ⟨r, 0, none⟩), .int .i64 i, .int .i64 0, .int .i64 0, .bool false, .slice ao l.length cap, .int .i64 (l.length : Int), .bool true, undef, undef, undef, undef, undef, undef, undef, undef, undef, undef, undef, undef, undef, undef, undef, undef, undef, undef, undef, undef, undef, undef, undef, undef, undef, undef, undef, undef, undef], defers := [] } ∧ w' = w) (fun _ _ => 0) rfl ?_ ?_
      · go_wp2_with (go_at_call 49; refine (fault_any P r s i _ hk).mono ?_; rw [hf]; rintro e w' ⟨rfl, rfl⟩)
        go_step3
        exact ⟨rfl, rfl, rfl⟩
      · rintro a' w' ⟨rfl, rfl⟩
        go_wp2
        simp only [Exit.jump]
        go_ret
        exact ⟨rfl, P, hk, Moved.refl _ _, fun _ h => .inl h⟩
    · have e1 : writeErr s i l = deadErr (s.put i.toNat ⟨l.toArray⟩).step := by rw [writeErr, if_neg (by simpa using hf), if_neg (by omega)]
      have e2 : s.write i l = (s.put i.toNat ⟨l.toArray⟩).step := by rw [Dsk.write, if_pos ⟨hf, by omega⟩]
      rw [e1, e2]
      clear e1 e2
      have hk := h
      have hi : 0 ≤ i ∧ i < s.now.length := by
        unfold faultOf at hf
        split at hf
        · simp at hf
        · split at hf
          · assumption
          · simp at hf
      obtain ⟨k, rfl⟩ : ∃ k : Nat, i = k := ⟨i.toNat, by omega⟩
      have hkn : k < s.now.length := by omega
      rw [Int.toNat_natCast]
      obtain ⟨bn, bk, sv, h⟩ := h
      have hmost := h.most
      obtain ⟨x, hx⟩ : ∃ x : ByteArray, x = ⟨l.toArray⟩ := ⟨_, rfl⟩
      have hx2 : x.size ≤ 512 := by rw [hx]; show l.toArray.size ≤ 512; simp; omega
      have hcv : (convert 41 9 v).run Try.prog w.drew = .ok (.string x) w.drew := by rw [hx]; exact run_conv_bytes hb.drew
      rw [← hx]
      have HW := Lib.hid (h.wrote k x hx2)
      obtain ⟨c0, c1, c2, c3, c4, c5, cf⟩ := h.top.cells
      have hcx : w.cell? ⟨bn, k, none⟩ = some (.string s.now[k]) := by rw [h.bnow.cell]; simp [strs, hkn]
      have hfx : w.frozen? ⟨bn, k, none⟩ = false := h.bnow.frozen k
      obtain ⟨ao, cap, rfl, hc1, hc2, -⟩ := hb
      have hc2' : cap ≤ 9223372036854775807 := hc2
      obtain ⟨n, hn⟩ : ∃ n, n = s.now.length := ⟨_, rfl⟩
      rw [← hn] at c0 hkn hmost
      have HN := Lib.hid hn
      clear h hi c1 c2 c3 c4 c5 cf hx hn hc2
      go_enter Try.func23, Try.ntmps23
      go_wp2
      go_step3
      go_wp2_with (go_at_call 49; refine (fault_any P r s k _ hk).mono ?_; rw [hf]; rintro e w' ⟨rfl, rfl⟩)
      go_region
      have HA := HW.out.1.drew
      have HM := Lib.hid HW.out.2.drew
      generalize (World.drew _) = w1 at HA HM ⊢
      clear HW hcx hfx hcv c0 hc1 hc2'
      obtain ⟨c0, -, c2, -, -, -, cf⟩ := HA.top.cells
      have f2 := cf 2
      have c0 : w1.cell? ⟨r, 0, none⟩ = some (.slice (some ⟨bn, 0, none⟩) n n) := by rw [c0, HN.out]; simp
      have hcx : w1.cell? ⟨bn, k, none⟩ = some (.string x) := by rw [HA.bnow.cell]; simp [strs, HN.out ▸ hkn]
      clear cf
      have HR : ∀ o, (w1.alloc o).drew.ownsRow 0 79 2 sv s.since.length (wcells s.since) := fun o => HA.row.alloc o
      have HT : ∀ o, Blk (w1.alloc o).drew r _ 67 := fun o => (Blk.alloc HA.top o).drew
      have HB : ∀ cs, Blk (w1.alloc (.cells cs 79)).drew w1.heap.size cs 79 := fun cs => (Blk.new w1 cs _).drew
      have N4 := HA.n4
      have c2' : ∀ o, (w1.alloc o).cell? ⟨r, 2, none⟩ = some sv := fun o => (Top.cells (s := { s with now := s.now.set k x }) (Blk.alloc HA.top o)).2.2.1
      clear hk hf
      go_wp2
      go_region_law (refine step_since rfl (.tmp 28) (.tmp 38) rfl sv s.since rfl (HR _) _ rfl k x (HB _) hsl ?_; intro g cap w2 ho2 hg2 hat2 hlt2; have hT2 := grown_keep hg2 (HT _) N4; obtain ⟨-, -, d2, -, -, -, df⟩ := Top.cells (s := { s with now := s.now.set k x }) hT2; have e2 := df 2; clear df)
      all_goals (
        have HZ := HA.appended k x hx2 (by simp; omega) g cap _ ho2 (((Moved.refl _ w1).alloc _).drew.grown hg2 (fun q hq => .inl hq)) hat2 (by simp) (Blk.lt HA.top)
        have hw1 : w1.heap.size ≤ (w1.alloc (.cells #[.int .i64 (k : Int), .string x] 79)).drew.heap.size := by simp
        generalize World.heap _ = hp at HZ hw1
        have HS := HM.out.size
        have HZ2 := Lib.hid (HM.out.trans HZ.2 (fun j hj => .inl hj))
        have HZ1 := HZ.1
        clear HZ HA HM c0 c2 f2 hcx N4 ho2 hg2 hat2 hlt2 hT2 d2 e2 HR HT HB c2'
        generalize (World.setCell _ _ _) = w3 at HZ1 HZ2 ⊢
        clear w2
        go_wp2_with fail
        refine (step_any _ r (s.put k x) _ ⟨_, _, _, HZ1⟩ ho hst).mono ?_
        rintro e w4 ⟨rfl, hd4, hm4⟩
        go_wp2
        go_step3
        go_wp2
        rw [Exit.noGoto_ret]
        go_ret
        refine ⟨rfl, _, hd4, HZ2.out.trans hm4 ?_, ?_⟩
        · rintro j (hj | rfl)
          · exact .inl hj
          · exact .inr (Nat.le_trans HS hw1)
        · rintro j (hj | rfl)
          · exact .inl hj
          · exact .inr (Nat.le_trans HS hw1))
  · have e1 : writeErr s i l = faultOf s i := by rw [writeErr, if_pos hf]
    have e2 : s.write i l = s := by rw [Dsk.write, if_neg (fun h => hf h.1)]
    rw [e1, e2]
    clear e1 e2
    obtain ⟨f, hF⟩ : ∃ f, f = faultOf s i := ⟨_, rfl⟩
    have HF := Lib.hid hF
    rw [← hF] at hf ⊢
    clear hF
    have hfb : (f != 0) = true := by simpa using hf
    go_enter Try.func23, Try.ntmps23
    go_wp2_with fail
    refine wp_scope_jumps 0 (fun a' w' => a' = { tmps := #[.pointer (some ⟨r, 0, none⟩), .int .i64 i, v, undef, undef, undef, .int .i64 0, .int .i64 f, .pointer (some ⟨r, 0, none⟩), .int .i64 i, .int .i64 f, .int .i64 f, .bool true, undef, undef, undef, undef, undef, undef, undef, undef, undef, undef, undef, undef, undef, undef, undef, undef, undef, undef, undef, undef, undef, undef, undef, undef, undef, undef, undef, undef, undef, undef, undef, undef], defers := [] } ∧ w' = w) (fun _ _ => 0) rfl ?_ ?_
    · go_wp2_with (go_at_call 49; refine (fault_any P r s i _ h).mono ?_; rw [← HF.out]; rintro e w' ⟨rfl, rfl⟩)
      go_step3
      exact ⟨rfl, rfl, rfl⟩
    · rintro a' w' ⟨rfl, rfl⟩
      go_wp2
      simp only [Exit.jump]
      go_ret
      exact ⟨rfl, P, h, Moved.refl _ _, fun _ h => .inl h⟩
end Go.Proofs.Ytkhdahipnfloeaa
