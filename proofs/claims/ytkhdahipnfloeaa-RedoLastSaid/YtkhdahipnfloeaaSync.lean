/- Package disk: Sync. -/
import Derived.Test.YtkhdahipnfloeaaWriteW
namespace Go.Proofs.Ytkhdahipnfloeaa
open Go.RowKit
set_option maxRecDepth 100000

def syncErr (s : Dsk) : Int := if s.dead then 13 else deadErr s.step
def Dsk.sync (s : Dsk) : Dsk := if s.dead then s else if s.step.dead then s.step else { s.step with kept := s.now, since := [] }

/-- copy(a, b), two rows of so many texts. -/
theorem step_copy_row {ops : Array Oper} {o : Oper} {a : Act} {w : World} {K : Act → World → Prop} {Q : Exit → Act → World → Prop} {E : Prop} (hgd : o.guard = none) (d x : Operand)
    (ho : o.op = .call { callee := .builtin .copy, args := #[d, x], argTypes := #[53, 53] }) (bd bs n : Nat)
    (hd : a.eval d = .slice (some ⟨bd, 0, none⟩) n n) (hx : a.eval x = .slice (some ⟨bs, 0, none⟩) n n) (old new : List ByteArray) (h1 : old.length = n) (h2 : new.length = n)
    (hbd : Blk w bd (strs old).toArray 9) (hbs : Blk w bs (strs new).toArray 9)
    (h : ∀ w', Blk w' bd (strs new).toArray 9 → Moved (· = bd) w w' → K (a.put o.dst (goInt n)) w') :
    if Region.wanted o (yielded ops a.tmps) = true then Oper.wp Try.prog o a w K Q else E := by
  have hw : Region.wanted o (yielded ops a.tmps) = true := by simp [Region.wanted, hgd]
  rw [if_pos hw]
  have hsz : (Try.prog.info? 9).map (·.size) = some 1 := by kernel_rfl
  have hlen : (strs new).length = n := by simp [strs, h2]
  have hlen' : (strs old).length = n := by simp [strs, h1]
  have hrun := run_copy_row (P := Try.prog) w 53 53 o.type 9 bd 0 n n ⟨bs, 0, none⟩ n n (strs old).toArray 9 (strs new) Try.underlying53 hsz hbd (by simp [hlen])
    (fun j v hj => by rw [show (⟨bs, 0, none⟩ : Addr).add j = ⟨bs, j, none⟩ from by unfold Addr.add; split <;> simp_all, hbs.cell]; simpa using hj) (by simp [hlen, hlen'])
    (fun v hv => by obtain ⟨_, _, rfl⟩ := List.mem_map.1 hv; rfl)
  have e : ((strs old).toArray.toList.take 0 ++ strs new ++ (strs old).toArray.toList.drop (0 + (strs new).length)).toArray = (strs new).toArray := by
    rw [List.take_zero, List.nil_append, List.drop_of_length_le (by simp [hlen, hlen']), List.append_nil]
  rw [e, hlen] at hrun
  unfold Oper.wp
  simp [execOp, ho, resolve, invoke, builtin, hd, hx, hrun, Result.andThen]
  exact h _ (setRow_heap w bd _ _ _ _ hbd) ⟨rfl, rfl, rfl, by simp [World.setRow], fun k _ hk => setRow_other w bd k _ hk⟩

theorem DkAt.emptied {w w' : World} {P : Nat → Prop} {r bn bk : Nat} {sv : Value} {s : Dsk} (h : DkAt w P r bn bk sv s) (b : Nat) (hb : b = bn ∨ b = bk) (l : List ByteArray) (hl : l = s.now ∨ l = s.kept) (h1 : b = bn → l = s.kept) (h2 : b = bk → l = s.now) (hw : Blk w' b (strs l).toArray 9) (hm : Moved (· = b) w w') :
    DkAt (w'.setCell ⟨r, 2, none⟩ (.slice none 0 0)) P r bn bk (.slice none 0 0) { s with now := l, kept := l, since := [] } ∧ Moved P w (w'.setCell ⟨r, 2, none⟩ (.slice none 0 0)) := by
  have hll : l.length = s.now.length := by
    rcases hl with rfl | rfl
    · rfl
    · exact h.len
  have hbr : r ≠ b := by
    rcases hb with rfl | rfl
    · exact h.n1
    · exact h.n2
  have hm2 : Moved (· = r) w' (w'.setCell ⟨r, 2, none⟩ (.slice none 0 0)) := (Moved.refl (· = r) w').setCell ⟨r, 2, none⟩ _ (.inl rfl)
  have hws := hw.moved hm2 (Ne.symm hbr)
  refine ⟨⟨h.n1, h.n2, h.n3, by simp [Value.ownBlock], by simp [Value.ownBlock], by simp [Value.ownBlock], h.p1, h.p2, h.p3, by simp [Value.ownBlock], ?_, ?_, ?_, rfl, ?_, World.ownsRow_nil _ _ _ _, by simp, ?_⟩, ?_⟩
  · have := (Blk.moved h.top hm hbr).set 2 (.slice none 0 0)
    unfold Top
    rw [hll]
    exact this
  · rcases hb with rfl | rfl
    · exact hws
    · rw [h2 rfl]
      exact (h.bnow.moved hm h.n3).moved hm2 (Ne.symm h.n1)
  · rcases hb with rfl | rfl
    · rw [h1 rfl]
      exact (h.bkept.moved hm (Ne.symm h.n3)).moved hm2 (Ne.symm h.n2)
    · exact hws
  · rw [hll]; exact h.most
  · refine ⟨?_, ?_, by simp⟩ <;> (rcases hl with rfl | rfl; exact h.short.1; exact h.short.2.1)
  · refine (hm.mono (P' := P) ?_).trans hm2 ?_
    · rintro j rfl
      rcases hb with rfl | rfl
      · exact h.p2
      · exact h.p3
    · rintro j rfl
      exact .inl h.p1

theorem sync_any (P : Nat → Prop) (r : Nat) (s : Dsk) (w : World) (h : Dk w P r s) (ho : s.ops ≤ 4611686018427387904) (hst : s.stop ≤ 9223372036854775807) :
    Calls Try.prog 25 #[.pointer (some ⟨r, 0, none⟩)] w fun e w' => e = .returned (.int .i64 (syncErr s)) ∧ Dk w' P r s.sync ∧ Moved P w w' := by
  cases hd : s.dead
  · have e0 : deadErr s = 0 := by simp [deadErr, hd]
    cases hd2 : s.step.dead
    · have e1 : syncErr s = 0 := by simp [syncErr, hd, deadErr, hd2]
      have e2 : s.sync = { s.step with kept := s.now, since := [] } := by simp [Dsk.sync, hd, hd2]
      have e3 : deadErr s.step = 0 := by simp [deadErr, hd2]
      rw [e1, e2]
      clear e1 e2 hd hd2
      go_enter Try.func25, Try.ntmps25
      go_wp2
      go_step3
      go_wp2_with (first | (go_at_call 52; refine (power_any P r s _ h).mono ?_; rw [e0]; rintro e _ ⟨rfl, rfl⟩) | (go_at_call 50; refine (step_any P r s _ h ho hst).mono ?_; rw [e3]; rintro e w1 ⟨rfl, hd1, hm1⟩))
      obtain ⟨bn, bk, sv, hA⟩ := hd1
      obtain ⟨c0, c1, c2, -, -, -, cf⟩ := hA.top.cells
      have f2 := cf 2
      have N2 := hA.n2
      have HB := Lib.hid hA.bkept
      have HC := Lib.hid hA.bnow
      have HL := Lib.hid hA.len
      have HT := Lib.hid hA.top
      have HA := Lib.hid hA
      have HM := Lib.hid hm1
      clear cf hA hm1
      go_region_law (refine step_copy_row rfl (.tmp 15) (.tmp 19) rfl bk bn _ rfl rfl s.step.kept s.step.now HL.out rfl HB.out.drew HC.out.drew ?_; intro w2 hb2 hm2; obtain ⟨-, -, d2, -, -, -, df⟩ := Top.cells (s := s.step) (Blk.moved (Blk.drew HT.out) hm2 N2); have e2 := df 2; clear df)
      all_goals (
        have HZ := HA.out.drew.emptied bk (.inr rfl) s.step.now (.inl rfl) (fun e => absurd e (Ne.symm HA.out.n3)) (fun _ => rfl) hb2 hm2
        have HZ1 := Lib.hid HZ.1
        have HZ2 := Lib.hid (HM.out.drew.trans HZ.2 (fun j hj => .inl hj))
        clear HZ HA HM HT HL HC HB hb2 hm2
        go_wp2
        go_step3
        go_wp2
        rw [Exit.noGoto_ret]
        go_ret
        exact ⟨rfl, ⟨_, _, _, HZ1.out⟩, HZ2.out⟩)
    · have e1 : syncErr s = 13 := by simp [syncErr, hd, deadErr, hd2]
      have e2 : s.sync = s.step := by simp [Dsk.sync, hd, hd2]
      have e3 : deadErr s.step = 13 := by simp [deadErr, hd2]
      rw [e1, e2]
      clear e1 e2 hd hd2
      go_enter Try.func25, Try.ntmps25
      go_wp2_with fail
      refine wp_scope_jumps 0 (fun a' w' => a' = { tmps := #[.pointer (some ⟨r, 0, none⟩), undef, .int .i64 0, .int .i64 13, .pointer (some ⟨r, 0, none⟩), .int .i64 0, .int .i64 0, .bool false, .pointer (some ⟨r, 0, none⟩), .int .i64 13, .int .i64 13, .bool true, undef, undef, undef, undef, undef, undef, undef, undef, undef, undef, undef, undef, undef], defers := [] } ∧ Dk w' P r s.step ∧ Moved P w w') (fun _ _ => 0) rfl ?_ ?_
      · go_wp2_with (first | (go_at_call 52; refine (power_any P r s _ h).mono ?_; rw [e0]; rintro e _ ⟨rfl, rfl⟩) | (go_at_call 50; refine (step_any P r s _ h ho hst).mono ?_; rw [e3]; rintro e w1 ⟨rfl, hd1, hm1⟩))
        go_step3
        exact ⟨rfl, rfl, hd1, hm1⟩
      · rintro a' w' ⟨rfl, hd1, hm1⟩
        go_wp2
        simp only [Exit.jump]
        go_ret
        exact ⟨rfl, hd1, hm1⟩
  · have e0 : deadErr s = 13 := by simp [deadErr, hd]
    have e1 : syncErr s = 13 := by simp [syncErr, hd]
    have e2 : s.sync = s := by simp [Dsk.sync, hd]
    rw [e1, e2]
    clear e1 e2 hd
    go_enter Try.func25, Try.ntmps25
    go_wp2_with fail
    refine wp_scope_jumps 0 (fun a' w' => a' = { tmps := #[.pointer (some ⟨r, 0, none⟩), undef, .int .i64 0, .int .i64 13, .pointer (some ⟨r, 0, none⟩), .int .i64 13, .int .i64 13, .bool true, undef, undef, undef, undef, undef, undef, undef, undef, undef, undef, undef, undef, undef, undef, undef, undef, undef], defers := [] } ∧ w' = w) (fun _ _ => 0) rfl ?_ ?_
    · go_wp2_with (go_at_call 52; refine (power_any P r s _ h).mono ?_; rw [e0]; rintro e _ ⟨rfl, rfl⟩)
      go_step3
      exact ⟨rfl, rfl, rfl⟩
    · rintro a' w' ⟨rfl, rfl⟩
      go_wp2
      simp only [Exit.jump]
      go_ret
      exact ⟨rfl, h, Moved.refl _ _⟩
end Go.Proofs.Ytkhdahipnfloeaa
