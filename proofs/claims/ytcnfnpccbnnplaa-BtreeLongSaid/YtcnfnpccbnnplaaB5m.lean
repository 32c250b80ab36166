/- top; closed. -/
import Derived.Test.YtcnfnpccbnnplaaB5l
namespace Go.Proofs.Ytcnfnpccbnnplaa
open Go.RowKit Go.Maps
set_option maxRecDepth 100000
set_option linter.unusedVariables false

/-- closed: a transaction is open. -/
theorem closed_no {w0 w : World} {X : Nat → Prop} {r p N M c : Nat} {G H : Lg} (h : Pb w0 w X r p N M c G (some H)) :
    Calls Try.prog 71 #[.pointer (some ⟨p, 0, none⟩)] w fun e w' => e = .returned (.int .i64 0) ∧ Pb w0 w' X r p N M c G (some H) ∧ Mx w0 X w w' := by
  have hs := pb_setroot (-1) (by decide) h
  rw [if_neg (by decide), show lgRoot (some H) (-1) = 1 from rfl] at hs
  have HS := Lib.hid hs
  clear h hs
  go_enter Try.func71, Try.ntmps71
  go_wp2_with fail
  refine HS.out.mono ?_
  rintro e w1 ⟨rfl, h1, hm⟩
  have H1 := Lib.hid h1
  have HM := Lib.hid hm
  clear h1 hm HS
  go_wp2_with fail
  go_ret
  exact ⟨rfl, H1.out, HM.out⟩

set_option maxHeartbeats 4000000 in
/-- top, where the root has not one kid alone. -/
theorem top_one {w0 w : World} {X : Nat → Prop} {r p N M c : Nat} {G H : Lg} (h : Pb w0 w X r p N M c G (some H)) (at' lvl : Int) (v : Value) (es : List Ent) (hes : Ens w v es) (hv : ∀ g, v.ownBlock = some g → g < w0.heap.size ∨ X g) (hn : es.length ≤ 9000) (hok : ∀ e ∈ es, EntOk e)
    (hk : lvl = 0 ∨ es.length ≠ 1) (hl0 : 0 ≤ lvl) (hl : lvl ≤ 11) (hus : lgUsed N H at') (hwf : (Lit.int .i64 at').wf = true)
    (hfit : ∀ ls, EvenOf lvl es ls → ls.length ≤ 1 + H.free.length ∧ ∀ l ∈ ls, PartOk lvl l)
    (hone : ∀ ls, EvenOf lvl es ls → ls.length = 1) (hc : c + 200000 < 500000) :
    Calls Try.prog 95 #[.pointer (some ⟨p, 0, none⟩), nodeV at' lvl v] w fun e w' => ∃ (ls : List (List Ent)) (c' : Nat), EvenOf lvl es ls ∧ e = .returned (.tuple #[.int .i64 at', .int .i64 0]) ∧ c' ≤ c + 200000 ∧ Pb w0 w' X r p N M c' G (some (layH lvl [at'] ls H 1)) ∧ Mx w0 X w w' := by
  obtain ⟨ao, cap, rfl, hc1, hc2⟩ := hes.form
  obtain ⟨n, hn'⟩ : ∃ n, n = es.length := ⟨_, rfl⟩
  have hal : Below w.heap.size w (w.alloc (.cells #[.int .i64 at', .int .i64 lvl, .slice ao n cap] 111)) := (Below.refl _ w).alloc (Nat.le_refl _) _
  have hb := Blk.new w #[.int .i64 at', .int .i64 lvl, .slice ao n cap] 111
  have hsz : (w.alloc (.cells #[.int .i64 at', .int .i64 lvl, .slice ao n cap] 111)).heap.size = w.heap.size + 1 := by simp
  obtain ⟨w1, hw1⟩ : ∃ w1, w1 = w.alloc (.cells #[.int .i64 at', .int .i64 lvl, .slice ao n cap] 111) := ⟨_, rfl⟩
  rw [← hw1] at hal hb hsz
  have HN := Lib.hid hn'
  rw [← hn'] at hes hv hc1 ⊢
  have a0 : w1.cell? ⟨w.heap.size, 0, none⟩ = some (.int .i64 at') := by rw [hb.cell]; rfl
  have a1 : w1.cell? ⟨w.heap.size, 1, none⟩ = some (.int .i64 lvl) := by rw [hb.cell]; rfl
  have a2 : w1.cell? ⟨w.heap.size, 2, none⟩ = some (.slice ao n cap) := by rw [hb.cell]; rfl
  have hki := fun w => kids_any at' lvl ao n cap (by omega) w
  have hkn : (if lvl = 0 then 0 else (n : Int)) ≠ 1 := by
    rcases hk with e | e
    · rw [if_pos e]; decide
    · split
      · decide
      · omega
  obtain ⟨kq, hkq⟩ : ∃ kq : Int, kq = if lvl = 0 then 0 else (n : Int) := ⟨_, rfl⟩
  rw [← hkq] at hkn
  have HKI := Lib.hid (show ∀ w, Calls Try.prog 73 #[nodeV at' lvl (.slice ao n cap)] w fun e w' => e = .returned (.int .i64 kq) ∧ Below w.heap.size w w' by rw [hkq]; exact hki)
  have HES := Lib.hid (Ens.below hes hal)
  have HV := Lib.hid hv
  have HP := Lib.hid (h.take hal)
  have HPB := Lib.hid h.below.size
  have HBK := Lib.hid hb
  have HW1 := Lib.hid hw1
  have HAL := Lib.hid hal
  have HSZ := Lib.hid hsz
  have HOK := Lib.hid hok
  have HUS := Lib.hid hus
  have HFIT := Lib.hid hfit
  have HONE := Lib.hid hone
  have HWF := Lib.hid hwf
  have HLT := Lib.hid hb.lt
  unfold nodeV
  rw [hw1] at a0 a1 a2
  clear h hes hv hok hus hfit hone hwf hal hb hw1 hsz hki hkq hk hn'
  go_enter Try.func95, Try.ntmps95
  go_wp2_with fail
  go_step3
  go_wp2_with fail
  refine (HKI.out _).mono ?_
  rintro en w2 ⟨rfl, hb2⟩
  rw [← HW1.out] at hb2
  have HB2 := Lib.hid hb2
  have hbk2 := HBK.out.moved (Moved.of_below hb2 (fun _ => False)) (fun h => h)
  have a0 : w2.cell? ⟨w.heap.size, 0, none⟩ = some (.int .i64 at') := by rw [hbk2.cell]; rfl
  have a1 : w2.cell? ⟨w.heap.size, 1, none⟩ = some (.int .i64 lvl) := by rw [hbk2.cell]; rfl
  have a2 : w2.cell? ⟨w.heap.size, 2, none⟩ = some (.slice ao n cap) := by rw [hbk2.cell]; rfl
  have A1 := Lib.hid a1
  have hal3 : Below w2.heap.size w2 (w2.alloc (.cells #[.int .i64 at', .int .i64 lvl, .slice ao n cap] 111)) := (Below.refl _ w2).alloc (Nat.le_refl _) _
  have hb3 := Blk.new w2 #[.int .i64 at', .int .i64 lvl, .slice ao n cap] 111
  have hs3 : (w2.alloc (.cells #[.int .i64 at', .int .i64 lvl, .slice ao n cap] 111)).heap.size = w2.heap.size + 1 := by simp
  obtain ⟨w3, hw3⟩ : ∃ w3, w3 = w2.alloc (.cells #[.int .i64 at', .int .i64 lvl, .slice ao n cap] 111) := ⟨_, rfl⟩
  rw [← hw3] at hal3 hb3 hs3
  have hb13 : Below w1.heap.size w1 w3 := hb2.trans (hal3.mono hb2.size)
  have HP3 := Lib.hid (HP.out.take hb13)
  have hnds : Nds w3 (fun q => q = w2.heap.size ∨ (Value.slice ao n cap).ownBlock = some q) (.slice (some ⟨w2.heap.size, 0, none⟩) 1 1) [⟨at', lvl, es⟩] := by
    refine ⟨_, 1, rfl, Nat.le_refl _, by decide, fun k hk => ⟨w2.heap.size, 0, rfl, hb3.lt, .inl rfl, .slice ao n cap, ?_⟩⟩
    obtain rfl : k = 0 := by simp at hk; exact hk
    exact ⟨by rw [hb3.cell]; rfl, by rw [hb3.cell]; rfl, by rw [hb3.cell]; rfl, HES.out.below hb13, fun q hq => .inr hq⟩
  have hae : allEs [⟨at', lvl, es⟩] = es := by simp [allEs]
  have hly := lay_any HP3.out _ [⟨at', lvl, es⟩] _ hnds (fun q hq => by
      rcases hq with rfl | hq
      · exact .inr (.inr ⟨hb2.size, by omega⟩)
      · exact (HV.out q hq).imp id (fun h => .inl (.inl h))) (show 0 < 1 by decide) (show 1 ≤ 10 by decide) (by rw [hae, ← HN.out]; rw [← HN.out] at hn; exact hn) (by rw [hae]; exact HOK.out) lvl rfl [at'] rfl (fun a ha => by simp at ha; subst ha; exact HUS.out) (fun a ha => by simp at ha; subst ha; exact HWF.out)
      (by rw [hae]; exact HFIT.out) (fun ls hls => by obtain ⟨m, -, e, -⟩ := hls; rw [e]; exact (partedOf_len _ _ _).2) (by omega)
  rw [hae] at hly
  have HLY := Lib.hid hly
  have HW3 := Lib.hid hw3
  have HB13 := Lib.hid hb13
  clear hb2 hbk2 hal3 hb3 hs3 hw3 hb13 hnds hae hly
  go_wp2_with fail
  rw [← HW3.out]
  refine HLY.out.mono ?_
  rintro en w4 ⟨v4, ls, F, c4, hls, rfl, hc4, hF, hp4, hm4, ho4, hq4⟩
  obtain ⟨nl, hnl⟩ : ∃ nl, nl = ls.length := ⟨_, rfl⟩
  have hkl := kidsOf_len [at'] H ls.length
  obtain ⟨ao4, cap4, rfl, hx4, -⟩ := ho4.form
  rw [hkl, ← hnl] at hx4 ⊢
  have ho4' := ho4
  rw [hkl, ← hnl] at ho4'
  have hm14 : Mx w0 X w w4 := ((Mx.of HAL.out).trans (Mx.of HB13.out)).trans (hm4.mono (fun j hj => ⟨hj.1, fun e => hj.2 (.inl (.inl e))⟩))
  have hlt4 : w.heap.size < w4.heap.size := Nat.lt_of_lt_of_le HLT.out (Nat.le_trans HB13.out.size hm4.size)
  have hcell : w4.cell? ⟨w.heap.size, 1, none⟩ = some (.int .i64 lvl) := by
    have hin : (fun k => (X k ∨ (w.heap.size ≤ k ∧ k < w1.heap.size)) ∨ (w1.heap.size ≤ k ∧ k < w3.heap.size)) w.heap.size := .inl (.inr ⟨Nat.le_refl _, HLT.out⟩)
    have h13 := HB13.out.cell (show (⟨w.heap.size, 1, none⟩ : Addr).block < _ from HLT.out)
    rw [World.cell?_of_block (hm4.block w.heap.size (Nat.lt_of_lt_of_le HLT.out HB13.out.size) (fun e => e.2 hin)), h13, HBK.out.cell]
    rfl
  have hnl1 : 1 ≤ nl := by rw [hnl]; obtain ⟨m, -, e, -⟩ := hls; rw [e]; exact (partedOf_len _ _ _).2
  have hnl9 : nl ≤ 9001 := by
    rw [hnl]; obtain ⟨m, -, e, -⟩ := hls; rw [e]
    have := (partedOf_len lvl m es).1
    omega
  have HLS := Lib.hid hls
  have HNL := Lib.hid hnl
  have HP4 := Lib.hid hp4
  have HM4 := Lib.hid hm14
  have HO4 := Lib.hid ho4'
  have HQ4 := Lib.hid hq4
  rw [hkl, ← hnl] at HQ4
  clear hls hkl hF hp4 hm4 ho4 ho4' hq4 hm14 hlt4 HLY hx4
  have h1 : nl = 1 := by rw [HNL.out]; exact HONE.out ls HLS.out
  have h1' : ¬ (1 : Int) < nl := by omega
  go_wp2_with fail
  go_step3
  go_wp2_with fail
  rw [Exit.noGoto_ret]
  go_ret2
  refine ⟨ls, c4, HLS.out, rfl, by omega, ?_, HM4.out⟩
  have hp := HP4.out.less (X' := X) (fun j hj => .inl (.inl (.inl hj)))
  rw [← HNL.out, h1] at hp
  exact hp
end Go.Proofs.Ytcnfnpccbnnplaa
