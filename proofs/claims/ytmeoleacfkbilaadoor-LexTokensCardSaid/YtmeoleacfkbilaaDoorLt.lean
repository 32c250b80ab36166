/- Signs: triadref11's text. -/
import Derived.Test.YtmeoleacfkbilaaDoorLs
namespace Go.Proofs.YtmeoleacfkbilaaDoor
open Go.RowKit Go.Shelf
set_option maxRecDepth 100000
set_option linter.unusedVariables false
set_option linter.unusedSimpArgs false
def BackTo (c : UInt8) (w0 : World) (e : Ending) (w' : World) : Prop := ∃ (x : UInt8) (b : Bool), e = .returned (.tuple #[.int .u8 ((x.toNat : Nat) : Int), .bool b]) ∧ w' = w0 ∧ (c ≠ 39 → unL c = if b = true then some x else none)
theorem rback (c : UInt8) (w : World) : Calls Tryd.prog 59 #[.int .u8 c.toNat] w (BackTo c w) := by
  by_cases h116 : c = 116
  · have hb116 : (((c.toNat : Nat) : Int) == 116) = true := by rw [h116]; rfl
    have HH := Lib.hid h116
    clear h116
    go_enter Tryd.func59, Tryd.ntmps59
    go_wp2_with fail
    go_ret2
    unfold BackTo
    refine ⟨9, true, ?_, rfl, fun _ => by rw [HH.out]; rfl⟩
    first | rfl | (rw [HH.out]; rfl)
  by_cases h110 : c = 110
  · have hb110 : (((c.toNat : Nat) : Int) == 110) = true := by rw [h110]; rfl
    have HH := Lib.hid h110
    have hb116 : (((c.toNat : Nat) : Int) == 116) = false := u8_ne 116 rfl h116
    clear h110
    go_enter Tryd.func59, Tryd.ntmps59
    go_wp2_with fail
    go_ret2
    unfold BackTo
    refine ⟨10, true, ?_, rfl, fun _ => by rw [HH.out]; rfl⟩
    first | rfl | (rw [HH.out]; rfl)
  by_cases h114 : c = 114
  · have hb114 : (((c.toNat : Nat) : Int) == 114) = true := by rw [h114]; rfl
    have HH := Lib.hid h114
    have hb116 : (((c.toNat : Nat) : Int) == 116) = false := u8_ne 116 rfl h116
    have hb110 : (((c.toNat : Nat) : Int) == 110) = false := u8_ne 110 rfl h110
    clear h114
    go_enter Tryd.func59, Tryd.ntmps59
    go_wp2_with fail
    go_ret2
    unfold BackTo
    refine ⟨13, true, ?_, rfl, fun _ => by rw [HH.out]; rfl⟩
    first | rfl | (rw [HH.out]; rfl)
  by_cases h34 : c = 34
  · have hb34 : (((c.toNat : Nat) : Int) == 34) = true := by rw [h34]; rfl
    have HH := Lib.hid h34
    have hb116 : (((c.toNat : Nat) : Int) == 116) = false := u8_ne 116 rfl h116
    have hb110 : (((c.toNat : Nat) : Int) == 110) = false := u8_ne 110 rfl h110
    have hb114 : (((c.toNat : Nat) : Int) == 114) = false := u8_ne 114 rfl h114
    clear h34
    go_enter Tryd.func59, Tryd.ntmps59
    go_wp2_with fail
    go_ret2
    unfold BackTo
    refine ⟨34, true, ?_, rfl, fun _ => by rw [HH.out]; rfl⟩
    first | rfl | (rw [HH.out]; rfl)
  by_cases h92 : c = 92
  · have hb92 : (((c.toNat : Nat) : Int) == 92) = true := by rw [h92]; rfl
    have HH := Lib.hid h92
    have hb116 : (((c.toNat : Nat) : Int) == 116) = false := u8_ne 116 rfl h116
    have hb110 : (((c.toNat : Nat) : Int) == 110) = false := u8_ne 110 rfl h110
    have hb114 : (((c.toNat : Nat) : Int) == 114) = false := u8_ne 114 rfl h114
    have hb34 : (((c.toNat : Nat) : Int) == 34) = false := u8_ne 34 rfl h34
    clear h92
    go_enter Tryd.func59, Tryd.ntmps59
    go_wp2_with fail
    go_ret2
    unfold BackTo
    refine ⟨92, true, ?_, rfl, fun _ => by rw [HH.out]; rfl⟩
    first | rfl | (rw [HH.out]; rfl)
  have hb116 : (((c.toNat : Nat) : Int) == 116) = false := u8_ne 116 rfl h116
  have hb110 : (((c.toNat : Nat) : Int) == 110) = false := u8_ne 110 rfl h110
  have hb114 : (((c.toNat : Nat) : Int) == 114) = false := u8_ne 114 rfl h114
  have hb34 : (((c.toNat : Nat) : Int) == 34) = false := u8_ne 34 rfl h34
  have hb92 : (((c.toNat : Nat) : Int) == 92) = false := u8_ne 92 rfl h92
  have HH := Lib.hid (And.intro h116 (And.intro h110 (And.intro h114 (And.intro h34 h92))))
  clear h116 h110 h114 h34 h92
  go_enter Tryd.func59, Tryd.ntmps59
  go_wp2_with fail
  go_ret2
  unfold BackTo
  refine ⟨0, false, rfl, rfl, fun h39 => ?_⟩
  obtain ⟨a1, a2, a3, a4, a5⟩ := HH.out
  unfold unL
  rw [if_neg a1, if_neg a2, if_neg a3, if_neg a4, if_neg h39, if_neg a5]
  rfl
/-- A text's bytes, and the place behind it; 0: there is none. -/
def RTo (o : Option (List UInt8 × List UInt8)) (l : List UInt8) (w0 : World) (e : Ending) (w' : World) : Prop :=
  ∃ (a : ByteArray) (n : Nat), e = .returned (.tuple #[.string a, .int .i64 n]) ∧ Below w0.heap.size w0 w' ∧ (match o with
    | some p => a = ⟨p.1.toArray⟩ ∧ p.2 = l.drop n ∧ 0 < n ∧ n ≤ l.length
    | none => n = 0)
theorem rto_none {l : List UInt8} {w0 w' : World} {o : Option (List UInt8 × List UInt8)} (h : o = none) (hb : Below w0.heap.size w0 w') : RTo o l w0 (.returned (.tuple #[.string ⟨#[]⟩, .int .i64 0])) w' := by
  rw [h]; exact ⟨_, 0, rfl, hb, rfl⟩
theorem drop_get {l : List UInt8} {a k : Nat} (ha : a ≤ k) (h : k < l.length) (h' : k - a < (l.drop a).length) : (l.drop a)[k - a] = l[k] := by
  rw [List.getElem_drop]
  congr 1
  omega
set_option maxHeartbeats 16000000 in
theorem rtext (s : ByteArray) (hs : s.size ≤ 1000000) (i : Nat) (hi : i < s.size) (l : List UInt8) (hl : l = s.data.toList) (hil : i < l.length) (q : UInt8) (hq : l[i] = q) (hqq : q = 34 ∨ q = 39) (w : World) :
    Calls Tryd.prog 36 #[.string s, .int .i64 i] w (RTo (textL11 q (l.drop (i + 1))) l w) := by
  have hsz : s.size = l.length := by rw [hl, Lib.size_eq]
  have hget : ∀ (i : Nat) (h : i < s.size) (h' : i < l.length), s[i]'h = l[i] := fun i h h' => by subst hl; rfl
  have hq10 : q ≠ 10 := by rcases hqq with rfl | rfl <;> decide
  have hq92 : q ≠ 92 := by rcases hqq with rfl | rfl <;> decide
  have HSZ := Lib.hid hsz
  have HGET := Lib.hid hget
  have HQ := Lib.hid (And.intro hq10 hq92)
  have hgq : s[i]'hi = q := by rw [hget i hi hil, hq]
  have hsi : (s.size : Int) ≤ 1000000 := by omega
  obtain ⟨m, hm⟩ : ∃ m, m = l.drop (i + 1) := ⟨_, rfl⟩
  rw [← hm]
  have hml : m.length = l.length - (i + 1) := by rw [hm, List.length_drop]
  have HM := Lib.hid hm
  have HML := Lib.hid hml
  have HMG := Lib.hid (fun k (hk : i + 1 ≤ k) (h : k < l.length) (h' : k - (i + 1) < m.length) => show m[k - (i + 1)] = l[k] from by subst hm; exact drop_get hk h h')
  have HMD := Lib.hid (fun k (hk : i + 1 ≤ k) => show m.drop (k - (i + 1) + 1) = l.drop (k + 1) from by rw [hm, List.drop_drop]; congr 1; omega)
  have hii : (i : Int) < s.size := by omega
  clear hl hsz hget hq hqq hq10 hq92 hm hml
  go_enter Tryd.func36, Tryd.ntmps36
  go_wp2_with fail
  go_loopg [6, 7, 8, 9, 10] (s.size - (i + 1) + 1) (fun g v6 v7 _ _ _ wr => ∃ (k : Nat) (acc : List UInt8) (v : Value), i + 1 ≤ k ∧ k ≤ s.size ∧ v7 = .int .i64 k ∧ v6 = v ∧ acc.length ≤ k ∧ Own wr w.heap.size v acc ∧ TRel q m (k - (i + 1)) false acc ∧ Below w.heap.size w wr ∧ s.size - k < g)
  case atStart => exact ⟨i + 1, [], .slice none 0 0, Nat.le_refl _, by omega, by go_num, rfl, Nat.zero_le _, World.ownsRow_nil _ _ _ _, by rw [Nat.sub_self]; exact TRel.start q m, Below.refl _ _, by omega⟩
  case round =>
    obtain ⟨k, acc, v, hik, hk, rfl, hv, hac, hown, ht, hb, hg⟩ := hrel
    replace hv := hv.symm
    subst hv
    have HO := Lib.hid hown
    have HT := Lib.hid ht
    have HB := Lib.hid hb
    have HA := Lib.hid (And.intro hac hik)
    clear hown ht hb
    by_cases hlt : (k : Int) < s.size
    rotate_left
    · have hN := Lib.hid (HT.out.off (by have := HML.out; have := HSZ.out; omega))
      have hdk : decide (k < s.size) = false := decide_eq_false (by omega)
      have hnk : ¬ k < s.size := by omega
      go_wp2_with fail
      go_quiet (fail)
      have HB := Lib.hid (HB.out.trans ((draws_t wr nq).mono HB.out.size))
      go_wp2_with fail
      go_ret2
      exact rto_none (hN.out) HB.out
    have hkn : k < s.size := by omega
    have hkl : k < l.length := by have := HSZ.out; omega
    have hjm : k - (i + 1) < m.length := by have := HML.out; omega
    obtain ⟨c, hc⟩ : ∃ c, c = l[k] := ⟨_, rfl⟩
    have hgk : s[k]'hkn = c := by rw [hc]; exact HGET.out k hkn hkl
    have HC := Lib.hid (show m[k - (i + 1)] = c from by rw [hc]; exact HMG.out k hik hkl hjm)
    have hk1 : k - (i + 1) + 1 = k + 1 - (i + 1) := by omega
    have HK1 := Lib.hid hk1
    clear hc hk1
    by_cases hcq : c = q
    · have hcqb : (((c.toNat : Nat) : Int) != ((q.toNat : Nat) : Int)) = false := by rw [hcq, bne, beq_self_eq_true]; rfl
      have hcqb2 : (((c.toNat : Nat) : Int) == ((q.toNat : Nat) : Int)) = true := by rw [hcq]; exact beq_self_eq_true _
      have HN := Lib.hid (HT.out.mark hjm (by rw [HC.out, hcq]))
      have hcv := fun n => run_conv_bytes (HO.out.below (draws_t wr n)).bs
      clear hcq
      go_wp2_with fail
      go_quiet (fail)
      go_wp2_with fail
      go_ret2
      unfold RTo
      rw [HN.out]
      exact ⟨_, k + 1, by first | rfl | (push_cast; rfl), HB.out.trans ((draws_t _ _).mono HB.out.size), rfl, HMD.out k hik, by omega, by omega⟩
    have hcqb : (((c.toNat : Nat) : Int) == ((q.toNat : Nat) : Int)) = false := beq_eq_false_iff_ne.2 (fun e => hcq (UInt8.toNat_inj.1 (by omega)))
    have hcqn : (((c.toNat : Nat) : Int) != ((q.toNat : Nat) : Int)) = true := by rw [bne, hcqb]; rfl
    by_cases h10 : c = 10
    · have hb10 : (((c.toNat : Nat) : Int) == 10) = true := by rw [h10]; rfl
      have HN := Lib.hid (HT.out.feed hjm (by rw [HC.out, h10]) HQ.out.1)
      clear hcq h10
      go_wp2_with fail
      go_quiet (fail)
      have HB := Lib.hid (HB.out.trans ((draws_t wr nq).mono HB.out.size))
      go_wp2_with fail
      go_ret2
      exact rto_none (HN.out) HB.out
    have hb10 : (((c.toNat : Nat) : Int) == 10) = false := u8_ne 10 rfl h10
    have HH10 := Lib.hid h10
    have HHQ := Lib.hid hcq
    by_cases h92 : c = 92
    rotate_left
    · have hb92 : (((c.toNat : Nat) : Int) == 92) = false := u8_ne 92 rfl h92
      have HN := Lib.hid (HT.out.plain hjm (by rw [HC.out]; exact hcq) (by rw [HC.out]; exact h10) (by rw [HC.out]; exact h92))
      clear hcq h10 h92
      go_wp2_with fail
      go_quiet (fail)
      have hdr := draws_t wr nq
      have HB := Lib.hid (HB.out.trans (hdr.mono HB.out.size))
      have HO := Lib.hid (HO.out.below hdr)
      clear hdr
      generalize World.drewN wr nq = wr at HB HO ⊢
      have hal : Below wr.heap.size wr (wr.alloc (.cells #[.int .u8 ((c.toNat : Nat) : Int)] 5)) := (Below.refl _ _).alloc (Nat.le_refl _) _
      have HOA := Lib.hid (HO.out.below hal)
      have HBS := Lib.hid (Bs.one wr c (.int .u8 ((c.toNat : Nat) : Int)) rfl)
      have HLN := Lib.hid (show acc.length + [c].length ≤ 140737488355328 by have := HA.out; simp; omega)
      have HBA := Lib.hid (Nat.le_trans HB.out.size hal.size)
      have HAL := Lib.hid hal
      clear hal
      go_wp2_with (at_builtin; refine wpList_append_bytes rfl _ _ rfl w.heap.size v acc rfl HOA.out (.slice (some ⟨wr.heap.size, 0, none⟩) 1 1) [c] rfl HBS.out HLN.out HBA.out ?_; intro v5 w5 ho5 hg5)
      have HO5 := Lib.hid ho5
      have HB5 := Lib.hid (Below.grown (HB.out.trans (HAL.out.mono HB.out.size)) hg5 (Nat.le_trans HB.out.size HAL.out.size) (fun q hq => (HOA.out.lt q hq).1))
      clear ho5 hg5
      go_roundg (s.size - (k + 1) + 1)
      case measure => omega
      case rel => exact ⟨k + 1, acc ++ [c], v5, by omega, by omega, by go_num, rfl, by rw [List.length_append, List.length_singleton]; omega, HO5.out, (by rw [← HK1.out]; have := HN.out; rw [HC.out] at this; exact this), HB5.out, by omega⟩
    have hb92 : (((c.toNat : Nat) : Int) == 92) = true := by rw [h92]; rfl
    have HTB := Lib.hid (HT.out.back hjm (by rw [HC.out, h92]) HQ.out.2)
    clear hcq h10 h92
    by_cases hk1 : (k : Int) + 1 < s.size
    rotate_left
    · have HN := Lib.hid (HTB.out.off (by have := HML.out; have := HSZ.out; omega))
      go_wp2_with fail
      go_quiet (fail)
      have HB := Lib.hid (HB.out.trans ((draws_t wr nq).mono HB.out.size))
      go_wp2_with fail
      go_ret2
      exact rto_none (HN.out) HB.out
    have hk1n : k + 1 < s.size := by omega
    have hk1l : k + 1 < l.length := by have := HSZ.out; omega
    have hj1 : k - (i + 1) + 1 < m.length := by have := HML.out; omega
    obtain ⟨d, hd⟩ : ∃ c, c = l[k + 1] := ⟨_, rfl⟩
    have hgd : s[k + 1]'hk1n = d := by rw [hd]; exact HGET.out (k + 1) hk1n hk1l
    have HD := Lib.hid (show m[k - (i + 1) + 1] = d from by
      rw [hd]
      have := HMG.out (k + 1) (by omega) hk1l (by omega)
      rw [← this]
      congr 1)
    have HBK := Lib.hid (fun w => rback d w)
    have HK2 := Lib.hid (show k - (i + 1) + 1 + 1 = k + 2 - (i + 1) by omega)
    clear hd
    go_wp2_with fail
    go_quiet (fail)
    have hdr := draws_t wr nq
    have HB := Lib.hid (HB.out.trans (hdr.mono HB.out.size))
    have HO := Lib.hid (HO.out.below hdr)
    clear hdr
    generalize World.drewN wr nq = wr at HB HO ⊢
    go_wp2_with fail
    refine (HBK.out _).mono ?_
    intro e w2 hh
    unfold BackTo at hh
    obtain ⟨x, bb, rfl, hw, hun⟩ := hh
    obtain rfl := hw.symm
    have HUN := Lib.hid hun
    clear hw hun
    by_cases h39 : d = 39
    · have hb39 : (((d.toNat : Nat) : Int) == 39) = true := by rw [h39]; rfl
      have HN := Lib.hid (HTB.out.meant hj1 39 (by rw [HD.out, h39]; rfl))
      clear h39
      have hal : Below wr.heap.size wr (wr.alloc (.cells #[.int .u8 39] 5)) := (Below.refl _ _).alloc (Nat.le_refl _) _
      have HOA := Lib.hid (HO.out.below hal)
      have HBS := Lib.hid (Bs.one wr (39 : UInt8) (.int .u8 39) rfl)
      have HLN := Lib.hid (show acc.length + [(39 : UInt8)].length ≤ 140737488355328 by have := HA.out; simp; omega)
      have HBA := Lib.hid (Nat.le_trans HB.out.size hal.size)
      have HAL := Lib.hid hal
      clear hal
      go_wp2_with (at_builtin; refine wpList_append_bytes rfl _ _ rfl w.heap.size v acc rfl HOA.out (.slice (some ⟨wr.heap.size, 0, none⟩) 1 1) [(39 : UInt8)] rfl HBS.out HLN.out HBA.out ?_; intro v5 w5 ho5 hg5)
      have HO5 := Lib.hid ho5
      have HB5 := Lib.hid (Below.grown (HB.out.trans (HAL.out.mono HB.out.size)) hg5 (Nat.le_trans HB.out.size HAL.out.size) (fun q hq => (HOA.out.lt q hq).1))
      clear ho5 hg5
      go_roundg (s.size - (k + 2) + 1)
      case measure => omega
      case rel => exact ⟨k + 2, acc ++ [(39 : UInt8)], v5, by omega, by omega, by go_num, rfl, by rw [List.length_append, List.length_singleton]; omega, HO5.out, (by rw [← HK2.out]; exact HN.out), HB5.out, by omega⟩
    have hb39 : (((d.toNat : Nat) : Int) == 39) = false := u8_ne 39 rfl h39
    cases bb with
    | false =>
      have HN := Lib.hid (HTB.out.bad hj1 (by rw [HD.out, HUN.out h39]; rfl))
      clear h39
      go_wp2_with fail
      go_ret2
      exact rto_none (HN.out) HB.out
    | true =>
      have HN := Lib.hid (HTB.out.meant hj1 x (by rw [HD.out, HUN.out h39]; rfl))
      clear h39
      have hal : Below wr.heap.size wr (wr.alloc (.cells #[.int .u8 ((x.toNat : Nat) : Int)] 5)) := (Below.refl _ _).alloc (Nat.le_refl _) _
      have HOA := Lib.hid (HO.out.below hal)
      have HBS := Lib.hid (Bs.one wr x (.int .u8 ((x.toNat : Nat) : Int)) rfl)
      have HLN := Lib.hid (show acc.length + [x].length ≤ 140737488355328 by have := HA.out; simp; omega)
      have HBA := Lib.hid (Nat.le_trans HB.out.size hal.size)
      have HAL := Lib.hid hal
      clear hal
      go_wp2_with (at_builtin; refine wpList_append_bytes rfl _ _ rfl w.heap.size v acc rfl HOA.out (.slice (some ⟨wr.heap.size, 0, none⟩) 1 1) [x] rfl HBS.out HLN.out HBA.out ?_; intro v5 w5 ho5 hg5)
      have HO5 := Lib.hid ho5
      have HB5 := Lib.hid (Below.grown (HB.out.trans (HAL.out.mono HB.out.size)) hg5 (Nat.le_trans HB.out.size HAL.out.size) (fun q hq => (HOA.out.lt q hq).1))
      clear ho5 hg5
      go_roundg (s.size - (k + 2) + 1)
      case measure => omega
      case rel => exact ⟨k + 2, acc ++ [x], v5, by omega, by omega, by go_num, rfl, by rw [List.length_append, List.length_singleton]; omega, HO5.out, (by rw [← HK2.out]; exact HN.out), HB5.out, by omega⟩
end Go.Proofs.YtmeoleacfkbilaaDoor
