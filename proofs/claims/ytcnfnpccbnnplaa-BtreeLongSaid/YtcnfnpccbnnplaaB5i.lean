/- has; kids; good. -/
import Derived.Test.YtcnfnpccbnnplaaB5h
namespace Go.Proofs.Ytcnfnpccbnnplaa
open Go.RowKit Go.Maps
set_option maxRecDepth 100000
set_option linter.unusedVariables false

def stepV (i lvl : Int) (v : Value) (k : Int) : Value := .agg #[.int .i64 i, .int .i64 lvl, v, .int .i64 k]

theorem kids_any (i lvl : Int) (ao : Option Addr) (n cap : Nat) (hn : n ≤ 10000) (w : World) :
    Calls Try.prog 73 #[nodeV i lvl (.slice ao n cap)] w fun e w' => e = .returned (.int .i64 (if lvl = 0 then 0 else n)) ∧ Below w.heap.size w w' := by
  have hal : Below w.heap.size w (w.alloc (.cells #[.int .i64 i, .int .i64 lvl, .slice ao n cap] 111)) := (Below.refl _ w).alloc (Nat.le_refl _) _
  have HAL := Lib.hid hal
  clear hal
  unfold nodeV
  by_cases hl : lvl = 0
  · subst hl
    go_enter Try.func73, Try.ntmps73
    go_wp2_with fail
    go_ret
    exact ⟨rfl, HAL.out⟩
  · go_enter Try.func73, Try.ntmps73
    go_wp2_with fail
    go_ret
    exact ⟨rfl, HAL.out⟩

def sizes (lvl : Int) (es : List Ent) : Nat := (es.map (esize lvl)).sum
theorem sizes_snoc (lvl : Int) (es : List Ent) (e : Ent) : sizes lvl (es ++ [e]) = sizes lvl es + esize lvl e := by unfold sizes; simp
theorem esize_le {lvl : Int} {e : Ent} (h : EntOk e) : esize lvl e ≤ 2000003 := by
  unfold esize
  obtain ⟨h1, h2⟩ := h
  split <;> omega
theorem sizes_le {lvl : Int} {M : Nat} : ∀ {es : List Ent}, (∀ e ∈ es, esize lvl e ≤ M) → sizes lvl es ≤ es.length * M
  | [], _ => Nat.zero_le _
  | e :: t, h => by
    have h1 := h e (List.mem_cons_self ..)
    have h2 := sizes_le (es := t) (fun x hx => h x (List.mem_cons_of_mem _ hx))
    show esize lvl e + sizes lvl t ≤ (t.length + 1) * M
    rw [Nat.succ_mul, Nat.add_comm]
    exact Nat.add_le_add h2 h1

/-- has: the entry at the step's place has the key. -/
def hasOf (es : List Ent) (k : Nat) (key : ByteArray) : Bool := match es[k]? with
  | some e => e.key.toList == key.toList
  | none => false

set_option maxHeartbeats 1000000 in
theorem has_any (i lvl : Int) (v : Value) (es : List Ent) (k : Nat) (key : ByteArray) (w : World) (hes : Ens w v es) (hn : es.length ≤ 10000) (hk : k ≤ es.length) :
    Calls Try.prog 64 #[stepV i lvl v k, .string key] w fun e w' => e = .returned (.bool (hasOf es k key)) ∧ Below w.heap.size w w' := by
  obtain ⟨ao, cap, rfl, hc1, hc2⟩ := hes.form
  obtain ⟨n, hn'⟩ : ∃ n, n = es.length := ⟨_, rfl⟩
  have hal : Below w.heap.size w (w.alloc (.cells #[.int .i64 i, .int .i64 lvl, .slice ao n cap, .int .i64 k] 113)) := (Below.refl _ w).alloc (Nat.le_refl _) _
  have hb := Blk.new w #[.int .i64 i, .int .i64 lvl, .slice ao n cap, .int .i64 k] 113
  have HES := Lib.hid hes
  have HN := Lib.hid hn'
  rw [← hn'] at hc1 hn hk HES ⊢
  unfold stepV
  by_cases hlt : k < n
  · have hke : k < es.length := by rw [← hn']; exact hlt
    obtain ⟨b, off, cp, hsl, -, -, hbs, hce⟩ := (hes.below hal).at (by omega)
    rw [← hn'] at hsl
    simp only [Value.slice.injEq, true_and] at hsl
    obtain ⟨rfl, rfl⟩ := hsl
    obtain ⟨d0, d1, d2⟩ := hce k hke
    obtain ⟨e, he⟩ : ∃ y, y = es[k] := ⟨_, rfl⟩
    rw [← he] at d0
    have hh : hasOf es k key = (e.key.toList == key.toList) := by unfold hasOf; rw [List.getElem?_eq_getElem hke, ← he]
    rw [hh]
    have HAL := Lib.hid hal
    have hlt' : (k : Int) < n := by omega
    have a3 : (w.alloc (.cells #[.int .i64 i, .int .i64 lvl, .slice (some ⟨b, off, none⟩) n cap, .int .i64 k] 113)).cell? ⟨w.heap.size, 3, none⟩ = some (.int .i64 k) := by rw [hb.cell]; rfl
    have a2 : (w.alloc (.cells #[.int .i64 i, .int .i64 lvl, .slice (some ⟨b, off, none⟩) n cap, .int .i64 k] 113)).cell? ⟨w.heap.size, 2, none⟩ = some (.slice (some ⟨b, off, none⟩) n cap) := by rw [hb.cell]; rfl
    clear hes hn' hal hb hce d1 d2 he hh hbs
    go_enter Try.func64, Try.ntmps64
    go_wp2_with fail
    go_ret
    exact ⟨rfl, HAL.out⟩
  · have hh : hasOf es k key = false := by unfold hasOf; rw [List.getElem?_eq_none (by omega)]
    rw [hh]
    have HAL := Lib.hid hal
    clear hes hn' hal hb hh
    go_enter Try.func64, Try.ntmps64
    go_wp2_with fail
    go_ret
    exact ⟨rfl, HAL.out⟩

set_option maxHeartbeats 2000000 in
theorem good_any (i lvl : Int) (v : Value) (es : List Ent) (w : World) (hes : Ens w v es) (hn : es.length ≤ 1000) (hok : ∀ e ∈ es, EntOk e) :
    Calls Try.prog 96 #[nodeV i lvl v] w fun e w' => e = .returned (.bool (decide (251 ≤ sizes lvl es) && decide (sizes lvl es ≤ 502))) ∧ Below w.heap.size w w' := by
  obtain ⟨ao, cap, rfl, hc1, hc2⟩ := hes.form
  obtain ⟨n, hn'⟩ : ∃ n, n = es.length := ⟨_, rfl⟩
  have hal : Below w.heap.size w (w.alloc (.cells #[.int .i64 i, .int .i64 lvl, .slice ao n cap] 111)) := (Below.refl _ w).alloc (Nat.le_refl _) _
  have hb := Blk.new w #[.int .i64 i, .int .i64 lvl, .slice ao n cap] 111
  have HN := Lib.hid hn'
  rw [← hn'] at hc1 hn hes ⊢
  obtain ⟨w1, hw1⟩ : ∃ w1, w1 = w.alloc (.cells #[.int .i64 i, .int .i64 lvl, .slice ao n cap] 111) := ⟨_, rfl⟩
  rw [← hw1] at hal hb
  have hes1 : Ens w1 (.slice ao n cap) es := Ens.below hes hal
  have a2 : w1.cell? ⟨w.heap.size, 2, none⟩ = some (.slice ao n cap) := by rw [hb.cell]; rfl
  have a1 : w1.cell? ⟨w.heap.size, 1, none⟩ = some (.int .i64 lvl) := by rw [hb.cell]; rfl
  have HLT := Lib.hid hb.lt
  have A1 := Lib.hid a1
  have HAL := Lib.hid hal
  have HES := Lib.hid hes1
  have HW1 := Lib.hid hw1
  have HOK := Lib.hid hok
  unfold nodeV
  clear hes hn' hal hb hes1 hw1 hok
  go_enter Try.func96, Try.ntmps96
  go_wp2_with fail
  rw [← HW1.out]
  go_loopw [3, 9] (fun s i wr => ∃ k m : Nat, k ≤ n ∧ i = .int .i64 k ∧ s = .int .i64 m ∧ m = sizes lvl (es.take k) ∧ Below w1.heap.size w1 wr) (fun _ i _ => n - (intOf i).toNat)
  case atStart => exact ⟨0, 0, Nat.zero_le _, rfl, rfl, by simp [sizes], Below.refl _ _⟩
  case round =>
    obtain ⟨k, m, hk, rfl, rfl, hm, hb⟩ := hrel
    have hm1 : m ≤ 2000003000 := by
      rw [hm]
      refine Nat.le_trans (sizes_le (M := 2000003) (fun e he => esize_le (HOK.out e (List.mem_of_mem_take he)))) ?_
      have : (es.take k).length ≤ 1000 := by rw [List.length_take]; omega
      omega
    have HM := Lib.hid hm
    have HB := Lib.hid hb
    clear hm hb
    by_cases hlt : k < n
    · have hke : k < es.length := by rw [← HN.out]; exact hlt
      obtain ⟨b, off, cp, hsl, -, -, hbs, hce⟩ := (HES.out.below HB.out).at (by omega)
      rw [← HN.out] at hsl
      simp only [Value.slice.injEq, true_and] at hsl
      obtain ⟨rfl, rfl⟩ := hsl
      obtain ⟨d0, d1, d2⟩ := hce k hke
      obtain ⟨e, he⟩ : ∃ y, y = es[k] := ⟨_, rfl⟩
      rw [← he] at d0 d1 d2
      have hoke := HOK.out e (by rw [he]; exact List.getElem_mem _)
      have hst : sizes lvl (es.take (k + 1)) = m + esize lvl e := by rw [List.take_succ_eq_append_getElem hke, sizes_snoc, HM.out, he]
      have hal2 : Below wr.heap.size wr (wr.alloc (.cells #[.string e.key, .string e.val, .int .i64 e.kid] 117)) := (Below.refl _ wr).alloc (Nat.le_refl _) _
      have b1 : (wr.alloc (.cells #[.string e.key, .string e.val, .int .i64 e.kid] 117)).cell? ⟨w.heap.size, 1, none⟩ = some (.int .i64 lvl) := ((HB.out.trans (hal2.mono HB.out.size)).cell (show (⟨w.heap.size, 1, none⟩ : Addr).block < _ from HLT.out)).trans A1.out
      have hsz := esize_le (lvl := lvl) hoke
      have HST := Lib.hid hst
      have HAL2 := Lib.hid (HB.out.trans (hal2.mono HB.out.size))
      have HOKE := Lib.hid hoke
      have hlt' : (k : Int) < n := by omega
      clear hce he hoke hst hal2 hbs
      go_wp2_with fail
      refine (esize_any e lvl HOKE.out.1 HOKE.out.2 _).mono ?_
      rintro en w4 ⟨rfl, hb4⟩
      have HB4 := Lib.hid (HAL2.out.trans (hb4.mono HAL2.out.size))
      obtain ⟨q, hq⟩ : ∃ q, q = esize lvl e := ⟨_, rfl⟩
      rw [← hq] at hsz ⊢
      have HQ := Lib.hid hq
      clear hb4 hq b1
      go_wp2_with fail
      go_roundw
      case rel => exact ⟨k + 1, m + q, by omega, by go_num, by go_num, by rw [HST.out, ← HQ.out], HB4.out⟩
      case measure => simp [intOf]; omega
    · obtain rfl : n = k := by omega
      have hms : m = sizes lvl es := by rw [HM.out, HN.out, List.take_length]
      have HS := Lib.hid hms
      clear hms
      by_cases g1 : (251 : Int) ≤ m
      · by_cases g2 : (m : Int) ≤ 502
        · go_wp2_with fail
          go_ret
          refine ⟨?_, HAL.out.trans (HB.out.mono HAL.out.size)⟩
          rw [← HS.out, decide_eq_true (show 251 ≤ m by omega), decide_eq_true (show m ≤ 502 by omega)]
          rfl
        · go_wp2_with fail
          go_ret
          refine ⟨?_, HAL.out.trans (HB.out.mono HAL.out.size)⟩
          rw [← HS.out, decide_eq_false (show ¬ m ≤ 502 by omega), Bool.and_false]
          rfl
      · go_wp2_with fail
        go_ret
        refine ⟨?_, HAL.out.trans (HB.out.mono HAL.out.size)⟩
        rw [← HS.out, decide_eq_false (show ¬ 251 ≤ m by omega), Bool.false_and]
        rfl
end Go.Proofs.Ytcnfnpccbnnplaa
