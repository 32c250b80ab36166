/- triadlaw3's Good: pages for places of a small disk, each once. -/
import Derived.Test.YtkhdahipnfloeaaRow
namespace Go.Proofs.Ytkhdahipnfloeaa
open Go.RowKit
set_option maxRecDepth 100000

def goodStep (out : Pages) (p : Int × List UInt8) : Pages := if out.any (fun q => q.1 == 401 + withinOf p.1 19) then out else out ++ [(401 + withinOf p.1 19, p.2.take 504)]
def goodTo (l : Pages) (k : Nat) : Pages := (l.take k).foldl goodStep []
def goodOf (l : Pages) : Pages := goodTo l 8
theorem goodTo_succ (l : Pages) (k : Nat) (h : k < l.length) : goodTo l (k + 1) = goodStep (goodTo l k) l[k] := by
  unfold goodTo
  rw [List.take_succ_eq_append_getElem h, List.foldl_append]
  rfl

structure GoodL (l : Pages) (k : Nat) : Prop where
  short : l.length ≤ k
  ok : ∀ p ∈ l, 401 ≤ p.1 ∧ p.1 < 420 ∧ p.2.length ≤ 504
  nodup : (l.map (·.1)).Nodup
theorem goodTo_good (l : Pages) : ∀ k, GoodL (goodTo l k) k
  | 0 => ⟨by simp [goodTo], fun p hp => by simp [goodTo] at hp, by simp [goodTo]⟩
  | k + 1 => by
    have ih := goodTo_good l k
    by_cases h : k < l.length
    · rw [goodTo_succ l k h]
      have hr := within_range l[k].1 19 (by decide)
      unfold goodStep
      by_cases hc : (goodTo l k).any (fun q => q.1 == 401 + withinOf l[k].1 19)
      · rw [if_pos hc]
        exact ⟨Nat.le_succ_of_le ih.short, ih.ok, ih.nodup⟩
      · rw [if_neg hc]
        refine ⟨by rw [List.length_append]; have := ih.short; simp; omega, fun p hp => ?_, ?_⟩
        · rcases List.mem_append.1 hp with hp | hp
          · exact ih.ok p hp
          · simp at hp; subst hp
            exact ⟨by show 401 ≤ 401 + _; omega, by show 401 + _ < (420 : Int); omega, by show (List.take 504 _).length ≤ 504; rw [List.length_take]; omega⟩
        · rw [List.map_append, List.nodup_append]
          refine ⟨ih.nodup, by simp, fun a ha b hb e => hc ?_⟩
          simp at hb
          subst hb
          obtain ⟨q, hq, rfl⟩ := List.mem_map.1 ha
          rw [List.any_eq_true]
          exact ⟨q, hq, by simpa using e⟩
    · have e : goodTo l (k + 1) = goodTo l k := by unfold goodTo; rw [List.take_of_length_le (by omega), List.take_of_length_le (by omega)]
      rw [e]
      exact ⟨Nat.le_succ_of_le ih.short, ih.ok, ih.nodup⟩
theorem goodOf_pages (l : Pages) (h : goodOf l ≠ []) : Pagess 420 (goodOf l) := by
  have hg := goodTo_good l 8
  refine ⟨fun e => h (List.eq_nil_of_length_eq_zero e), by have := hg.short; unfold goodOf; omega, fun p hp => ?_, hg.nodup⟩
  have := hg.ok p hp
  exact ⟨this.1, this.2.1, this.2.2⟩

theorem within3_any (a n : Int) (hn : 0 < n) (hn2 : n ≤ 4611686018427387904) (w : World) :
    Calls Try.prog 16 #[.int .i64 a, .int .i64 n] w fun e w' => e = .returned (.int .i64 (withinOf a n)) ∧ w' = w := by
  have h1 := Int.tmod_lt_of_pos a hn
  have h2 : -n < a.tmod n := Int.lt_tmod_of_pos a hn
  have hz : (n == 0) = false := by simpa using (by omega : n ≠ 0)
  by_cases h0 : a.tmod n < 0
  · rw [withinOf, if_pos h0]
    go_enter Try.func16, Try.ntmps16
    go_wp2
    go_ret
    exact ⟨rfl, rfl⟩
  · rw [withinOf, if_neg h0]
    go_enter Try.func16, Try.ntmps16
    go_wp2
    go_ret
    exact ⟨rfl, rfl⟩

/-- l = append(l, api.Put{a, v}), as one step of a region that draws. -/
theorem step_append_pu {ops : Array Oper} {o : Oper} {a : Act} {w : World} {K : Act → World → Prop} {Q : Exit → Act → World → Prop} {E : Prop} (hgd : o.guard = none) (s x : Operand)
    (ho : o.op = .call { callee := .builtin .append, args := #[s, x], argTypes := #[22, 22] }) (T : Nat → Prop) (w0 : Nat) (hT : ∀ g, T g → g < w0) (hw0 : w0 ≤ w.heap.size)
    (lv : Value) (l : Pages) (hs : a.eval s = lv) (hown : PRow T w0 w lv l)
    (g0 : Nat) (hx : a.eval x = .slice (some ⟨g0, 0, none⟩) 1 1) (at1 : Int) (v : Value) (b : List UInt8) (hb : Bs w v b) (hv : 0 < b.length → ∀ g, v.ownBlock = some g → T g ∨ (w0 ≤ g ∧ g < w.heap.size ∧ lv.ownBlock ≠ some g))
    (hg : Blk w g0 #[.int .i64 at1, v] 56) (hl : l.length ≤ 1073741824)
    (h : ∀ v' w', PRow T w0 w' v' (l ++ [(at1, b)]) → w.grownBy w' lv.ownBlock → (∀ g, lv.ownBlock = some g → w0 ≤ g) → K (a.put o.dst v') w') :
    if Region.wanted o (yielded ops a.tmps) = true then Oper.wp Try.prog o a w K Q else E := by
  obtain ⟨i0, hi, hz0, hz1, hz2⟩ := info_parts Try.infoPu
  obtain ⟨vs, h1, h2, h3⟩ := hown
  have hv1 : v.oneCell' = true := by
    obtain ⟨ao, c, rfl, -⟩ := hb
    rfl
  refine step_append_lies w hgd s x _ ho w0 56 i0 _ 2 32 Try.underlying22 hi hz0 hz1 hz2 rfl (by decide) lv l.length (pcells l vs) hs h2 ⟨g0, 0, none⟩ 1 1 [.int .i64 at1, v] hx rfl ?_ ?_ (by decide) (by simp [maxLen]; omega) (by omega) hw0 _ rfl ?_
  · intro j u hj
    rw [show (⟨g0, 0, none⟩ : Addr).add j = ⟨g0, j, none⟩ from by unfold Addr.add; split <;> simp_all, hg.cell]
    simpa using hj
  · intro u hu
    simp at hu
    rcases hu with rfl | rfl
    · rfl
    · exact hv1
  · intro g cap w' k1 k2 k3 _
    exact h _ w' (PRow.appended h1 h3 hT (fun q hq => (h2.lt q hq).1) at1 b v hb hv g cap k1 k2 (by rcases k3 with k3 | k3; exact .inl k3; exact .inr (by omega))) k2 (fun q hq => (h2.lt q hq).1)

set_option maxRecDepth 100000 in
set_option maxHeartbeats 1000000 in
theorem good_any (v : Value) (l : Pages) (S : Nat → Prop) (w : World) (hp : Pus w S v l) (hS : ∀ g, S g → g < w.heap.size) :
    Calls Try.prog 14 #[v] w fun e w' => ∃ gv, e = .returned gv ∧ PRow S w.heap.size w' gv (goodOf l) ∧ Below w.heap.size w w' := by
  obtain ⟨ao, cap, rfl, hc1, hc2, hE⟩ := id hp
  have hc2' : cap ≤ 9223372036854775807 := hc2
  obtain ⟨n, hn⟩ : ∃ n, n = l.length := ⟨_, rfl⟩
  have HP := Lib.hid hp
  have HE := Lib.hid hE
  have HN := Lib.hid hn
  have HSL := Lib.hid hS
  rw [← hn] at hc1 ⊢
  clear hE hn hc2 hp hS
  go_enter Try.func14, Try.ntmps14
  go_wp2_with fail
  go_loopw [3, 4, 5, 6, 7] (fun lv i _ _ _ wr => ∃ k : Nat, k ≤ n ∧ k ≤ 8 ∧ i = .int .i64 k ∧ Below w.heap.size w wr ∧ PRow S w.heap.size wr lv (goodTo l k)) (fun _ i _ _ _ _ => n - (intOf i).toNat)
  case atStart => exact ⟨0, Nat.zero_le _, by decide, rfl, Below.refl _ _, PRow.nil _ _ _⟩
  case round =>
    obtain ⟨k, hk, hk8, rfl, hb, hrow⟩ := hrel
    have HB := Lib.hid hb
    have HROW := Lib.hid hrow
    obtain ⟨so, cp, rfl, hcp1, hcp2⟩ := hrow.form
    have hcp2' : cp ≤ 9223372036854775807 := hcp2
    clear hb hrow hcp2
    by_cases hlt : k < n
    · by_cases hlt8 : k < 8
      · have hkl : k < l.length := by rw [← HN.out]; exact hlt
        obtain ⟨b, off, rfl, hSb, hA⟩ := HE.out k hkl
        obtain ⟨c0, u, c1, hbs, hub⟩ := hA.moved hSb (Moved.of_below HB.out (fun _ => False)) (fun _ _ h => h)
        obtain ⟨at0, hat⟩ : ∃ m : Int, m = l[k].1 := ⟨_, rfl⟩
        obtain ⟨bs, hbb⟩ : ∃ m, m = l[k].2 := ⟨_, rfl⟩
        have hgs := goodTo_succ l k hkl
        obtain ⟨out, hout⟩ : ∃ out, out = goodTo l k := ⟨_, rfl⟩
        have hol : out.length ≤ 8 := by rw [hout]; have := (goodTo_good l k).short; omega
        rw [← hout] at hgs HROW hcp1 ⊢
        unfold goodStep at hgs
        rw [← hat, ← hbb] at hgs
        rw [← hat] at c0
        rw [← hbb] at hbs hub
        have hwr := within_range at0 19 (by decide)
        have hw19 := within3_any at0 19 (by decide) (by decide)
        obtain ⟨wi, hwi⟩ : ∃ wi, wi = withinOf at0 19 := ⟨_, rfl⟩
        rw [← hwi] at hgs hwr hw19
        have HW19 := Lib.hid hw19
        have HGS := Lib.hid hgs
        have HBS := Lib.hid hbs
        have HUB := Lib.hid hub
        obtain ⟨hw0, hw1⟩ := hwr
        obtain ⟨m, hm⟩ : ∃ m, m = out.length := ⟨_, rfl⟩
        have HM := Lib.hid hm
        rw [← hm] at hcp1 hol ⊢
        clear hat hbb hout hgs hw19 hbs hub hSb hA hwi hm
        go_wp2_with fail
        refine (HW19.out _).mono ?_
        rintro e wz ⟨rfl, hwz⟩
        replace hwz := hwz.symm
        subst hwz
        go_wp2_with fail
        obtain ⟨am, ham⟩ : ∃ am, am = 401 + wi := ⟨_, rfl⟩
        rw [← ham] at HGS ⊢
        have HAM := Lib.hid ham
        have ham1 : 401 ≤ am := by omega
        have ham2 : am < 420 := by omega
        clear ham HW19 hw0 hw1
        go_loop [6, 7] (fun b j => ∃ i : Nat, i ≤ m ∧ j = .int .i64 i ∧ b = .bool ((out.take i).any (fun q => q.1 == am))) (fun _ j => m - (intOf j).toNat)
        case atStart => exact ⟨0, Nat.zero_le _, rfl, by simp⟩
        case round =>
          obtain ⟨i, hi, rfl, rfl⟩ := hrel
          obtain ⟨B, hB⟩ : ∃ B, B = (out.take i).any (fun q => q.1 == am) := ⟨_, rfl⟩
          rw [← hB]
          have HBB := Lib.hid hB
          clear hB
          by_cases hlt2 : i < m
          · have hio : i < out.length := by rw [← HM.out]; exact hlt2
            obtain ⟨so2, cp2, e2, -, -, hE2⟩ := HROW.out.pus
            obtain ⟨b2, off2, e3, -, q0, -⟩ := hE2 i hio
            simp only [Value.slice.injEq] at e2
            obtain ⟨rfl, -, rfl⟩ := e2
            subst e3
            obtain ⟨at2, hat2⟩ : ∃ m, m = out[i].1 := ⟨_, rfl⟩
            rw [← hat2] at q0
            have hnext : (out.take (i + 1)).any (fun q => q.1 == am) = (B || (at2 == am)) := by
              rw [List.take_succ_eq_append_getElem hio, List.any_append, ← HBB.out, hat2]
              simp
            have HNX := Lib.hid hnext
            clear hat2 hnext hE2
            cases B
            · cases heq : (at2 == am)
              · go_wp2_with fail
                go_round
                case rel => exact ⟨i + 1, by omega, by go_num, by rw [HNX.out, heq]; rfl⟩
                case measure => simp [intOf]; omega
              · go_wp2_with fail
                go_round
                case rel => exact ⟨i + 1, by omega, by go_num, by rw [HNX.out, heq]; rfl⟩
                case measure => simp [intOf]; omega
            · go_wp2_with fail
              go_round
              case rel => exact ⟨i + 1, by omega, by go_num, by rw [HNX.out]; rfl⟩
              case measure => simp [intOf]; omega
          · obtain rfl : i = m := by omega
            have HBO := Lib.hid (show B = out.any (fun q => q.1 == am) by rw [HBB.out, HM.out, List.take_length])
            clear HBB
            cases B
            · have hnx : goodTo l (k + 1) = out ++ [(am, bs.take 504)] := by rw [HGS.out, if_neg (by rw [← HBO.out]; decide)]
              have HNX := Lib.hid hnx
              clear hnx HBO
              have hrw0 := HROW.out
              rw [← HM.out] at hrw0
              obtain ⟨bo, bc, rfl, hb1, hb2, -⟩ := id HBS.out
              have hb2' : bc ≤ 9223372036854775807 := hb2
              obtain ⟨m1, hm1⟩ : ∃ m, m = bs.length := ⟨_, rfl⟩
              have HM1 := Lib.hid hm1
              rw [← hm1] at c1 hb1
              have hRW : ∀ o, PRow S w.heap.size (wr.alloc o).drew (.slice so i cp) out := fun o => hrw0.below ((Below.refl _ wr).alloc (Nat.le_refl _) o).drew
              have hBL : ∀ cs, Blk (wr.alloc (.cells cs 56)).drew wr.heap.size cs 56 := fun cs => (Blk.new wr cs _).drew
              have hol2 : out.length ≤ 1073741824 := by rw [← HM.out]; omega
              have hsz1 : ∀ o, w.heap.size ≤ (wr.alloc o).drew.heap.size := fun o => Nat.le_trans HB.out.size (by simp)
              have hBB : ∀ o, Below w.heap.size w (wr.alloc o).drew := fun o => (HB.out.alloc HB.out.size o).drew
              have HRW := Lib.hid hRW
              have HBL := Lib.hid hBL
              have HOL := Lib.hid hol2
              have HSZ := Lib.hid hsz1
              have HBB2 := Lib.hid hBB
              clear hrw0 hm1 hRW hBL hol2 hb2 hsz1 hBB
              obtain ⟨kk, hkk⟩ : ∃ kk, kk = min m1 504 := ⟨_, rfl⟩
              have hBT : ∀ o, Bs (wr.alloc o).drew (.slice bo kk bc) (bs.take 504) := fun o => by
                have h0 := HBS.out.below ((Below.refl _ wr).alloc (Nat.le_refl _) o).drew
                have := h0.takes kk (by rw [hkk, HM1.out]; omega)
                rw [show bs.take 504 = bs.take kk from by
                  rw [hkk, HM1.out]
                  by_cases e : bs.length ≤ 504
                  · rw [Nat.min_eq_left e, List.take_of_length_le e, List.take_length]
                  · rw [Nat.min_eq_right (by omega)]]
                exact this
              have HBT := Lib.hid hBT
              have hmin : (if (504 : Int) < (m1 : Int) then 504 else (m1 : Int)) = (kk : Int) := by split <;> omega
              have hkc : kk ≤ bc := by omega
              have HUB2 := Lib.hid (fun (h0 : 0 < (bs.take 504).length) (g : Nat) (hg : (Value.slice bo kk bc).ownBlock = some g) => HUB.out (by rw [List.length_take] at h0; omega) g (match bo, hg with | some _, hg => hg | none, hg => hg))
              clear hBT hkk
              go_wp2_with fail
              go_region_law (refine step_append_pu rfl (.tmp 43) (.tmp 59) rfl S w.heap.size HSL.out (HSZ.out _) (.slice so i cp) out rfl (HRW.out _) _ rfl am _ (bs.take 504) (HBT.out _) ?_ (HBL.out _) HOL.out ?_; (exact fun h0 g hg => .inl (HUB2.out h0 g hg)); intro v8 w8 hv8 hg8 hq8)
              all_goals (
                have HB8 := Lib.hid ((HBB2.out _).grown hg8 (HSZ.out _) hq8)
                have HV8 := Lib.hid hv8
                clear hv8 hg8 hq8
                go_wp2_with fail
                go_roundw
                case rel => exact ⟨k + 1, by omega, by omega, by go_num, HB8.out, by rw [HNX.out]; exact HV8.out⟩
                case measure => simp [intOf]; omega)
            · have hnx : goodTo l (k + 1) = out := by rw [HGS.out, if_pos HBO.out.symm]
              have HNX := Lib.hid hnx
              clear hnx HBO
              go_wp2_with fail
              go_roundw
              case rel => exact ⟨k + 1, by omega, by omega, by go_num, HB.out, by rw [HNX.out]; have := HROW.out; rw [← HM.out] at this; exact this⟩
              case measure => simp [intOf]; omega
      · obtain rfl : k = 8 := by omega
        go_wp2_with fail
        go_ret
        exact ⟨_, rfl, HROW.out, HB.out⟩
    · obtain rfl : k = n := by omega
      have he : goodOf l = goodTo l k := by unfold goodOf goodTo; rw [List.take_of_length_le (by have := HN.out; omega), List.take_of_length_le (by have := HN.out; omega)]
      have HE2 := Lib.hid he
      clear he
      go_wp2_with fail
      go_ret
      exact ⟨_, rfl, by rw [HE2.out]; exact HROW.out, HB.out⟩
end Go.Proofs.Ytkhdahipnfloeaa
