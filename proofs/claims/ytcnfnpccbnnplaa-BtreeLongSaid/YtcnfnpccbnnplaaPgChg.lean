/- The pager: changed. -/
import Derived.Test.YtcnfnpccbnnplaaPgDiff
namespace Go.Proofs.Ytcnfnpccbnnplaa
open Go.RowKit Go.Maps
set_option maxRecDepth 100000

/-- What a page is written as. -/
def wantOf (S : Stt) (t : Tx) (k : Nat) : List UInt8 := match t.f k with
  | some b => b
  | none => ownOf S k
theorem wantOf_length {S : Stt} {t : Tx} (k : Nat) (h : AllLong (some t)) : (wantOf S t k).length = 504 := by
  unfold wantOf
  cases hf : t.f k with
  | none => exact ownOf_length S k
  | some b => exact h k b hf
/-- The pages that differ, of the first k. -/
def chgTo (A : Ab) (S : Stt) (t : Tx) (k : Nat) : Pages := ((List.range k).filter (diffOf A S t)).map fun i => ((401 + i : Nat), wantOf S t i)
theorem chgTo_zero (A : Ab) (S : Stt) (t : Tx) : chgTo A S t 0 = [] := rfl
theorem chgTo_succ (A : Ab) (S : Stt) (t : Tx) (k : Nat) : chgTo A S t (k + 1) = chgTo A S t k ++ if diffOf A S t k then [(((401 + k : Nat) : Int), wantOf S t k)] else [] := by
  unfold chgTo
  rw [List.range_succ, List.filter_append, List.map_append]
  congr 1
  cases h : diffOf A S t k <;> simp [List.filter, h]
theorem chgTo_length (A : Ab) (S : Stt) (t : Tx) (k : Nat) : (chgTo A S t k).length ≤ k := by
  unfold chgTo
  rw [List.length_map]
  exact Nat.le_trans (List.length_filter_le _ _) (by simp)

/-- What the append of a page that lies in block g wants. -/
theorem chg_ready {w w2 w3 : World} {g : Nat} {x : Int} {l : List UInt8} {lv : Value} {L : Pages} {ty : TypeId} (hB : Below w.heap.size w w2) (hr : PRow (fun _ => False) w.heap.size w2 lv L) (hg : g = w2.heap.size) (hb : Blk w3 g (vbs l).toArray ty) (hl : l.length = 504) (h3 : Below w2.heap.size w2 w3) :
    w.heap.size ≤ (w3.alloc (.cells #[.int .i64 x, .slice (some ⟨g, 0, none⟩) 504 504] 139)).heap.size ∧
    PRow (fun _ => False) w.heap.size (w3.alloc (.cells #[.int .i64 x, .slice (some ⟨g, 0, none⟩) 504 504] 139)) lv L ∧
    Bs (w3.alloc (.cells #[.int .i64 x, .slice (some ⟨g, 0, none⟩) 504 504] 139)) (.slice (some ⟨g, 0, none⟩) 504 504) l ∧
    (0 < l.length → ∀ q, (Value.slice (some ⟨g, 0, none⟩) 504 504).ownBlock = some q → (fun _ => False) q ∨ (w.heap.size ≤ q ∧ q < (w3.alloc (.cells #[.int .i64 x, .slice (some ⟨g, 0, none⟩) 504 504] 139)).heap.size ∧ lv.ownBlock ≠ some q)) ∧
    Blk (w3.alloc (.cells #[.int .i64 x, .slice (some ⟨g, 0, none⟩) 504 504] 139)) w3.heap.size #[.int .i64 x, .slice (some ⟨g, 0, none⟩) 504 504] 139 ∧
    Below w.heap.size w (w3.alloc (.cells #[.int .i64 x, .slice (some ⟨g, 0, none⟩) 504 504] 139)) := by
  have hala : Below w3.heap.size w3 (w3.alloc (.cells #[.int .i64 x, .slice (some ⟨g, 0, none⟩) 504 504] 139)) := (Below.refl _ _).alloc (Nat.le_refl _) _
  have hbls := hb.bs (by rw [hl]; simp [maxLen])
  rw [hl] at hbls
  have h1 := hB.trans ((h3.trans (hala.mono h3.size)).mono hB.size)
  refine ⟨h1.size, (hr.below h3).below hala, hbls.below hala, fun _ q hq => ?_, Blk.new w3 _ _, h1⟩
  have hq' : g = q := Option.some.inj hq
  have k1 := hB.size
  have k2 := hb.lt
  have k3 := hala.size
  refine .inr ⟨by omega, by omega, fun e => ?_⟩
  have := (hr.lt _ e).2
  omega

section
variable {w : World} {P Q : Nat → Prop} {r p : Nat} {A : Ab} {S : Stt} {t : Tx}
theorem differs_any (h : Pg w Q r p S (some t)) (hd : DkA w P r A) (k : Nat) (hk : k < S.next.length) (hN : S.next.length ≤ 100000) (hw : t.was.next.length = S.next.length) (hl : AllLong (some t)) :
    Calls Try.prog 81 #[.pointer (some ⟨p, 0, none⟩), .int .i64 k] w fun e w' => e = .returned (.bool (diffOf A S t k)) ∧ Below w.heap.size w w' := by
  unfold diffOf
  cases hr : rowDiff S t.was k
  · rw [Bool.false_or]; exact differs_put h hd k hk hN hw hl hr
  · rw [Bool.true_or]; exact differs_row h k hk hw hr

set_option maxHeartbeats 2000000 in
theorem changed_any (h : Pg w Q r p S (some t)) (hd : DkA w P r A) (hN : S.next.length ≤ 100000) (hw : t.was.next.length = S.next.length) (hl : AllLong (some t)) (hb : ∀ k, k < S.next.length → 0 ≤ S.next.getD k 0 ∧ S.next.getD k 0 ≤ 1000000) :
    Calls Try.prog 54 #[.pointer (some ⟨p, 0, none⟩)] w fun e w' => ∃ lv, e = .returned lv ∧ PRow (fun _ => False) w.heap.size w' lv (chgTo A S t S.next.length) ∧ Below w.heap.size w w' := by
  have hz := pg_zero
  obtain ⟨Z, hZ⟩ : ∃ Z, Z = (vbs (zeros 504)).toArray := ⟨_, rfl⟩
  rw [← hZ] at hz
  have HZ := Lib.hid hZ
  have HH := Lib.hid h
  have HD := Lib.hid hd
  have HW := Lib.hid hw
  have HL := Lib.hid hl
  have HBD := Lib.hid hb
  obtain ⟨gn, cn, gw, cw, b, hp, q⟩ := h
  have HP := Lib.hid hp
  have HQ := Lib.hid q
  have HPL := Lib.hid hp.top.lt
  obtain ⟨c0, c1, c2, c3, c4, c5⟩ := hp.cells
  have hcap := hp.cap
  have hmax := hp.max
  unfold maxLen at hmax
  obtain ⟨n, hn⟩ : ∃ n, n = S.next.length := ⟨_, rfl⟩
  have HNN := Lib.hid hn
  have C1 := Lib.hid c1
  have C2 := Lib.hid c2
  have C5 := Lib.hid c5
  rw [← hn] at c2 hN hcap ⊢
  clear hd hw hl hb hp q hZ c0 c1 c3 c4 c5 hn
  go_enter Try.func54, Try.ntmps54
  go_wp2_with fail
  go_loopw [3, 4, 5, 6, 13] (fun lv _ _ _ i wr => ∃ k : Nat, k ≤ n ∧ i = .int .i64 k ∧ Below w.heap.size w wr ∧ PRow (fun _ => False) w.heap.size wr lv (chgTo A S t k)) (fun _ _ _ _ i _ => n - (intOf i).toNat)
  case atStart => exact ⟨0, Nat.zero_le _, rfl, Below.refl _ _, PRow.nil _ _ _⟩
  case round =>
    obtain ⟨k, hk, rfl, hbel, hrow⟩ := hrel
    have HB := Lib.hid hbel
    have HROW := Lib.hid hrow
    by_cases hlt : k < n
    · have hdf := differs_any (HH.out.below hbel) (HD.out.below hbel) k (by have := HNN.out; omega) (by have := HNN.out; omega) HW.out HL.out
      obtain ⟨D, hD⟩ : ∃ D, D = diffOf A S t k := ⟨_, rfl⟩
      rw [← hD] at hdf
      have hsucc := chgTo_succ A S t k
      rw [← hD] at hsucc
      have HS := Lib.hid hsucc
      have HDF := Lib.hid hdf
      clear hdf hsucc hD hbel hrow c2
      cases D
      · go_wp2_with fail
        refine HDF.out.mono ?_
        rintro e w2 ⟨rfl, hb2⟩
        have HB2 := Lib.hid (HB.out.trans (hb2.mono HB.out.size))
        have HR2 := Lib.hid (HROW.out.below hb2)
        clear hb2
        go_wp2_with fail
        go_roundw
        case rel => exact ⟨k + 1, by omega, by go_num, HB2.out, by rw [HS.out]; simpa using HR2.out⟩
        case measure => simp [intOf]; omega
      · go_wp2_with fail
        refine HDF.out.mono ?_
        rintro e w2 ⟨rfl, hb2⟩
        have HB2 := Lib.hid (HB.out.trans (hb2.mono HB.out.size))
        have HR2 := Lib.hid (HROW.out.below hb2)
        have hm2 : Moved (fun _ => False) w w2 := Moved.of_below HB2.out _
        have c5 := (World.cell?_of_block (a := ⟨p, 5, none⟩) (HB2.out.block p HPL.out)).trans C5.out
        have hlk := (HQ.out.map.moved hm2 (fun h => h)).look (i := k) (WalkArith.wf_i64 (by omega))
        have hal : Below w2.heap.size w2 (w2.alloc (.cells Z 103)) := (Below.refl _ w2).alloc (Nat.le_refl _) _
        have hb0 : Blk (w2.alloc (.cells Z 103)) w2.heap.size (vbs (zeros 504)).toArray 103 := by
          rw [HZ.out]; exact Blk.new w2 _ _
        have HA := Lib.hid hal
        have H0 := Lib.hid hb0
        have HM2 := Lib.hid hm2
        clear hb2 hal hb0 hm2
        cases hf : t.f k with
        | some l =>
          rw [hf] at hlk
          simp only [Option.getD_some, Option.isSome_some] at hlk
          have hxl : l.length = 504 := HL.out _ _ hf
          have hwv : wantOf S t k = l := by unfold wantOf; rw [hf]
          have HWV := Lib.hid hwv
          have hl30 : (chgTo A S t k).length ≤ 1073741824 := by have := chgTo_length A S t k; omega
          have HRD := Lib.hid (fun (w3 : World) hb3 h3 => chg_ready (w3 := w3) (g := w2.heap.size) (x := 401 + (k : Int)) (ty := 103) HB2.out HR2.out rfl hb3 hxl h3)
          obtain ⟨so, cp, hlv, hcp1, hcp2⟩ := HR2.out.form
          obtain ⟨L, hL⟩ : ∃ L, L = chgTo A S t k := ⟨_, rfl⟩
          rw [← hL] at hl30 HRD hlv hcp1
          obtain ⟨m, hm⟩ : ∃ m, m = L.length := ⟨_, rfl⟩
          rw [← hm] at hlv hcp1
          have HLL := Lib.hid hL
          subst hlv
          clear hf hwv hcp2 hm hL
          go_wp2_with (first | (with_reducible refine wpList_pstore rfl _ _ rfl w2.heap.size l (zeros 504) rfl rfl 103 H0.out (zeros_length _) hxl ?_; intro w3 hb3 hg3; have RD := Lib.hid (HRD.out w3 hb3 (HA.out.grown hg3 HA.out.size (fun q hq => by have := Option.some.inj hq; omega)))) | (with_reducible refine wpList_append_pu rfl _ _ rfl (fun _ => False) w.heap.size (fun _ h => h.elim) RD.out.1 (.slice so m cp) L rfl RD.out.2.1 w3.heap.size rfl (401 + (k : Int)) (.slice (some ⟨w2.heap.size, 0, none⟩) 504 504) l RD.out.2.2.1 RD.out.2.2.2.1 RD.out.2.2.2.2.1 hl30 ?_; intro v8 w8 hv8 hg8 hq8) | fail)
          have HB8 := Lib.hid (RD.out.2.2.2.2.2.grown hg8 RD.out.1 hq8)
          have HV8 := Lib.hid hv8
          clear hv8 hg8 hq8 RD HRD
          go_roundw
          case rel =>
            refine ⟨k + 1, by omega, by go_num, HB8.out, ?_⟩
            have := HV8.out
            rw [HLL.out] at this
            rw [HS.out, HWV.out]
            simpa using this
          case measure => simp [intOf]; omega
        | none =>
          rw [hf] at hlk
          simp only [Option.getD_none, Option.isSome_none] at hlk
          have hwv : wantOf S t k = ownOf S k := by unfold wantOf; rw [hf]
          obtain ⟨l, hLO⟩ : ∃ l, l = ownOf S k := ⟨_, rfl⟩
          have hxl : l.length = 504 := by rw [hLO]; exact ownOf_length S k
          rw [← hLO] at hwv
          have HWV := Lib.hid hwv
          have HLO := Lib.hid hLO
          have hl30 : (chgTo A S t k).length ≤ 1073741824 := by have := chgTo_length A S t k; omega
          have HRD := Lib.hid (fun (w3 : World) hb3 h3 => chg_ready (w3 := w3) (g := w2.heap.size) (x := 401 + (k : Int)) (ty := 103) HB2.out HR2.out rfl hb3 hxl h3)
          obtain ⟨so, cp, hlv, hcp1, hcp2⟩ := HR2.out.form
          obtain ⟨L, hL⟩ : ∃ L, L = chgTo A S t k := ⟨_, rfl⟩
          rw [← hL] at hl30 HRD hlv hcp1
          obtain ⟨m, hm⟩ : ∃ m, m = L.length := ⟨_, rfl⟩
          rw [← hm] at hlv hcp1
          have HLL := Lib.hid hL
          subst hlv
          have hzl := zeros_length 504
          have hwlt : p < w.heap.size := HPL.out
          clear hf hwv hcp2 hm hL hLO
          go_wp2_with (first | (with_reducible refine wpList_pstore rfl _ _ rfl w2.heap.size (zeros 504) (zeros 504) rfl rfl 103 H0.out (zeros_length _) hzl ?_; intro w3 hb3 hg3; have h3 := Lib.hid (HA.out.grown hg3 HA.out.size (fun q hq => by have := Option.some.inj hq; omega)); have h23 := Lib.hid (HB2.out.trans (h3.out.mono HB2.out.size)); have c13 := (World.cell?_of_block (a := ⟨p, 1, none⟩) (h23.out.block p HPL.out)).trans C1.out; have c23 := (World.cell?_of_block (a := ⟨p, 2, none⟩) (h23.out.block p HPL.out)).trans C2.out) | fail)
          have hown := own_any S w3 gn cn k (HP.out.row.moved (Moved.of_below h23.out (fun _ => False)) (fun h => h)) (by have := HNN.out; omega) (by have := HNN.out; omega) (HBD.out k (by have := HNN.out; omega))
          rw [← HLO.out] at hown
          have H3 := Lib.hid hb3
          clear hb3 hlk
          refine hown.mono ?_
          rintro e w4 ⟨rfl, hb4⟩
          have H4 := Lib.hid hb4
          have hb34 := H3.out.moved (Moved.of_below hb4 (fun _ => False)) (fun h => h)
          have h24 := Lib.hid (h3.out.trans (hb4.mono h3.out.size))
          clear hb4 hown c13 c23
          go_wp2_with (first | (with_reducible refine wpList_pstore rfl _ _ rfl w2.heap.size l (zeros 504) rfl rfl 103 hb34 (zeros_length _) hxl ?_; intro w5 hb5 hg5; have RD := Lib.hid (HRD.out w5 hb5 (h24.out.grown hg5 h24.out.size (fun q hq => by have := Option.some.inj hq; omega)))) | (with_reducible refine wpList_append_pu rfl _ _ rfl (fun _ => False) w.heap.size (fun _ h => h.elim) RD.out.1 (.slice so m cp) L rfl RD.out.2.1 w5.heap.size rfl (401 + (k : Int)) (.slice (some ⟨w2.heap.size, 0, none⟩) 504 504) l RD.out.2.2.1 RD.out.2.2.2.1 RD.out.2.2.2.2.1 hl30 ?_; intro v8 w8 hv8 hg8 hq8) | fail)
          have HB8 := Lib.hid (RD.out.2.2.2.2.2.grown hg8 RD.out.1 hq8)
          have HV8 := Lib.hid hv8
          clear hv8 hg8 hq8 RD HRD
          go_roundw
          case rel =>
            refine ⟨k + 1, by omega, by go_num, HB8.out, ?_⟩
            have := HV8.out
            rw [HLL.out] at this
            rw [HS.out, HWV.out]
            simpa using this
          case measure => simp [intOf]; omega
    · obtain rfl : k = n := by omega
      go_wp2_with fail
      go_ret
      exact ⟨_, rfl, HROW.out, HB.out⟩
end
end Go.Proofs.Ytcnfnpccbnnplaa
