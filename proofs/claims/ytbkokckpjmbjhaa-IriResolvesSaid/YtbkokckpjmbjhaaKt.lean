/- References: the walk of IriResolves. -/
import Derived.Test.YtbkokckpjmbjhaaKl
import Derived.Test.YtbkokckpjmbjhaaKo
import Derived.Test.YtbkokckpjmbjhaaKr
import Derived.Deep.RegionLaw
namespace Go.Proofs.Ytbkokckpjmbjhaa
open Go.RowKit Go.Shelf
set_option maxRecDepth 100000
set_option linter.unusedVariables false
set_option maxHeartbeats 16000000 in
theorem iresolves_walk (v0 v1 : Value) (l0 l1 : List Int) (raw base : ByteArray) (w : World) (h0 : Nl w v0 l0) (h1 : Nl w v1 l1) :
    Calls Try.prog 4 #[v0, v1, .string raw, .string base] w fun e w' => e = .returned (.bool true) ∧ Below w.heap.size w w' := by
  have HK := Lib.hid (fun w => known10_any w)
  have b0 := h0.le
  have b1 := h1.le
  obtain ⟨x0, hx0⟩ := exists_ba (refL l0)
  obtain ⟨x1, hx1⟩ := exists_ba (refL l1)
  have hxs0 : x0.size ≤ 50 := by rw [Lib.size_eq, hx0]; exact ref_len _
  have hxs1 : x1.size ≤ 50 := by rw [Lib.size_eq, hx1]; exact ref_len _
  have HF0 := Lib.hid (fun w h => ref10_any v0 l0 b0 w h x0 hx0)
  have HF1 := Lib.hid (fun w h => ref10_any v1 l1 b1 w h x1 hx1)
  have HN0 := Lib.hid h0
  have HN1 := Lib.hid h1
  clear h0 h1 hx0 hx1 b0 b1
  go_enter Try.func4, Try.ntmps4
  go_wp2_with fail
  refine (HK.out _).mono ?_
  rintro e w1 ⟨rfl, hb1⟩
  by_cases hlen : (100 : Int) < raw.size
  · go_wp2_with fail
    go_ret
    exact ⟨rfl, hb1⟩
  by_cases hlen2 : (100 : Int) < base.size
  · go_wp2_with fail
    go_ret
    exact ⟨rfl, hb1⟩
  have HB1 := Lib.hid hb1
  have hraw : raw.size ≤ 100 := by omega
  have hbase : base.size ≤ 100 := by omega
  have hri : (raw.size : Int) ≤ 100 := by omega
  have hbi : (base.size : Int) ≤ 100 := by omega
  clear hb1 hlen hlen2
  go_wp2_with fail
  refine (HF1.out _ (HN1.out.below HB1.out)).mono ?_
  rintro e w2 ⟨rfl, hb2⟩
  have hbel := HB1.out.trans (hb2.mono HB1.out.size)
  clear hb2
  go_wp2_with fail
  have hL := Blk.new w2 #[.string ⟨#[104, 116, 116, 112, 58, 47, 47, 97, 47, 98, 47, 99, 47, 100, 59, 112, 63, 113]⟩, .string ⟨#[104, 116, 116, 112, 58, 47, 47, 97]⟩, .string x1, .string base, .string ⟨#[]⟩] 9
  replace hbel := hbel.alloc hbel.size (.cells #[.string ⟨#[104, 116, 116, 112, 58, 47, 47, 97, 47, 98, 47, 99, 47, 100, 59, 112, 63, 113]⟩, .string ⟨#[104, 116, 116, 112, 58, 47, 47, 97]⟩, .string x1, .string base, .string ⟨#[]⟩] 9)
  generalize w2.heap.size = gb at hL ⊢
  generalize w2.alloc _ = w3 at hL hbel ⊢
  refine (HF0.out _ (HN0.out.below hbel)).mono ?_
  rintro e w4 ⟨rfl, hb4⟩
  replace hL : Blk w4 gb _ _ := (hb4.block _ hL.lt).trans hL
  replace hbel := hbel.trans (hb4.mono hbel.size)
  clear hb4
  go_wp2_with fail
  have hR := Blk.new w4 #[.string x0, .string raw, .string ⟨#[]⟩] 9
  replace hL := hL.alloc (.cells #[.string x0, .string raw, .string ⟨#[]⟩] 9)
  replace hbel := hbel.alloc hbel.size (.cells #[.string x0, .string raw, .string ⟨#[]⟩] 9)
  generalize w4.heap.size = gr at hR ⊢
  generalize w4.alloc _ = w5 at hL hR hbel ⊢
  have HL3 := Lib.hid hL
  have HR3 := Lib.hid hR
  have HB3 := Lib.hid hbel
  clear hL hR hbel
  go_loopg [11, 12] 5 (fun g s11 _ wx => ∃ i : Nat, i + g = 5 ∧ s11 = .int .i64 i ∧ Blk wx gb #[.string ⟨#[104, 116, 116, 112, 58, 47, 47, 97, 47, 98, 47, 99, 47, 100, 59, 112, 63, 113]⟩, .string ⟨#[104, 116, 116, 112, 58, 47, 47, 97]⟩, .string x1, .string base, .string ⟨#[]⟩] 9 ∧ Blk wx gr #[.string x0, .string raw, .string ⟨#[]⟩] 9 ∧ Below w.heap.size w wx)
  case atStart => exact ⟨0, rfl, rfl, HL3.out, HR3.out, HB3.out⟩
  case round =>
    obtain ⟨i, hig, rfl, hL, hR, hbel⟩ := hrel
    by_cases hi5 : i = 5
    · subst hi5
      go_wp2_with fail
      go_ret
      exact ⟨rfl, hbel⟩
    have hi : i < 5 := by omega
    have hii : (i : Int) < 5 := by omega
    obtain ⟨cb, hcb0, hcbs⟩ : ∃ cur : ByteArray, (#[.string ⟨#[104, 116, 116, 112, 58, 47, 47, 97, 47, 98, 47, 99, 47, 100, 59, 112, 63, 113]⟩, .string ⟨#[104, 116, 116, 112, 58, 47, 47, 97]⟩, .string x1, .string base, .string ⟨#[]⟩] : Array Value)[i]? = some (.string cur) ∧ cur.size ≤ 100 := by
      obtain rfl | rfl | rfl | rfl | rfl : i = 0 ∨ i = 1 ∨ i = 2 ∨ i = 3 ∨ i = 4 := by omega
      · exact ⟨_, rfl, by decide⟩
      · exact ⟨_, rfl, by decide⟩
      · exact ⟨x1, rfl, by omega⟩
      · exact ⟨base, rfl, hbase⟩
      · exact ⟨_, rfl, by decide⟩
    have HCB := Lib.hid hcb0
    have HIG := Lib.hid hig
    have HL4 := Lib.hid hL
    have HR4 := Lib.hid hR
    have HB4 := Lib.hid hbel
    clear hi5 hig hcb0 hL hR hbel
    go_wp2_with fail
    go_loopg [12] 3 (fun g s12 wx => ∃ k : Nat, k + g = 3 ∧ s12 = .int .i64 k ∧ Blk wx gb #[.string ⟨#[104, 116, 116, 112, 58, 47, 47, 97, 47, 98, 47, 99, 47, 100, 59, 112, 63, 113]⟩, .string ⟨#[104, 116, 116, 112, 58, 47, 47, 97]⟩, .string x1, .string base, .string ⟨#[]⟩] 9 ∧ Blk wx gr #[.string x0, .string raw, .string ⟨#[]⟩] 9 ∧ Below w.heap.size w wx)
    case atStart => exact ⟨0, rfl, rfl, HL4.out, HR4.out, HB4.out⟩
    case round =>
      obtain ⟨k, hkg, rfl, hL, hR, hbel⟩ := hrel
      by_cases hk3 : k = 3
      · subst hk3
        go_wp2_with fail
        obtain ⟨g, hg⟩ : ∃ g, i + 1 + g = 5 := ⟨4 - i, by omega⟩
        go_roundg g
        case measure => have := HIG.out; omega
        case rel => exact ⟨i + 1, hg, by go_num, hL, hR, hbel⟩
      have hk : k < 3 := by omega
      have hkk : (k : Int) < 3 := by omega
      obtain ⟨cr, hcr0, hcrs⟩ : ∃ cur : ByteArray, (#[.string x0, .string raw, .string ⟨#[]⟩] : Array Value)[k]? = some (.string cur) ∧ cur.size ≤ 100 := by
        obtain rfl | rfl | rfl : k = 0 ∨ k = 1 ∨ k = 2 := by omega
        · exact ⟨x0, rfl, by omega⟩
        · exact ⟨raw, rfl, hraw⟩
        · exact ⟨_, rfl, by decide⟩
      have hcb := hL.cell i
      rw [HCB.out] at hcb
      have hcr := hR.cell k
      rw [hcr0] at hcr
      have HKG := Lib.hid hkg
      obtain ⟨z, hz⟩ := exists_ba (resolveL (splitL cb.data.toList) (splitL cr.data.toList))
      have HI := Lib.hid (fun w => iresolve_any cb cr (by omega) (by omega) (marksAt_any _) (marksAt_any _) z hz w)
      have HRR := Lib.hid (fun w => rresolve_any cb cr (by omega) (by omega) z hz w)
      clear hk3 hkg hcr0 hz hcrs
      go_upto_region 13 with fail
      refine wp_region_any (by kernel_rfl) ?_
      change wpAny _ _ _ _ _ _ _ (World.drew _)
      refine wpAny_of_held (S := fun W => Below w.heap.size w W ∧ W.cell? ⟨gb, i, none⟩ = some (.string cb) ∧ W.cell? ⟨gr, k, none⟩ = some (.string cr) ∧ Blk W gb #[.string ⟨#[104, 116, 116, 112, 58, 47, 47, 97, 47, 98, 47, 99, 47, 100, 59, 112, 63, 113]⟩, .string ⟨#[104, 116, 116, 112, 58, 47, 47, 97]⟩, .string x1, .string base, .string ⟨#[]⟩] 9 ∧ Blk W gr #[.string x0, .string raw, .string ⟨#[]⟩] 9) _ _ _ _ ?_
      have hS : (fun W => Below w.heap.size w W ∧ W.cell? ⟨gb, i, none⟩ = some (.string cb) ∧ W.cell? ⟨gr, k, none⟩ = some (.string cr) ∧ Blk W gb #[.string ⟨#[104, 116, 116, 112, 58, 47, 47, 97, 47, 98, 47, 99, 47, 100, 59, 112, 63, 113]⟩, .string ⟨#[104, 116, 116, 112, 58, 47, 47, 97]⟩, .string x1, .string base, .string ⟨#[]⟩] 9 ∧ Blk W gr #[.string x0, .string raw, .string ⟨#[]⟩] 9) (World.drew wr) := ⟨below_drew hbel, hcb, hcr, hL.drew, hR.drew⟩
      refine wpAnyH_take (i := 0) (oi := ⟨some 43, _, _, _, _, _⟩) (v := ?_) rfl (by kernel_rfl) (by kernel_rfl) (by kernel_rfl) (fun _ _ _ h => h) (Or.inl ⟨by first | rfl | (simp [Region.wanted, yielded]; done), ?_⟩) hS ?_
      rotate_left
      · intro wz hSw
        clear hSw
        go_simp
        first | done | with_reducible rfl
      try simp only [Act.put, List.setIfInBounds_toArray, List.set_cons_zero, List.set_cons_succ]
      refine wpAnyH_take (i := 1) (oi := ⟨some 44, _, _, _, _, _⟩) (v := ?_) rfl (by kernel_rfl) (by kernel_rfl) (by kernel_rfl) (fun _ _ _ h => h) (Or.inl ⟨by first | rfl | (simp [Region.wanted, yielded]; done), ?_⟩) hS ?_
      rotate_left
      · intro wz hSw
        clear hSw
        go_simp
        first | done | with_reducible rfl
      try simp only [Act.put, List.setIfInBounds_toArray, List.set_cons_zero, List.set_cons_succ]
      refine wpAnyH_take (i := 2) (oi := ⟨some 45, _, _, _, _, _⟩) (v := ?_) rfl (by kernel_rfl) (by kernel_rfl) (by kernel_rfl) (fun _ _ _ h => h) (Or.inl ⟨by first | rfl | (simp [Region.wanted, yielded]; done), ?_⟩) hS ?_
      rotate_left
      · intro wz hSw
        clear hSw
        go_simp
        first | done | with_reducible rfl
      try simp only [Act.put, List.setIfInBounds_toArray, List.set_cons_zero, List.set_cons_succ]
      refine wpAnyH_take (i := 3) (oi := ⟨some 46, _, _, _, _, _⟩) (v := ?_) rfl (by kernel_rfl) (by kernel_rfl) (by kernel_rfl) (fun _ _ _ h => h) (Or.inl ⟨by first | rfl | (simp [Region.wanted, yielded]; done), ?_⟩) hS ?_
      rotate_left
      · intro wz hSw
        have zc := hSw.2.1
        clear hSw
        go_simp
        first | done | with_reducible rfl
      try simp only [Act.put, List.setIfInBounds_toArray, List.set_cons_zero, List.set_cons_succ]
      refine wpAnyH_take (i := 4) (oi := ⟨some 47, _, _, _, _, _⟩) (v := ?_) rfl (by kernel_rfl) (by kernel_rfl) (by kernel_rfl) (fun _ _ _ h => h) (Or.inl ⟨by first | rfl | (simp [Region.wanted, yielded]; done), ?_⟩) hS ?_
      rotate_left
      · intro wz hSw
        clear hSw
        go_simp
        first | done | with_reducible rfl
      try simp only [Act.put, List.setIfInBounds_toArray, List.set_cons_zero, List.set_cons_succ]
      refine wpAnyH_take (i := 5) (oi := ⟨some 48, _, _, _, _, _⟩) (v := ?_) rfl (by kernel_rfl) (by kernel_rfl) (by kernel_rfl) (fun _ _ _ h => h) (Or.inl ⟨by first | rfl | (simp [Region.wanted, yielded]; done), ?_⟩) hS ?_
      rotate_left
      · intro wz hSw
        clear hSw
        go_simp
        first | done | with_reducible rfl
      try simp only [Act.put, List.setIfInBounds_toArray, List.set_cons_zero, List.set_cons_succ]
      refine wpAnyH_take (i := 6) (oi := ⟨some 49, _, _, _, _, _⟩) (v := ?_) rfl (by kernel_rfl) (by kernel_rfl) (by kernel_rfl) (fun _ _ _ h => h) (Or.inl ⟨by first | rfl | (simp [Region.wanted, yielded]; done), ?_⟩) hS ?_
      rotate_left
      · intro wz hSw
        clear hSw
        go_simp
        first | done | with_reducible rfl
      try simp only [Act.put, List.setIfInBounds_toArray, List.set_cons_zero, List.set_cons_succ]
      refine wpAnyH_take (i := 7) (oi := ⟨some 50, _, _, _, _, _⟩) (v := ?_) rfl (by kernel_rfl) (by kernel_rfl) (by kernel_rfl) (fun _ _ _ h => h) (Or.inl ⟨by first | rfl | (simp [Region.wanted, yielded]; done), ?_⟩) hS ?_
      rotate_left
      · intro wz hSw
        have zc := hSw.2.2.1
        clear hSw
        go_simp
        first | done | with_reducible rfl
      try simp only [Act.put, List.setIfInBounds_toArray, List.set_cons_zero, List.set_cons_succ]
      refine wpAnyH_take (i := 9) (oi := ⟨some 52, _, _, _, _, _⟩) (v := ?_) rfl (by kernel_rfl) (by kernel_rfl) (by kernel_rfl) (fun _ _ _ h => h) (Or.inl ⟨by first | rfl | (simp [Region.wanted, yielded]; done), ?_⟩) hS ?_
      rotate_left
      · intro wz hSw
        clear hSw
        go_simp
        first | done | with_reducible rfl
      try simp only [Act.put, List.setIfInBounds_toArray, List.set_cons_zero, List.set_cons_succ]
      refine wpAnyH_take (i := 10) (oi := ⟨some 53, _, _, _, _, _⟩) (v := ?_) rfl (by kernel_rfl) (by kernel_rfl) (by kernel_rfl) (fun _ _ _ h => h) (Or.inl ⟨by first | rfl | (simp [Region.wanted, yielded]; done), ?_⟩) hS ?_
      rotate_left
      · intro wz hSw
        clear hSw
        go_simp
        first | done | with_reducible rfl
      try simp only [Act.put, List.setIfInBounds_toArray, List.set_cons_zero, List.set_cons_succ]
      refine wpAnyH_take (i := 11) (oi := ⟨some 54, _, _, _, _, _⟩) (v := ?_) rfl (by kernel_rfl) (by kernel_rfl) (by kernel_rfl) (fun _ _ _ h => h) (Or.inl ⟨by first | rfl | (simp [Region.wanted, yielded]; done), ?_⟩) hS ?_
      rotate_left
      · intro wz hSw
        clear hSw
        go_simp
        first | done | with_reducible rfl
      try simp only [Act.put, List.setIfInBounds_toArray, List.set_cons_zero, List.set_cons_succ]
      refine wpAnyH_take (i := 12) (oi := ⟨some 55, _, _, _, _, _⟩) (v := ?_) rfl (by kernel_rfl) (by kernel_rfl) (by kernel_rfl) (fun _ _ _ h => h) (Or.inl ⟨by first | rfl | (simp [Region.wanted, yielded]; done), ?_⟩) hS ?_
      rotate_left
      · intro wz hSw
        have zc := hSw.2.1
        clear hSw
        go_simp
        first | done | with_reducible rfl
      try simp only [Act.put, List.setIfInBounds_toArray, List.set_cons_zero, List.set_cons_succ]
      refine wpAnyH_take (i := 13) (oi := ⟨some 56, _, _, _, _, _⟩) (v := ?_) rfl (by kernel_rfl) (by kernel_rfl) (by kernel_rfl) (fun _ _ _ h => h) (Or.inl ⟨by first | rfl | (simp [Region.wanted, yielded]; done), ?_⟩) hS ?_
      rotate_left
      · intro wz hSw
        clear hSw
        go_simp
        first | done | with_reducible rfl
      try simp only [Act.put, List.setIfInBounds_toArray, List.set_cons_zero, List.set_cons_succ]
      refine wpAnyH_take (i := 14) (oi := ⟨some 57, _, _, _, _, _⟩) (v := ?_) rfl (by kernel_rfl) (by kernel_rfl) (by kernel_rfl) (fun _ _ _ h => h) (Or.inl ⟨by first | rfl | (simp [Region.wanted, yielded]; done), ?_⟩) hS ?_
      rotate_left
      · intro wz hSw
        clear hSw
        go_simp
        first | done | with_reducible rfl
      try simp only [Act.put, List.setIfInBounds_toArray, List.set_cons_zero, List.set_cons_succ]
      refine wpAnyH_take (i := 15) (oi := ⟨some 58, _, _, _, _, _⟩) (v := ?_) rfl (by kernel_rfl) (by kernel_rfl) (by kernel_rfl) (fun _ _ _ h => h) (Or.inl ⟨by first | rfl | (simp [Region.wanted, yielded]; done), ?_⟩) hS ?_
      rotate_left
      · intro wz hSw
        clear hSw
        go_simp
        first | done | with_reducible rfl
      try simp only [Act.put, List.setIfInBounds_toArray, List.set_cons_zero, List.set_cons_succ]
      refine wpAnyH_take (i := 16) (oi := ⟨some 59, _, _, _, _, _⟩) (v := ?_) rfl (by kernel_rfl) (by kernel_rfl) (by kernel_rfl) (fun _ _ _ h => h) (Or.inl ⟨by first | rfl | (simp [Region.wanted, yielded]; done), ?_⟩) hS ?_
      rotate_left
      · intro wz hSw
        have zc := hSw.2.2.1
        clear hSw
        go_simp
        first | done | with_reducible rfl
      try simp only [Act.put, List.setIfInBounds_toArray, List.set_cons_zero, List.set_cons_succ]
      refine wpAnyH_ready (rs := [8]) (by kernel_rfl) (by simp) ?_
      refine AllReadyH.cons (o := ⟨some 51, _, _, _, _, _⟩) rfl (fun K hK => ?_) AllReadyH.nil
      go_simp
      refine (HI.out _).mono ?_
      rintro e wq8 ⟨rfl, hbq⟩
      go_wp2_with fail
      refine hK.out _ _ (⟨hS.1.trans (hbq.mono hS.1.size), (hbq.cell (p := ⟨gb, i, none⟩) hS.2.2.2.1.lt).trans hS.2.1, (hbq.cell (p := ⟨gr, k, none⟩) hS.2.2.2.2.lt).trans hS.2.2.1, (hbq.block _ hS.2.2.2.1.lt).trans hS.2.2.2.1, (hbq.block _ hS.2.2.2.2.lt).trans hS.2.2.2.2⟩) (fun hS => ?_)
      clear hK K
      try simp only [Act.put, List.setIfInBounds_toArray, List.set_cons_zero, List.set_cons_succ]
      refine wpAnyH_ready (rs := [17]) (by kernel_rfl) (by simp) ?_
      refine AllReadyH.cons (o := ⟨some 60, _, _, _, _, _⟩) rfl (fun K hK => ?_) AllReadyH.nil
      go_simp
      refine (HRR.out _).mono ?_
      rintro e wq17 ⟨rfl, hbq⟩
      go_wp2_with fail
      refine hK.out _ _ (⟨hS.1.trans (hbq.mono hS.1.size), (hbq.cell (p := ⟨gb, i, none⟩) hS.2.2.2.1.lt).trans hS.2.1, (hbq.cell (p := ⟨gr, k, none⟩) hS.2.2.2.2.lt).trans hS.2.2.1, (hbq.block _ hS.2.2.2.1.lt).trans hS.2.2.2.1, (hbq.block _ hS.2.2.2.2.lt).trans hS.2.2.2.2⟩) (fun hS => ?_)
      clear hK K
      try simp only [Act.put, List.setIfInBounds_toArray, List.set_cons_zero, List.set_cons_succ]
      refine wpAnyH_take (i := 18) (oi := ⟨some 61, _, _, _, _, _⟩) (v := ?_) rfl (by kernel_rfl) (by kernel_rfl) (by kernel_rfl) (fun _ _ _ h => h) (Or.inl ⟨by first | rfl | (simp [Region.wanted, yielded]; done), ?_⟩) hS ?_
      rotate_left
      · intro wz hSw
        clear hSw
        go_simp
        first | done | with_reducible rfl
      try simp only [Act.put, List.setIfInBounds_toArray, List.set_cons_zero, List.set_cons_succ]
      refine wpAnyH_done (by kernel_rfl) ?_ _
      go_wp2_with fail
      obtain ⟨g, hg⟩ : ∃ g, k + 1 + g = 3 := ⟨2 - k, by omega⟩
      go_roundg g
      case measure => have := HKG.out; omega
      case rel => exact ⟨k + 1, hg, by go_num, hS.2.2.2.1, hS.2.2.2.2, hS.1⟩
end Go.Proofs.Ytbkokckpjmbjhaa
