/- References: the walk of IriOwn. -/
import Derived.Test.YtbkokckpjmbjhaaKl
import Derived.Test.YtbkokckpjmbjhaaKo
import Derived.Deep.RegionLaw
namespace Go.Proofs.Ytbkokckpjmbjhaa
open Go.RowKit Go.Shelf
set_option maxRecDepth 100000
set_option linter.unusedVariables false
theorem own_scheme (t : List UInt8) : (splitL (115 :: 58 :: t)).s = [115, 58] := by
  unfold splitL schemeL
  have h1 : frontL [58, 47, 63, 35] (115 :: 58 :: t) = [115] := by rw [front_cons, front_cons]; rfl
  have h2 : restL [58, 47, 63, 35] (115 :: 58 :: t) = 58 :: t := by rw [rest_cons, rest_cons]; rfl
  rw [h1, h2]
  rfl
theorem own_frag (t : List UInt8) : splitL (35 :: t) = ⟨[], [], [], [], 35 :: t⟩ := by
  have h1 : frontL [58, 47, 63, 35] (35 :: t) = [] := by rw [front_cons]; rfl
  have h2 : schemeL (35 :: t) = ([], 35 :: t) := scheme_none (.inl h1)
  have h3 : authL (35 :: t) = ([], 35 :: t) := by
    unfold authL
    have h : Lib.hasPrefix (35 :: t) [47, 47] = false := rfl
    rw [h]
    rfl
  have h4 : frontL [63, 35] (35 :: t) = [] := by rw [front_cons]; rfl
  have h5 : restL [63, 35] (35 :: t) = 35 :: t := by rw [rest_cons]; rfl
  have h6 : frontL [35] (35 :: t) = [] := by rw [front_cons]; rfl
  have h7 : restL [35] (35 :: t) = 35 :: t := by rw [rest_cons]; rfl
  unfold splitL
  rw [h2, h3, h4, h5, h6, h7]
/-- Only letters up to here. -/
def lowTo (l : List UInt8) (k : Nat) : Prop := ∀ (j : Nat) (h : j < l.length), j < k → 97 ≤ l[j].toNat ∧ l[j].toNat ≤ 122
theorem low_ascii {l : List UInt8} (h : lowTo l l.length) : ∀ c ∈ l, c.toNat < 128 := fun c hc => by
  obtain ⟨j, hj, rfl⟩ := List.mem_iff_getElem.1 hc
  have := h j hj hj
  omega
set_option maxHeartbeats 16000000 in
theorem iown_walk (v0 v1 v2 : Value) (l0 l1 l2 : List Int) (word : ByteArray) (w : World) (h0 : Nl w v0 l0) (h1 : Nl w v1 l1) (h2 : Nl w v2 l2) :
    Calls Try.prog 6 #[v0, v1, v2, .string word] w fun e w' => e = .returned (.bool true) ∧ Below w.heap.size w w' := by
  have HK := Lib.hid (fun w => known10_any w)
  have b0 := h0.le
  have b1 := h1.le
  have b2 := h2.le
  obtain ⟨x0, hx0⟩ := exists_ba (refL l0)
  obtain ⟨x1, hx1⟩ := exists_ba (refL l1)
  obtain ⟨x2, hx2⟩ := exists_ba (refL l2)
  have HF0 := Lib.hid (fun w h => ref10_any v0 l0 b0 w h x0 hx0)
  have HF1 := Lib.hid (fun w h => ref10_any v1 l1 b1 w h x1 hx1)
  have HRF := Lib.hid (fun w h => ref10_any v2 l2 b2 w h x2 hx2)
  have HN0 := Lib.hid h0
  have HN1 := Lib.hid h1
  have HN2 := Lib.hid h2
  have HX := Lib.hid (And.intro hx0 (And.intro hx1 hx2))
  obtain ⟨wl, hwl⟩ : ∃ l, l = word.data.toList := ⟨_, rfl⟩
  have HWL := Lib.hid hwl
  have HWS := Lib.hid (show word.size = wl.length by rw [hwl, Lib.size_eq])
  have HGET := Lib.hid (show ∀ (i : Nat) (h : i < word.size) (h' : i < wl.length), word[i]'h = wl[i] from fun i h h' => by subst hwl; rfl)
  clear h0 h1 h2 hx0 hx1 hx2 hwl
  go_enter Try.func6, Try.ntmps6
  go_wp2_with fail
  refine (HK.out _).mono ?_
  rintro e w1 ⟨rfl, hb1⟩
  by_cases hlen : (10 : Int) < word.size
  · go_wp2_with fail
    go_ret
    exact ⟨rfl, hb1⟩
  go_wp2_with fail
  have HB1 := Lib.hid hb1
  have hwi : (word.size : Int) ≤ 10 := by omega
  clear hb1 hlen
  go_loopg [9] word.size (fun g s9 wx => ∃ i : Nat, i + g = word.size ∧ s9 = .int .i64 i ∧ wx = w1 ∧ lowTo wl i)
  case atStart => exact ⟨0, by omega, rfl, rfl, fun j _ h => by omega⟩
  case round =>
    obtain ⟨i, hig, rfl, rfl, hlow⟩ := hrel
    have HLOW := Lib.hid hlow
    clear hlow
    cases gk with
    | succ g =>
      have hi : i < word.size := by omega
      have hiz : (i : Int) < word.size := by omega
      have hil : i < wl.length := by have := HWS.out; omega
      obtain ⟨d, hd⟩ : ∃ d, d = wl[i] := ⟨_, rfl⟩
      have hg : word[i]'hi = d := by rw [hd]; exact HGET.out i hi hil
      have HD := Lib.hid hd
      clear hd
      by_cases c1 : ((d.toNat : Nat) : Int) < 97
      · go_wp2_with fail
        go_ret
        exact ⟨rfl, HB1.out⟩
      by_cases c2 : (122 : Int) < ((d.toNat : Nat) : Int)
      · go_wp2_with fail
        go_ret
        exact ⟨rfl, HB1.out⟩
      go_wp2_with fail
      go_roundg g
      case measure => omega
      case rel =>
        refine ⟨i + 1, by omega, by go_num, rfl, fun j hj hji => ?_⟩
        by_cases e : j = i
        · subst e
          rw [← HD.out]
          omega
        · exact HLOW.out j hj (by omega)
    | zero =>
      obtain rfl : i = word.size := by omega
      have hn : ¬ ((word.size : Int) < word.size) := by omega
      have HASC := Lib.hid (low_ascii (l := wl) (by have := HLOW.out; rw [HWS.out] at this; exact this))
      clear hn
      have s0 : x0.size ≤ 50 := by rw [Lib.size_eq, HX.out.1]; exact ref_len _
      have s1 : x1.size ≤ 50 := by rw [Lib.size_eq, HX.out.2.1]; exact ref_len _
      have s2 : x2.size ≤ 50 := by rw [Lib.size_eq, HX.out.2.2]; exact ref_len _
      have hn : ¬ ((word.size : Int) < word.size) := by omega
      obtain ⟨r, hr⟩ : ∃ r : ByteArray, (⟨#[115, 58]⟩ : ByteArray) ++ x0 = r := ⟨_, rfl⟩
      have hrl : r.data.toList = 115 :: 58 :: refL l0 := by rw [← hr, ← HX.out.1]; simp
      have hrs : r.size ≤ 60 := by rw [← hr, ByteArray.size_append]; show 2 + x0.size ≤ 60; omega
      have had1 : 2 + x0.size ≤ 9223372036854775807 := by omega
      obtain ⟨f, hf⟩ : ∃ f : ByteArray, (⟨#[35]⟩ : ByteArray) ++ word = f := ⟨_, rfl⟩
      have hfl : f.data.toList = 35 :: wl := by rw [← hf, HWL.out]; simp
      have hfs : f.size ≤ 11 := by rw [← hf, ByteArray.size_append]; show 1 + word.size ≤ 11; omega
      have had2 : ¬ 9223372036854775807 < 1 + word.size := by omega
      have hm1 : MarksAt x1.data.toList := marksAt_ascii (by rw [HX.out.2.1]; exact ref_ascii _)
      have hm2 : MarksAt x2.data.toList := marksAt_ascii (by rw [HX.out.2.2]; exact ref_ascii _)
      have hmr : MarksAt r.data.toList := marksAt_ascii (by
        rw [hrl]
        intro c hc
        rcases List.mem_cons.1 hc with rfl | hc
        · decide
        · rcases List.mem_cons.1 hc with rfl | hc
          · decide
          · exact ref_ascii _ c hc)
      have hmf : MarksAt f.data.toList := marksAt_ascii (by
        rw [hfl]
        intro c hc
        rcases List.mem_cons.1 hc with rfl | hc
        · decide
        · exact HASC.out c hc)
      obtain ⟨z1, hz1⟩ := exists_ba (resolveL (splitL x1.data.toList) (splitL r.data.toList))
      have hz2 : z1.data.toList = resolveL (splitL x2.data.toList) (splitL r.data.toList) := by
        rw [hz1]
        unfold resolveL
        rw [hrl, own_scheme]
        rfl
      obtain ⟨p0, hp0⟩ := exists_ba (splitL x1.data.toList).s
      obtain ⟨p1, hp1⟩ := exists_ba (splitL x1.data.toList).a
      obtain ⟨p2, hp2⟩ := exists_ba (splitL x1.data.toList).p
      obtain ⟨p3, hp3⟩ := exists_ba (splitL x1.data.toList).q
      obtain ⟨p4, hp4⟩ := exists_ba (splitL x1.data.toList).f
      obtain ⟨z3, hz3⟩ : ∃ z : ByteArray, p0 ++ p1 ++ p2 ++ p3 ++ (⟨#[35]⟩ : ByteArray) ++ word = z := ⟨_, rfl⟩
      have hz4 : z3.data.toList = resolveL (splitL x1.data.toList) (splitL f.data.toList) := by
        rw [hfl, own_frag]
        unfold resolveL
        simp only [ne_eq, not_true_eq_false, if_false, if_true]
        rw [← hz3, ← hp0, ← hp1, ← hp2, ← hp3, HWL.out]
        simp
      have hpt := pt_sizes x1.data.toList
      rw [← hp0, ← hp1, ← hp2, ← hp3, ← hp4, ← Lib.size_eq, ← Lib.size_eq, ← Lib.size_eq, ← Lib.size_eq, ← Lib.size_eq, ← Lib.size_eq] at hpt
      have t2 : ¬ 9223372036854775807 < p0.size + p1.size := by omega
      have t3 : ¬ 9223372036854775807 < p0.size + p1.size + p2.size := by omega
      have t4 : ¬ 9223372036854775807 < p0.size + p1.size + p2.size + p3.size := by omega
      have t5 : ¬ 9223372036854775807 < p0.size + p1.size + p2.size + p3.size + 1 := by omega
      have t6 : ¬ 9223372036854775807 < p0.size + p1.size + p2.size + p3.size + 1 + word.size := by omega
      have HSP := Lib.hid (fun w => rsplit_any x1 (by omega) w)
      rw [show ptV (splitL x1.data.toList) = .agg #[.string p0, .string p1, .string p2, .string p3, .string p4] by unfold ptV; rw [← hp0, ← hp1, ← hp2, ← hp3, ← hp4]] at HSP
      have HR1 := Lib.hid (fun w => iresolve_any x1 r (by omega) (by omega) hm1 hmr z1 hz1 w)
      have HR2 := Lib.hid (fun w => iresolve_any x2 r (by omega) (by omega) hm2 hmr z1 hz2 w)
      have HR3 := Lib.hid (fun w => iresolve_any x1 f (by omega) (by omega) hm1 hmf z3 hz4 w)
      clear hm1 hm2 hmr hmf hz1 hz2 hz4 hp0 hp1 hp2 hp3 hp4 hpt hrl hfl hrs hfs
      go_wp2_with fail
      refine (HF0.out _ (HN0.out.below HB1.out)).mono ?_
      rintro e w2 ⟨rfl, hb2⟩
      have hbel := HB1.out.trans (hb2.mono HB1.out.size)
      clear hb2
      go_wp2_with fail
      refine (HF1.out _ (HN1.out.below hbel)).mono ?_
      rintro e w3 ⟨rfl, hb3⟩
      replace hbel := hbel.trans (hb3.mono hbel.size)
      clear hb3
      go_wp2_with fail
      refine (HSP.out _).mono ?_
      rintro e w4 ⟨rfl, hb4⟩
      replace hbel := hbel.trans (hb4.mono hbel.size)
      clear hb4
      go_upto_region 13 with fail
      have hB := Blk.new w4 #[.string p0, .string p1, .string p2, .string p3, .string p4] 26
      replace hbel := hbel.alloc hbel.size (.cells #[.string p0, .string p1, .string p2, .string p3, .string p4] 26)
      generalize w4.heap.size = G at hB ⊢
      generalize w4.alloc _ = w5 at hB hbel ⊢
      refine wp_region_any (by kernel_rfl) ?_
      change wpAny _ _ _ _ _ _ _ (World.drew _)
      refine wpAny_of_held (S := fun W => Below w.heap.size w W ∧ Blk W G #[.string p0, .string p1, .string p2, .string p3, .string p4] 26) _ _ _ _ ?_
      have hS : (fun W => Below w.heap.size w W ∧ Blk W G #[.string p0, .string p1, .string p2, .string p3, .string p4] 26) (World.drew w5) := ⟨below_drew hbel, hB.drew⟩
      refine wpAnyH_take (i := 0) (oi := ⟨some 41, _, _, _, _, _⟩) (v := ?_) rfl (by kernel_rfl) (by kernel_rfl) (by kernel_rfl) (fun _ _ _ h => h) (Or.inl ⟨by first | rfl | (simp [Region.wanted, yielded]; done), ?_⟩) hS ?_
      rotate_left
      · intro wz hSw
        clear hSw
        go_simp
        first | done | with_reducible rfl
      try simp only [Act.put, List.setIfInBounds_toArray, List.set_cons_zero, List.set_cons_succ]
      refine wpAnyH_take (i := 1) (oi := ⟨some 42, _, _, _, _, _⟩) (v := ?_) rfl (by kernel_rfl) (by kernel_rfl) (by kernel_rfl) (fun _ _ _ h => h) (Or.inl ⟨by first | rfl | (simp [Region.wanted, yielded]; done), ?_⟩) hS ?_
      rotate_left
      · intro wz hSw
        clear hSw
        go_simp
        first | done | with_reducible rfl
      try simp only [Act.put, List.setIfInBounds_toArray, List.set_cons_zero, List.set_cons_succ]
      refine wpAnyH_take (i := 3) (oi := ⟨some 44, _, _, _, _, _⟩) (v := ?_) rfl (by kernel_rfl) (by kernel_rfl) (by kernel_rfl) (fun _ _ _ h => h) (Or.inl ⟨by first | rfl | (simp [Region.wanted, yielded]; done), ?_⟩) hS ?_
      rotate_left
      · intro wz hSw
        clear hSw
        go_simp
        first | done | with_reducible rfl
      try simp only [Act.put, List.setIfInBounds_toArray, List.set_cons_zero, List.set_cons_succ]
      refine wpAnyH_take (i := 5) (oi := ⟨some 46, _, _, _, _, _⟩) (v := ?_) rfl (by kernel_rfl) (by kernel_rfl) (by kernel_rfl) (fun _ _ _ h => h) (Or.inl ⟨by first | rfl | (simp [Region.wanted, yielded]; done), ?_⟩) hS ?_
      rotate_left
      · intro wz hSw
        clear hSw
        go_simp
        first | done | with_reducible rfl
      try simp only [Act.put, List.setIfInBounds_toArray, List.set_cons_zero, List.set_cons_succ]
      refine wpAnyH_ready (rs := [2]) (by kernel_rfl) (by simp) ?_
      refine AllReadyH.cons (o := ⟨some 43, _, _, _, _, _⟩) rfl (fun K hK => ?_) (AllReadyH.nil)
      · go_simp
        refine (HR1.out _).mono ?_
        rintro e wq ⟨rfl, hbq⟩
        go_wp2_with fail
        refine hK.out _ _ (⟨hS.1.trans (hbq.mono hS.1.size), (hbq.block _ hS.2.lt).trans hS.2⟩) (fun hS => ?_)
        clear hK K
        try simp only [Act.put, List.setIfInBounds_toArray, List.set_cons_zero, List.set_cons_succ]
        refine wpAnyH_ready (rs := [4]) (by kernel_rfl) (by simp) ?_
        refine AllReadyH.cons (o := ⟨some 45, _, _, _, _, _⟩) rfl (fun K hK => ?_) (AllReadyH.nil)
        · go_simp
          refine (HRF.out _ (HN2.out.below hS.1)).mono ?_
          rintro e wq ⟨rfl, hbq⟩
          go_wp2_with fail
          refine hK.out _ _ (⟨hS.1.trans (hbq.mono hS.1.size), (hbq.block _ hS.2.lt).trans hS.2⟩) (fun hS => ?_)
          clear hK K
          try simp only [Act.put, List.setIfInBounds_toArray, List.set_cons_zero, List.set_cons_succ]
          refine wpAnyH_ready (rs := [6]) (by kernel_rfl) (by simp) ?_
          refine AllReadyH.cons (o := ⟨some 47, _, _, _, _, _⟩) rfl (fun K hK => ?_) (AllReadyH.nil)
          · go_simp
            refine (HR2.out _).mono ?_
            rintro e wq ⟨rfl, hbq⟩
            go_wp2_with fail
            refine hK.out _ _ (⟨hS.1.trans (hbq.mono hS.1.size), (hbq.block _ hS.2.lt).trans hS.2⟩) (fun hS => ?_)
            clear hK K
            try simp only [Act.put, List.setIfInBounds_toArray, List.set_cons_zero, List.set_cons_succ]
            refine wpAnyH_take (i := 7) (oi := ⟨some 48, _, _, _, _, _⟩) (v := ?_) rfl (by kernel_rfl) (by kernel_rfl) (by kernel_rfl) (fun _ _ _ h => h) (Or.inl ⟨by first | rfl | (simp [Region.wanted, yielded]; done), ?_⟩) hS ?_
            rotate_left
            · intro wz hSw
              clear hSw
              go_simp
              first | done | with_reducible rfl
            try simp only [Act.put, List.setIfInBounds_toArray, List.set_cons_zero, List.set_cons_succ]
            refine wpAnyH_take (i := 8) (oi := ⟨some 49, _, _, _, _, _⟩) (v := ?_) rfl (by kernel_rfl) (by kernel_rfl) (by kernel_rfl) (fun _ _ _ h => h) (Or.inl ⟨by first | rfl | (simp [Region.wanted, yielded]; done), ?_⟩) hS ?_
            rotate_left
            · intro wz hSw
              clear hSw
              go_simp
              first | done | with_reducible rfl
            try simp only [Act.put, List.setIfInBounds_toArray, List.set_cons_zero, List.set_cons_succ]
            refine wpAnyH_take (i := 9) (oi := ⟨some 50, _, _, _, _, _⟩) (v := ?_) rfl (by kernel_rfl) (by kernel_rfl) (by kernel_rfl) (fun _ _ _ h => h) (Or.inl ⟨by first | rfl | (simp [Region.wanted, yielded]; done), ?_⟩) hS ?_
            rotate_left
            · intro wz hSw
              clear hSw
              go_simp
              first | done | with_reducible rfl
            try simp only [Act.put, List.setIfInBounds_toArray, List.set_cons_zero, List.set_cons_succ]
            refine wpAnyH_take (i := 10) (oi := ⟨some 51, _, _, _, _, _⟩) (v := ?_) rfl (by kernel_rfl) (by kernel_rfl) (by kernel_rfl) (fun _ _ _ h => h) (Or.inl ⟨by first | rfl | (simp [Region.wanted, yielded]; done), ?_⟩) hS ?_
            rotate_left
            · intro wz hSw
              clear hSw
              go_simp
              first | done | with_reducible rfl
            try simp only [Act.put, List.setIfInBounds_toArray, List.set_cons_zero, List.set_cons_succ]
            refine wpAnyH_take (i := 11) (oi := ⟨some 52, _, _, _, _, _⟩) (v := ?_) rfl (by kernel_rfl) (by kernel_rfl) (by kernel_rfl) (fun _ _ _ h => h) (Or.inl ⟨by first | rfl | (simp [Region.wanted, yielded]; done), ?_⟩) hS ?_
            rotate_left
            · intro wz hSw
              clear hSw
              go_simp
              first | done | with_reducible rfl
            try simp only [Act.put, List.setIfInBounds_toArray, List.set_cons_zero, List.set_cons_succ]
            refine wpAnyH_take (i := 13) (oi := ⟨some 54, _, _, _, _, _⟩) (v := ?_) rfl (by kernel_rfl) (by kernel_rfl) (by kernel_rfl) (fun _ _ _ h => h) (Or.inl ⟨by first | rfl | (simp [Region.wanted, yielded]; done), ?_⟩) hS ?_
            rotate_left
            · intro wz hSw
              clear hSw
              go_simp
              first | done | with_reducible rfl
            try simp only [Act.put, List.setIfInBounds_toArray, List.set_cons_zero, List.set_cons_succ]
            refine wpAnyH_take (i := 14) (oi := ⟨some 55, _, _, _, _, _⟩) (v := ?_) rfl (by kernel_rfl) (by kernel_rfl) (by kernel_rfl) (fun _ _ _ h => h) (Or.inl ⟨by first | rfl | (simp [Region.wanted, yielded]; done), ?_⟩) hS ?_
            rotate_left
            · intro wz hSw
              have zc := hSw.2.cell 0
              simp only [List.getElem?_toArray, List.getElem?_cons_zero] at zc
              clear hSw
              go_simp
              first | done | with_reducible rfl
            try simp only [Act.put, List.setIfInBounds_toArray, List.set_cons_zero, List.set_cons_succ]
            refine wpAnyH_take (i := 15) (oi := ⟨some 56, _, _, _, _, _⟩) (v := ?_) rfl (by kernel_rfl) (by kernel_rfl) (by kernel_rfl) (fun _ _ _ h => h) (Or.inl ⟨by first | rfl | (simp [Region.wanted, yielded]; done), ?_⟩) hS ?_
            rotate_left
            · intro wz hSw
              clear hSw
              go_simp
              first | done | with_reducible rfl
            try simp only [Act.put, List.setIfInBounds_toArray, List.set_cons_zero, List.set_cons_succ]
            refine wpAnyH_take (i := 16) (oi := ⟨some 57, _, _, _, _, _⟩) (v := ?_) rfl (by kernel_rfl) (by kernel_rfl) (by kernel_rfl) (fun _ _ _ h => h) (Or.inl ⟨by first | rfl | (simp [Region.wanted, yielded]; done), ?_⟩) hS ?_
            rotate_left
            · intro wz hSw
              have zc := hSw.2.cell 1
              simp only [List.getElem?_toArray, List.getElem?_cons_zero, List.getElem?_cons_succ] at zc
              clear hSw
              go_simp
              first | done | with_reducible rfl
            try simp only [Act.put, List.setIfInBounds_toArray, List.set_cons_zero, List.set_cons_succ]
            refine wpAnyH_take (i := 17) (oi := ⟨some 58, _, _, _, _, _⟩) (v := ?_) rfl (by kernel_rfl) (by kernel_rfl) (by kernel_rfl) (fun _ _ _ h => h) (Or.inl ⟨by first | rfl | (simp [Region.wanted, yielded]; done), ?_⟩) hS ?_
            rotate_left
            · intro wz hSw
              clear hSw
              go_simp
              first | done | with_reducible rfl
            try simp only [Act.put, List.setIfInBounds_toArray, List.set_cons_zero, List.set_cons_succ]
            refine wpAnyH_take (i := 18) (oi := ⟨some 59, _, _, _, _, _⟩) (v := ?_) rfl (by kernel_rfl) (by kernel_rfl) (by kernel_rfl) (fun _ _ _ h => h) (Or.inl ⟨by first | rfl | (simp [Region.wanted, yielded]; done), ?_⟩) hS ?_
            rotate_left
            · intro wz hSw
              clear hSw
              go_simp
              first | done | with_reducible rfl
            try simp only [Act.put, List.setIfInBounds_toArray, List.set_cons_zero, List.set_cons_succ]
            refine wpAnyH_take (i := 19) (oi := ⟨some 60, _, _, _, _, _⟩) (v := ?_) rfl (by kernel_rfl) (by kernel_rfl) (by kernel_rfl) (fun _ _ _ h => h) (Or.inl ⟨by first | rfl | (simp [Region.wanted, yielded]; done), ?_⟩) hS ?_
            rotate_left
            · intro wz hSw
              have zc := hSw.2.cell 2
              simp only [List.getElem?_toArray, List.getElem?_cons_zero, List.getElem?_cons_succ] at zc
              clear hSw
              go_simp
              first | done | with_reducible rfl
            try simp only [Act.put, List.setIfInBounds_toArray, List.set_cons_zero, List.set_cons_succ]
            refine wpAnyH_take (i := 20) (oi := ⟨some 61, _, _, _, _, _⟩) (v := ?_) rfl (by kernel_rfl) (by kernel_rfl) (by kernel_rfl) (fun _ _ _ h => h) (Or.inl ⟨by first | rfl | (simp [Region.wanted, yielded]; done), ?_⟩) hS ?_
            rotate_left
            · intro wz hSw
              clear hSw
              go_simp
              first | done | with_reducible rfl
            try simp only [Act.put, List.setIfInBounds_toArray, List.set_cons_zero, List.set_cons_succ]
            refine wpAnyH_take (i := 21) (oi := ⟨some 62, _, _, _, _, _⟩) (v := ?_) rfl (by kernel_rfl) (by kernel_rfl) (by kernel_rfl) (fun _ _ _ h => h) (Or.inl ⟨by first | rfl | (simp [Region.wanted, yielded]; done), ?_⟩) hS ?_
            rotate_left
            · intro wz hSw
              clear hSw
              go_simp
              first | done | with_reducible rfl
            try simp only [Act.put, List.setIfInBounds_toArray, List.set_cons_zero, List.set_cons_succ]
            refine wpAnyH_take (i := 22) (oi := ⟨some 63, _, _, _, _, _⟩) (v := ?_) rfl (by kernel_rfl) (by kernel_rfl) (by kernel_rfl) (fun _ _ _ h => h) (Or.inl ⟨by first | rfl | (simp [Region.wanted, yielded]; done), ?_⟩) hS ?_
            rotate_left
            · intro wz hSw
              have zc := hSw.2.cell 3
              simp only [List.getElem?_toArray, List.getElem?_cons_zero, List.getElem?_cons_succ] at zc
              clear hSw
              go_simp
              first | done | with_reducible rfl
            try simp only [Act.put, List.setIfInBounds_toArray, List.set_cons_zero, List.set_cons_succ]
            refine wpAnyH_take (i := 23) (oi := ⟨some 64, _, _, _, _, _⟩) (v := ?_) rfl (by kernel_rfl) (by kernel_rfl) (by kernel_rfl) (fun _ _ _ h => h) (Or.inl ⟨by first | rfl | (simp [Region.wanted, yielded]; done), ?_⟩) hS ?_
            rotate_left
            · intro wz hSw
              clear hSw
              go_simp
              first | done | with_reducible rfl
            try simp only [Act.put, List.setIfInBounds_toArray, List.set_cons_zero, List.set_cons_succ]
            refine wpAnyH_take (i := 24) (oi := ⟨some 65, _, _, _, _, _⟩) (v := ?_) rfl (by kernel_rfl) (by kernel_rfl) (by kernel_rfl) (fun _ _ _ h => h) (Or.inl ⟨by first | rfl | (simp [Region.wanted, yielded]; done), ?_⟩) hS ?_
            rotate_left
            · intro wz hSw
              clear hSw
              go_simp
              first | done | with_reducible rfl
            try simp only [Act.put, List.setIfInBounds_toArray, List.set_cons_zero, List.set_cons_succ]
            refine wpAnyH_take (i := 25) (oi := ⟨some 66, _, _, _, _, _⟩) (v := ?_) rfl (by kernel_rfl) (by kernel_rfl) (by kernel_rfl) (fun _ _ _ h => h) (Or.inl ⟨by first | rfl | (simp [Region.wanted, yielded]; done), ?_⟩) hS ?_
            rotate_left
            · intro wz hSw
              clear hSw
              go_simp
              first | done | with_reducible rfl
            try simp only [Act.put, List.setIfInBounds_toArray, List.set_cons_zero, List.set_cons_succ]
            refine wpAnyH_take (i := 26) (oi := ⟨some 67, _, _, _, _, _⟩) (v := ?_) rfl (by kernel_rfl) (by kernel_rfl) (by kernel_rfl) (fun _ _ _ h => h) (Or.inl ⟨by first | rfl | (simp [Region.wanted, yielded]; done), ?_⟩) hS ?_
            rotate_left
            · intro wz hSw
              clear hSw
              go_simp
              first | done | with_reducible rfl
            try simp only [Act.put, List.setIfInBounds_toArray, List.set_cons_zero, List.set_cons_succ]
            refine wpAnyH_ready (rs := [12]) (by kernel_rfl) (by simp) ?_
            refine AllReadyH.cons (o := ⟨some 53, _, _, _, _, _⟩) rfl (fun K hK => ?_) AllReadyH.nil
            go_simp
            refine (HR3.out _).mono ?_
            rintro e wq12 ⟨rfl, hbq⟩
            go_wp2_with fail
            refine hK.out _ _ (⟨hS.1.trans (hbq.mono hS.1.size), (hbq.block _ hS.2.lt).trans hS.2⟩) (fun hS => ?_)
            clear hK K
            try simp only [Act.put, List.setIfInBounds_toArray, List.set_cons_zero, List.set_cons_succ]
            refine wpAnyH_take (i := 27) (oi := ⟨some 68, _, _, _, _, _⟩) (v := ?_) rfl (by kernel_rfl) (by kernel_rfl) (by kernel_rfl) (fun _ _ _ h => h) (Or.inl ⟨by first | rfl | (simp [Region.wanted, yielded]; done), ?_⟩) hS ?_
            rotate_left
            · intro wz hSw
              clear hSw
              go_simp
              first | done | with_reducible rfl
            try simp only [Act.put, List.setIfInBounds_toArray, List.set_cons_zero, List.set_cons_succ]
            refine wpAnyH_take (i := 28) (oi := ⟨some 69, _, _, _, _, _⟩) (v := ?_) rfl (by kernel_rfl) (by kernel_rfl) (by kernel_rfl) (fun _ _ _ h => h) (Or.inl ⟨by first | rfl | (simp [Region.wanted, yielded]; done), ?_⟩) hS ?_
            rotate_left
            · intro wz hSw
              clear hSw
              go_simp
              first | done | with_reducible rfl
            try simp only [Act.put, List.setIfInBounds_toArray, List.set_cons_zero, List.set_cons_succ]
            refine wpAnyH_take (i := 29) (oi := ⟨some 8, _, _, _, _, _⟩) (v := ?_) rfl (by kernel_rfl) (by kernel_rfl) (by kernel_rfl) (fun _ _ _ h => h) (Or.inl ⟨by first | rfl | (simp [Region.wanted, yielded]; done), ?_⟩) hS ?_
            rotate_left
            · intro wz hSw
              clear hSw
              go_simp
              first | done | with_reducible rfl
            try simp only [Act.put, List.setIfInBounds_toArray, List.set_cons_zero, List.set_cons_succ]
            refine wpAnyH_done (by kernel_rfl) ?_ _
            go_wp2_with fail
            go_ret
            exact ⟨rfl, hS.1⟩
end Go.Proofs.Ytbkokckpjmbjhaa
