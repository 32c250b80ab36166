/- Signs: triadref11's one. -/
import Derived.Test.YtmeoleacfkbilaaDoorLu
import Derived.Deep.CutBlock
namespace Go.Proofs.YtmeoleacfkbilaaDoor
open Go.RowKit Go.Shelf
set_option maxRecDepth 100000
set_option linter.unusedVariables false
set_option linter.unusedSimpArgs false
/-- A token, and the place behind it; 0: there is none. -/
def OneTo (o : Option (Tok × List UInt8)) (l : List UInt8) (w0 : World) (e : Ending) (w' : World) : Prop :=
  ∃ (k : Int) (a : ByteArray) (n : Nat), e = .returned (.tuple #[.agg #[.int .i64 k, .string a], .int .i64 n]) ∧ Below w0.heap.size w0 w' ∧ (match o with
    | some p => k = p.1.1 ∧ a = ⟨p.1.2.toArray⟩ ∧ p.2 = l.drop n ∧ 0 < n ∧ n ≤ l.length
    | none => n = 0)
def nextB (r : List UInt8) : UInt8 := r.headD 0
theorem head_next (p : UInt8 → Bool) (r : List UInt8) (h0 : p 0 = false) : headIs p r = p (nextB r) := by
  cases r with
  | nil => exact h0.symm
  | cons c t => rfl
theorem numN_le (l : List UInt8) : numN l ≤ l.length := by
  have h1 := takeWhile_len digitC l
  unfold numN
  split
  · rename_i x hx
    rw [hx, List.length_cons] at h1
    have h2 := takeWhile_len digitC x
    split <;> omega
  · omega
set_option maxHeartbeats 16000000 in
theorem rone (s : ByteArray) (hs : s.size ≤ 1000000) (i : Nat) (hi : i < s.size) (l : List UInt8) (hl : l = s.data.toList) (hil : i < l.length) (c : UInt8) (hc : c = l[i]) (r : List UInt8) (hr : r = l.drop (i + 1)) (w : World) :
    Calls Tryd.prog 17 #[.string s, .int .i64 i] w (OneTo (tokenL c r) l w) := by
  have hsz : s.size = l.length := by rw [hl, Lib.size_eq]
  have hget : ∀ (i : Nat) (h : i < s.size) (h' : i < l.length), s[i]'h = l[i] := fun i h h' => by subst hl; rfl
  have hgi : s[i]'hi = c := by rw [hc]; exact hget i hi hil
  have hdi : l.drop i = c :: r := by rw [List.drop_eq_getElem_cons hil, hc, hr]
  obtain ⟨nx, hnx⟩ : ∃ n, n = nextB r := ⟨_, rfl⟩
  have HRI := Lib.hid (fun w => riri s hs i hi w)
  rw [← hl, hdi, ← hr] at HRI
  have HWD := Lib.hid (fun k (hk : k ≤ 1000000) w => rwords s hs k hk false false w)
  simp only [← hl, cls_name] at HWD
  have HTX := Lib.hid (fun hq w => rtext s hs i hi l hl hil c hc.symm hq w)
  rw [← hr] at HTX
  have HLG := Lib.hid (fun k (hk : k ≤ 1000000) w => rlang s hs k hk w)
  simp only [← hl] at HLG
  have HNU := Lib.hid (fun w => rnumber s hs i (by omega) w)
  rw [← hl, hdi] at HNU
  have HNM := Lib.hid (fun hcl w => rname s hs i hi l hl hil hcl w)
  rw [← hc] at HNM
  obtain ⟨si, hsi0⟩ : ∃ z, s.extract i s.size = z := ⟨_, rfl⟩
  have hsil : si.data.toList = c :: r := by rw [← hsi0, ext_from, ← hl, hdi]
  have HSG := Lib.hid (fun w => rsign11 si (Nat.le_trans (by rw [← hsi0, ByteArray.size_extract]; omega : si.size ≤ s.size) hs) c r hsil w)
  have HDG := Lib.hid (fun w => rdigit c w)
  have HLT := Lib.hid (fun w => rletter c w)
  have HLN := Lib.hid (fun w => rletter nx w)
  have HEX := Lib.hid (fun a b => show s.extract a b = ⟨((l.drop a).take (b - a)).toArray⟩ from ba_ext (by rw [ext_to, hl]))
  have HDI := Lib.hid hdi
  have HR := Lib.hid hr
  have HNX := Lib.hid hnx
  have HSZ := Lib.hid hsz
  have HS := Lib.hid hs
  have hii : (i : Int) < s.size := by omega
  have hi0 : (0 : Int) ≤ i := by omega
  have hsi : (s.size : Int) ≤ 1000000 := by omega
  have hal : Below w.heap.size w (w.alloc (.cells #[.int .i64 0, .string ⟨#[]⟩] 36)) := (Below.refl _ _).alloc (Nat.le_refl _) _
  have hb0 := Blk.new w #[.int .i64 0, .string ⟨#[]⟩] 36
  have HGN := Lib.hid (fun (h : i + 1 < s.size) => show s[i + 1]'h = nx from by
    have h' : i + 1 < l.length := by omega
    rw [hget (i + 1) h h', hnx, hr, List.drop_eq_getElem_cons h']
    rfl)
  have HN0 := Lib.hid (fun (h : ¬ i + 1 < s.size) => show nx = 0 from by
    rw [hnx, hr, List.drop_eq_nil_of_le (by omega)]; rfl)
  have HLL := Lib.hid hl
  clear hl hsz hget hc hr hdi hnx hsil
  go_enter Tryd.func17, Tryd.ntmps17
  go_upto_if 24 with fail
  go_cut [7] from 25 to 28 (fun s7 wx => s7 = .int .u8 ((nx.toNat : Nat) : Int) ∧ Blk wx w.heap.size #[.int .i64 0, .string ⟨#[]⟩] 36 ∧ Below w.heap.size w wx)
  case first =>
    by_cases h1 : (i : Int) + 1 < s.size
    · have hn : i + 1 < s.size := by omega
      have hgn := HGN.out hn
      go_wp2_with fail
      go_meet
      exact ⟨rfl, hb0, hal⟩
    · have hn0 := HN0.out (by omega)
      have HX := Lib.hid hn0
      clear hn0
      go_wp2_with fail
      go_meet
      exact ⟨by rw [HX.out]; rfl, hb0, hal⟩
  case rest =>
    obtain ⟨rfl, hB1, hbe1⟩ := hcut
    clear hb0 hal
    obtain ⟨i1, hi1⟩ : ∃ k, k = i + 1 := ⟨_, rfl⟩
    obtain ⟨i2, hi2⟩ : ∃ k, k = i + 2 := ⟨_, rfl⟩
    rw [← hi1] at HRI
    have h1e : (i : Int) + 1 = (i1 : Int) := by omega
    have h2e : (i : Int) + 2 = (i2 : Int) := by omega
    have hw1 : IntKind.i64.wrap (i1 : Int) = (i1 : Int) := Go.wrap_small _ (Int.natCast_nonneg _) (by omega)
    have hw2 : IntKind.i64.wrap (i2 : Int) = (i2 : Int) := Go.wrap_small _ (Int.natCast_nonneg _) (by omega)
    have hd60 : headIs (fun x => x == 60) (c :: r) = (c == 60) := rfl
    rw [hd60] at HRI
    have HI1 := Lib.hid (show i1 = i + 1 ∧ i2 = i + 2 ∧ i1 ≤ s.size from ⟨hi1, hi2, by omega⟩)
    have HD1 := Lib.hid (show l.drop i1 = r from by rw [hi1]; exact HR.out.symm)
    have hi1n : (i1 : Int) ≤ s.size := by omega
    clear hi1 hi2 hd60
    by_cases hI : ((c == 60) = true ∧ headIs (fun x => x == 62) (r.dropWhile refC) = true)
    · skip
      rw [if_pos hI] at HRI
      obtain ⟨K0, hK0⟩ : ∃ k, k = Wl refC l i1 := ⟨_, rfl⟩
      rw [← hK0] at HRI
      have hk0 := wl_le (p := refC) (l := l) (i := i1) (by have := HI1.out; have := HSZ.out; omega)
      have hkt := wl_take (p := refC) (l := l) (i := i1)
      rw [← hK0] at hk0 hkt
      rw [HD1.out] at hkt
      have hhead : l.drop K0 = 62 :: (r.dropWhile refC).drop 1 := by
        rw [hkt.2]
        have := hI.2
        cases hd : r.dropWhile refC with
        | nil => rw [hd] at this; cases this
        | cons x y => rw [hd] at this; have e : x = 62 := by simpa [headIs] using this
                      rw [e]; rfl
      have hk0l : K0 < l.length := by
        rcases Nat.lt_or_ge K0 l.length with h | h
        · exact h
        · rw [List.drop_eq_nil_of_le h] at hhead; cases hhead
      obtain ⟨K1, hK1⟩ : ∃ k, k = K0 + 1 := ⟨_, rfl⟩
      rw [← hK1] at HRI
      have HOUT := Lib.hid (show tokenL c r = some ((1, r.takeWhile refC), (r.dropWhile refC).drop 1) from by
        have e : c = 60 := by simpa using hI.1
        rw [e]; exact tok_lt hI.2)
      obtain ⟨A, hA⟩ : ∃ z, s.extract i1 K0 = z := ⟨_, rfl⟩
      have HAV := Lib.hid (show A = ⟨(r.takeWhile refC).toArray⟩ from by rw [← hA, HEX.out, HD1.out, hkt.1])
      have HYV := Lib.hid (show (r.dropWhile refC).drop 1 = l.drop K1 from by
        have := congrArg (List.drop 1) hhead
        rw [List.drop_drop] at this
        rw [hK1, this]; rfl)
      have HKL := Lib.hid (show K1 ≤ l.length by omega)
      have hk1e : (K1 : Int) - 1 = (K0 : Int) := by omega
      have hwk : IntKind.i64.wrap (K0 : Int) = (K0 : Int) := Go.wrap_small _ (Int.natCast_nonneg _) (by have := HSZ.out; omega)
      have hkp : (0 : Int) < (K1 : Int) := by omega
      have hk0i : (i1 : Int) ≤ (K0 : Int) := by omega
      have hk0s : (K0 : Int) ≤ s.size := by have := HSZ.out; omega
      clear hI hK0 hk0 hkt hhead hk0l hK1
      have z0 := hB1.cell 0
      have z1 := hB1.cell 1
      have y0 := hB1.frozen 0
      have y1 := hB1.frozen 1
      simp only [List.getElem?_toArray, List.getElem?_cons_zero, List.getElem?_cons_succ] at z0 z1
      go_wp2_with fail
      refine (HRI.out _).mono ?_
      rintro e wq ⟨rfl, hw⟩
      obtain rfl := hw.symm
      clear hw
      go_wp2_with fail
      refine wp_region_any (by kernel_rfl) ?_
      change wpAny _ _ _ _ _ _ _ (World.drew _)
      refine wpAny_of_held (S := fun (_ : World) => True) _ _ _ _ ?_
      have hS : (fun (_ : World) => True) (World.drew wc) := trivial
      refine wpAnyH_take (i := 0) (oi := ⟨some 34, _, _, _, _, _⟩) (v := ?_) rfl (by kernel_rfl) (by kernel_rfl) (by kernel_rfl) (fun _ _ _ h => h) (Or.inl ⟨by simp only [Region.wanted], ?_⟩) hS ?_
      rotate_left
      · intro wz hSw
        clear hSw
        go_simp
        first | done | with_reducible rfl
      try simp only [Act.put, List.setIfInBounds_toArray, List.set_cons_zero, List.set_cons_succ]
      refine wpAnyH_take (i := 1) (oi := ⟨some 35, _, _, _, _, _⟩) (v := ?_) rfl (by kernel_rfl) (by kernel_rfl) (by kernel_rfl) (fun _ _ _ h => h) (Or.inl ⟨by simp only [Region.wanted], ?_⟩) hS ?_
      rotate_left
      · intro wz hSw
        clear hSw
        go_simp
        first | done | with_reducible rfl
      try simp only [Act.put, List.setIfInBounds_toArray, List.set_cons_zero, List.set_cons_succ]
      refine wpAnyH_take (i := 2) (oi := ⟨some 36, _, _, _, _, _⟩) (v := ?_) rfl (by kernel_rfl) (by kernel_rfl) (by kernel_rfl) (fun _ _ _ h => h) (Or.inl ⟨by simp only [Region.wanted], ?_⟩) hS ?_
      rotate_left
      · intro wz hSw
        clear hSw
        go_simp
        first | done | with_reducible rfl
      try simp only [Act.put, List.setIfInBounds_toArray, List.set_cons_zero, List.set_cons_succ]
      refine wpAnyH_take (i := 3) (oi := ⟨some 37, _, _, _, _, _⟩) (v := ?_) rfl (by kernel_rfl) (by kernel_rfl) (by kernel_rfl) (fun _ _ _ h => h) (Or.inl ⟨by simp only [Region.wanted], ?_⟩) hS ?_
      rotate_left
      · intro wz hSw
        clear hSw
        go_simp
        first | done | with_reducible rfl
      try simp only [Act.put, List.setIfInBounds_toArray, List.set_cons_zero, List.set_cons_succ]
      refine wpAnyH_take (i := 4) (oi := ⟨some 38, _, _, _, _, _⟩) (v := ?_) rfl (by kernel_rfl) (by kernel_rfl) (by kernel_rfl) (fun _ _ _ h => h) (Or.inl ⟨by simp only [Region.wanted], ?_⟩) hS ?_
      rotate_left
      · intro wz hSw
        clear hSw
        go_simp
        first | done | with_reducible rfl
      try simp only [Act.put, List.setIfInBounds_toArray, List.set_cons_zero, List.set_cons_succ]
      refine wpAnyH_take (i := 9) (oi := ⟨some 43, _, _, _, _, _⟩) (v := ?_) rfl (by kernel_rfl) (by kernel_rfl) (by kernel_rfl) (fun _ _ _ h => h) (Or.inl ⟨by simp only [Region.wanted], ?_⟩) hS ?_
      rotate_left
      · intro wz hSw
        clear hSw
        go_simp
        first | done | with_reducible rfl
      try simp only [Act.put, List.setIfInBounds_toArray, List.set_cons_zero, List.set_cons_succ]
      refine wpAnyH_take (i := 10) (oi := ⟨some 44, _, _, _, _, _⟩) (v := ?_) rfl (by kernel_rfl) (by kernel_rfl) (by kernel_rfl) (fun _ _ _ h => h) (Or.inl ⟨by simp only [Region.wanted], ?_⟩) hS ?_
      rotate_left
      · intro wz hSw
        clear hSw
        go_simp
        first | done | with_reducible rfl
      try simp only [Act.put, List.setIfInBounds_toArray, List.set_cons_zero, List.set_cons_succ]
      refine wpAnyH_ready (rs := [5]) (by kernel_rfl) (by simp) ?_
      refine AllReadyH.cons (o := ⟨some 39, _, _, _, _, _⟩) rfl (fun K hK => ?_) AllReadyH.nil
      go_simp
      refine (HRI.out _).mono ?_
      rintro e wq ⟨rfl, hw⟩
      obtain rfl := hw.symm
      clear hw
      go_wp2_with fail
      refine hK.out _ _ trivial (fun hS => ?_)
      clear hK K
      try simp only [Act.put, List.setIfInBounds_toArray, List.set_cons_zero, List.set_cons_succ]
      refine wpAnyH_take (i := 6) (oi := ⟨some 40, _, _, _, _, _⟩) (v := ?_) rfl (by kernel_rfl) (by kernel_rfl) (by kernel_rfl) (fun _ _ _ h => h) (Or.inl ⟨by simp only [Region.wanted], ?_⟩) hS ?_
      rotate_left
      · intro wz hSw
        clear hSw
        go_simp
        first | done | with_reducible rfl
      try simp only [Act.put, List.setIfInBounds_toArray, List.set_cons_zero, List.set_cons_succ]
      refine wpAnyH_take (i := 7) (oi := ⟨some 41, _, _, _, _, _⟩) (v := ?_) rfl (by kernel_rfl) (by kernel_rfl) (by kernel_rfl) (fun _ _ _ h => h) (Or.inl ⟨by simp only [Region.wanted], ?_⟩) hS ?_
      rotate_left
      · intro wz hSw
        clear hSw
        go_simp
        first | done | with_reducible rfl
      try simp only [Act.put, List.setIfInBounds_toArray, List.set_cons_zero, List.set_cons_succ]
      refine wpAnyH_take (i := 8) (oi := ⟨some 42, _, _, _, _, _⟩) (v := ?_) rfl (by kernel_rfl) (by kernel_rfl) (by kernel_rfl) (fun _ _ _ h => h) (Or.inl ⟨by simp only [Region.wanted], ?_⟩) hS ?_
      rotate_left
      · intro wz hSw
        clear hSw
        go_simp
        first | done | with_reducible rfl
      try simp only [Act.put, List.setIfInBounds_toArray, List.set_cons_zero, List.set_cons_succ]
      refine wpAnyH_ready (rs := [11]) (by kernel_rfl) (by simp) ?_
      refine AllReadyH.cons (o := ⟨some 45, _, _, _, _, _⟩) rfl (fun K hK => ?_) AllReadyH.nil
      go_simp
      refine (HRI.out _).mono ?_
      rintro e wq ⟨rfl, hw⟩
      obtain rfl := hw.symm
      clear hw
      go_wp2_with fail
      refine hK.out _ _ trivial (fun hS => ?_)
      clear hK K
      try simp only [Act.put, List.setIfInBounds_toArray, List.set_cons_zero, List.set_cons_succ]
      refine wpAnyH_ready (rs := [12]) (by kernel_rfl) (by simp) ?_
      refine AllReadyH.cons (o := ⟨none, _, _, _, _, _⟩) rfl (fun K hK => ?_) AllReadyH.nil
      go_simp
      refine hK.out _ _ (trivial) (fun hS => ?_)
      clear hK K
      try simp only [Act.put, List.setIfInBounds_toArray, List.set_cons_zero, List.set_cons_succ]
      refine wpAnyH_take (i := 13) (oi := ⟨some 5, _, _, _, _, _⟩) (v := ?_) rfl (by kernel_rfl) (by kernel_rfl) (by kernel_rfl) (fun _ _ _ h => h) (Or.inl ⟨by simp only [Region.wanted], ?_⟩) hS ?_
      rotate_left
      · intro wz hSw
        clear hSw
        go_simp
        first | done | with_reducible rfl
      try simp only [Act.put, List.setIfInBounds_toArray, List.set_cons_zero, List.set_cons_succ]
      refine wpAnyH_done (by kernel_rfl) ?_ _
      go_wp2_with fail
      have hz := ((hB1).set 0 (.int .i64 1)).set 1 (.string A)
      simp only [List.setIfInBounds_toArray, List.set_cons_zero, List.set_cons_succ] at hz
      have hbz := ((hbe1).setCell (p := ⟨w.heap.size, 0, none⟩) (Nat.le_refl _) (.int .i64 1)).setCell (p := ⟨w.heap.size, 1, none⟩) (Nat.le_refl _) (.string A)
      try simp only [Exit.inBlock, Exit.then]
      refine bodyPost_ret (results_cell_tmp_row (p := 4) (u := 5) (ty := 36) (by kernel_rfl) _ _ w.heap.size _ _ _ _ rfl hz Tryd.underlying36 rfl (by kernel_rfl)) rfl ?_
      unfold OneTo
      rw [HOUT.out]
      exact ⟨_, _, K1, rfl, below_drew hbz, rfl, HAV.out, HYV.out, by omega, HKL.out⟩
    · skip
      have HNI := Lib.hid hI
      rw [if_neg hI] at HRI
      have HRI0 := Lib.hid (fun w => show Calls Tryd.prog 33 #[.string s, .int .i64 i] w (fun e w' => e = .returned (.int .i64 0) ∧ w' = w) from HRI.out w)
      clear hI
      by_cases h95 : c = 95 ∧ nx = 58
      · skip
        have hc95 := h95.1
        have hnx58 : (((nx.toNat : Nat) : Int) == 58) = true := by rw [h95.2]; decide
        have hr58 : headIs (fun x => x == 58) r = true := by rw [head_next _ r (by decide), ← HNX.out, h95.2]; decide
        have hb95 : (((c.toNat : Nat) : Int) == 95) = true := by rw [hc95]; decide
        have hb63 : (((c.toNat : Nat) : Int) == 63) = false := by rw [hc95]; decide
        have hb36 : (((c.toNat : Nat) : Int) == 36) = false := by rw [hc95]; decide
        have hb34 : (((c.toNat : Nat) : Int) == 34) = false := by rw [hc95]; decide
        have hb39 : (((c.toNat : Nat) : Int) == 39) = false := by rw [hc95]; decide
        have hb64 : (((c.toNat : Nat) : Int) == 64) = false := by rw [hc95]; decide
        have hb58 : (((c.toNat : Nat) : Int) == 58) = false := by rw [hc95]; decide
        rw [show digitC c = false from by rw [hc95]; decide] at HDG
        rw [show letterC c = false from by rw [hc95]; decide] at HLT
        have hi2s : i2 ≤ s.size := by
          have h1 : i + 1 < s.size := by
            rcases Nat.lt_or_ge (i + 1) s.size with h | h
            · exact h
            · have := HN0.out (by omega); rw [h95.2] at this; exact absurd this (by decide)
          have := HI1.out; omega
        have hi2i : (i2 : Int) ≤ s.size := by omega
        have HW := Lib.hid (fun w => HWD.out i2 (by omega) w)
        have hdst : l.drop i2 = r.drop 1 := by rw [HR.out, List.drop_drop]; congr 1; have := HI1.out; omega
        have hkt := wl_take (p := nameC) (l := l) (i := i2)
        have hkl := wl_le (p := nameC) (l := l) (i := i2) (by have := HSZ.out; omega)
        obtain ⟨K, hK⟩ : ∃ k, k = Wl nameC l i2 := ⟨_, rfl⟩
        rw [← hK] at hkt hkl HW
        by_cases hgt : (i2 : Int) < (K : Int)
        · have hhd : headIs nameC (r.drop 1) = true := by
            rw [head_row, ← hdst]
            intro e
            unfold Wl at hK
            rw [e] at hK
            simp at hK
            omega
          have HOUT := Lib.hid (show tokenL c r = some ((3, (r.drop 1).takeWhile nameC), (r.drop 1).dropWhile nameC) from by rw [hc95]; exact tok_blank hr58 hhd)
          obtain ⟨A, hA⟩ : ∃ z, s.extract i2 K = z := ⟨_, rfl⟩
          have HAV := Lib.hid (show A = ⟨((r.drop 1).takeWhile nameC).toArray⟩ from by rw [← hA, HEX.out, hkt.1, hdst])
          have HYV := Lib.hid (show (r.drop 1).dropWhile nameC = l.drop K from by rw [hkt.2, hdst])
          have HKL := Lib.hid (show 0 < K ∧ K ≤ l.length by omega)
          have hKs : (K : Int) ≤ s.size := by have := HSZ.out; omega
          have hKi : (i2 : Int) ≤ (K : Int) := by omega
          clear hkt hkl hK hdst
          clear h95 hc95 hr58 hhd
          have z0 := hB1.cell 0
          have z1 := hB1.cell 1
          have y0 := hB1.frozen 0
          have y1 := hB1.frozen 1
          simp only [List.getElem?_toArray, List.getElem?_cons_zero, List.getElem?_cons_succ] at z0 z1
          go_wp2_with fail
          refine (HRI0.out _).mono ?_
          rintro e wq ⟨rfl, hw⟩
          obtain rfl := hw.symm
          clear hw
          go_wp2_with fail
          refine (HW.out _).mono ?_
          rintro e wq ⟨rfl, hw⟩
          obtain rfl := hw.symm
          clear hw
          go_wp2_with fail
          refine (HW.out _).mono ?_
          rintro e wq ⟨rfl, hw⟩
          obtain rfl := hw.symm
          clear hw
          go_wp2_with fail
          have hz := ((hB1).set 0 (.int .i64 3)).set 1 (.string A)
          simp only [List.setIfInBounds_toArray, List.set_cons_zero, List.set_cons_succ] at hz
          have hbz := ((hbe1).setCell (p := ⟨w.heap.size, 0, none⟩) (Nat.le_refl _) (.int .i64 3)).setCell (p := ⟨w.heap.size, 1, none⟩) (Nat.le_refl _) (.string A)
          try simp only [Exit.inBlock, Exit.then]
          refine bodyPost_ret (results_cell_tmp_row (p := 4) (u := 5) (ty := 36) (by kernel_rfl) _ _ w.heap.size _ _ _ _ rfl hz Tryd.underlying36 rfl (by kernel_rfl)) rfl ?_
          unfold OneTo
          rw [HOUT.out]
          exact ⟨_, _, K, rfl, hbz, rfl, HAV.out, HYV.out, HKL.out.1, HKL.out.2⟩
        · have hhd : headIs nameC (r.drop 1) = false := by
            rw [Bool.eq_false_iff]
            intro e
            rw [head_row, ← hdst] at e
            have : 0 < ((l.drop i2).takeWhile nameC).length := List.length_pos_iff.2 e
            unfold Wl at hK
            omega
          have hke : (K : Int) ≤ (i2 : Int) := by omega
          have HOUT := Lib.hid (show tokenL c r = signL (c :: r) from by rw [hc95]; exact tok_blank_sign hhd)
          clear h95 hc95 hr58 hhd hkt hkl hK hdst
          go_wp2_with fail
          refine (HRI0.out _).mono ?_
          rintro e wq ⟨rfl, hw⟩
          obtain rfl := hw.symm
          clear hw
          go_wp2_with fail
          refine (HW.out _).mono ?_
          rintro e wq ⟨rfl, hw⟩
          obtain rfl := hw.symm
          clear hw
          go_wp2_with fail
          refine (HDG.out _).mono ?_
          rintro e wq ⟨rfl, hw⟩
          obtain rfl := hw.symm
          clear hw
          go_wp2_with fail
          refine (HLT.out _).mono ?_
          rintro e wq ⟨rfl, hw⟩
          obtain rfl := hw.symm
          clear hw
          go_wp2_with fail
          refine (HLT.out _).mono ?_
          rintro e wq ⟨rfl, hw⟩
          obtain rfl := hw.symm
          clear hw
          go_wp2_with fail
          refine (HSG.out _).mono ?_
          rintro e wz ⟨rfl, hbx⟩
          replace hbe1 := hbe1.trans (hbx.mono hbe1.size)
          replace hB1 : Blk wz w.heap.size _ _ := (hbx.block _ hB1.lt).trans hB1
          clear hbx
          have hsn := sign_of (c :: r)
          have hzl := signZ_le (c :: r)
          obtain ⟨Z, hZ⟩ : ∃ z, z = signZ (c :: r) := ⟨_, rfl⟩
          rw [← hZ] at hsn hzl ⊢
          rw [List.length_cons] at hzl
          have z0 := hB1.cell 0
          have z1 := hB1.cell 1
          have y0 := hB1.frozen 0
          have y1 := hB1.frozen 1
          simp only [List.getElem?_toArray, List.getElem?_cons_zero, List.getElem?_cons_succ] at z0 z1
          by_cases hz0 : Z = 0
          · have HN := Lib.hid (HOUT.out.trans (hsn.trans (if_pos hz0)))
            subst hz0
            clear hsn hzl hZ
            go_wp2_with fail
            have hz := ((hB1).set 0 (.int .i64 0)).set 1 (.string ⟨#[]⟩)
            simp only [List.setIfInBounds_toArray, List.set_cons_zero, List.set_cons_succ] at hz
            have hbz := ((hbe1).setCell (p := ⟨w.heap.size, 0, none⟩) (Nat.le_refl _) (.int .i64 0)).setCell (p := ⟨w.heap.size, 1, none⟩) (Nat.le_refl _) (.string ⟨#[]⟩)
            try simp only [Exit.inBlock, Exit.then]
            refine bodyPost_ret (results_cell_tmp_row (p := 4) (u := 5) (ty := 36) (by kernel_rfl) _ _ w.heap.size _ _ _ _ rfl hz Tryd.underlying36 rfl (by kernel_rfl)) rfl ?_
            unfold OneTo
            rw [HN.out]
            exact ⟨_, _, 0, rfl, hbz, rfl⟩
          · have HN := Lib.hid (HOUT.out.trans (hsn.trans (if_neg hz0)))
            have hzb : ((Z : Int) == 0) = false := by simpa using hz0
            obtain ⟨K, hK⟩ : ∃ k, k = i + Z := ⟨_, rfl⟩
            have hKl : K ≤ l.length := by
              have h1 := congrArg List.length HDI.out
              rw [List.length_drop, List.length_cons] at h1
              omega
            have hKe : (i : Int) + (Z : Int) = (K : Int) := by omega
            have hKw : IntKind.i64.wrap (K : Int) = (K : Int) := Go.wrap_small _ (Int.natCast_nonneg _) (by have := HSZ.out; omega)
            have hKi : (i : Int) ≤ (K : Int) := by omega
            have hKs : (K : Int) ≤ s.size := by have := HSZ.out; omega
            obtain ⟨A, hA⟩ : ∃ z, s.extract i K = z := ⟨_, rfl⟩
            have HAV := Lib.hid (show A = ⟨((c :: r).take Z).toArray⟩ from by rw [← hA, HEX.out, HDI.out, hK, Nat.add_sub_cancel_left])
            have HYV := Lib.hid (show (c :: r).drop Z = l.drop K from by rw [hK, ← List.drop_drop, HDI.out])
            have HKL := Lib.hid (And.intro hKl (show 0 < K by omega))
            clear hsn hzl hZ hz0 hK hKl
            go_wp2_with fail
            have hz := ((hB1).set 0 (.int .i64 9)).set 1 (.string A)
            simp only [List.setIfInBounds_toArray, List.set_cons_zero, List.set_cons_succ] at hz
            have hbz := ((hbe1).setCell (p := ⟨w.heap.size, 0, none⟩) (Nat.le_refl _) (.int .i64 9)).setCell (p := ⟨w.heap.size, 1, none⟩) (Nat.le_refl _) (.string A)
            try simp only [Exit.inBlock, Exit.then]
            refine bodyPost_ret (results_cell_tmp_row (p := 4) (u := 5) (ty := 36) (by kernel_rfl) _ _ w.heap.size _ _ _ _ rfl hz Tryd.underlying36 rfl (by kernel_rfl)) rfl ?_
            unfold OneTo
            rw [HN.out]
            exact ⟨_, _, K, rfl, hbz, rfl, HAV.out, HYV.out, HKL.out.2, HKL.out.1⟩
      by_cases htx : c = 34 ∨ c = 39
      · skip
        have HC := Lib.hid htx
        have HT := Lib.hid (fun w => HTX.out htx w)
        have HTK := Lib.hid (tok_text (r := r) htx)
        clear htx h95
        rcases HC.out with hc | hc
        · skip
          have hb95 : (((c.toNat : Nat) : Int) == 95) = false := by rw [hc]; decide
          have hb63 : (((c.toNat : Nat) : Int) == 63) = false := by rw [hc]; decide
          have hb36 : (((c.toNat : Nat) : Int) == 36) = false := by rw [hc]; decide
          have hb34 : (((c.toNat : Nat) : Int) == 34) = true := by rw [hc]; decide
          have hb39 : (((c.toNat : Nat) : Int) == 39) = false := by rw [hc]; decide
          have hb64 : (((c.toNat : Nat) : Int) == 64) = false := by rw [hc]; decide
          have hb58 : (((c.toNat : Nat) : Int) == 58) = false := by rw [hc]; decide
          rw [show digitC c = false from by rw [hc]; decide] at HDG
          rw [show letterC c = false from by rw [hc]; decide] at HLT
          clear hc
          go_wp2_with fail
          refine (HRI0.out _).mono ?_
          rintro e wq ⟨rfl, hw⟩
          obtain rfl := hw.symm
          clear hw
          go_wp2_with fail
          refine (HT.out _).mono ?_
          intro e wz hh
          unfold RTo at hh
          obtain ⟨a2, n2, rfl, hbx, hq⟩ := hh
          replace hbe1 := hbe1.trans (hbx.mono hbe1.size)
          replace hB1 : Blk wz w.heap.size _ _ := (hbx.block _ hB1.lt).trans hB1
          clear hbx
          have HQ := Lib.hid hq
          clear hq
          have z0 := hB1.cell 0
          have z1 := hB1.cell 1
          have y0 := hB1.frozen 0
          have y1 := hB1.frozen 1
          simp only [List.getElem?_toArray, List.getElem?_cons_zero, List.getElem?_cons_succ] at z0 z1
          go_wp2_with fail
          have hz := ((hB1).set 0 (.int .i64 5)).set 1 (.string a2)
          simp only [List.setIfInBounds_toArray, List.set_cons_zero, List.set_cons_succ] at hz
          have hbz := ((hbe1).setCell (p := ⟨w.heap.size, 0, none⟩) (Nat.le_refl _) (.int .i64 5)).setCell (p := ⟨w.heap.size, 1, none⟩) (Nat.le_refl _) (.string a2)
          try simp only [Exit.inBlock, Exit.then]
          refine bodyPost_ret (results_cell_tmp_row (p := 4) (u := 5) (ty := 36) (by kernel_rfl) _ _ w.heap.size _ _ _ _ rfl hz Tryd.underlying36 rfl (by kernel_rfl)) rfl ?_
          unfold OneTo
          rw [HTK.out]
          refine ⟨_, _, n2, rfl, hbz, ?_⟩
          have hq := HQ.out
          unfold textV
          cases ht : textL11 c r with
          | none => rw [ht] at hq; exact hq
          | some p => rw [ht] at hq; exact ⟨rfl, hq.1, hq.2.1, hq.2.2.1, hq.2.2.2⟩
        · skip
          have hb95 : (((c.toNat : Nat) : Int) == 95) = false := by rw [hc]; decide
          have hb63 : (((c.toNat : Nat) : Int) == 63) = false := by rw [hc]; decide
          have hb36 : (((c.toNat : Nat) : Int) == 36) = false := by rw [hc]; decide
          have hb34 : (((c.toNat : Nat) : Int) == 34) = false := by rw [hc]; decide
          have hb39 : (((c.toNat : Nat) : Int) == 39) = true := by rw [hc]; decide
          have hb64 : (((c.toNat : Nat) : Int) == 64) = false := by rw [hc]; decide
          have hb58 : (((c.toNat : Nat) : Int) == 58) = false := by rw [hc]; decide
          rw [show digitC c = false from by rw [hc]; decide] at HDG
          rw [show letterC c = false from by rw [hc]; decide] at HLT
          clear hc
          go_wp2_with fail
          refine (HRI0.out _).mono ?_
          rintro e wq ⟨rfl, hw⟩
          obtain rfl := hw.symm
          clear hw
          go_wp2_with fail
          refine (HT.out _).mono ?_
          intro e wz hh
          unfold RTo at hh
          obtain ⟨a2, n2, rfl, hbx, hq⟩ := hh
          replace hbe1 := hbe1.trans (hbx.mono hbe1.size)
          replace hB1 : Blk wz w.heap.size _ _ := (hbx.block _ hB1.lt).trans hB1
          clear hbx
          have HQ := Lib.hid hq
          clear hq
          have z0 := hB1.cell 0
          have z1 := hB1.cell 1
          have y0 := hB1.frozen 0
          have y1 := hB1.frozen 1
          simp only [List.getElem?_toArray, List.getElem?_cons_zero, List.getElem?_cons_succ] at z0 z1
          go_wp2_with fail
          have hz := ((hB1).set 0 (.int .i64 5)).set 1 (.string a2)
          simp only [List.setIfInBounds_toArray, List.set_cons_zero, List.set_cons_succ] at hz
          have hbz := ((hbe1).setCell (p := ⟨w.heap.size, 0, none⟩) (Nat.le_refl _) (.int .i64 5)).setCell (p := ⟨w.heap.size, 1, none⟩) (Nat.le_refl _) (.string a2)
          try simp only [Exit.inBlock, Exit.then]
          refine bodyPost_ret (results_cell_tmp_row (p := 4) (u := 5) (ty := 36) (by kernel_rfl) _ _ w.heap.size _ _ _ _ rfl hz Tryd.underlying36 rfl (by kernel_rfl)) rfl ?_
          unfold OneTo
          rw [HTK.out]
          refine ⟨_, _, n2, rfl, hbz, ?_⟩
          have hq := HQ.out
          unfold textV
          cases ht : textL11 c r with
          | none => rw [ht] at hq; exact hq
          | some p => rw [ht] at hq; exact ⟨rfl, hq.1, hq.2.1, hq.2.2.1, hq.2.2.2⟩
      by_cases h63l : (c = 63 ∨ c = 36) ∧ letterC nx = true
      · obtain ⟨h63, hlt⟩ := h63l
        have HC := Lib.hid h63
        have hln : letterC nx = true := hlt
        rw [hln] at HLN
        have hhd : headIs letterC r = true := by rw [head_next _ r (by decide), ← HNX.out]; exact hln
        have HW := Lib.hid (fun w => HWD.out i1 (by have := HI1.out; omega) w)
        have hdst : l.drop i1 = r := HD1.out
        have hkt := wl_take (p := nameC) (l := l) (i := i1)
        have hkl := wl_le (p := nameC) (l := l) (i := i1) (by have := HSZ.out; omega)
        obtain ⟨K, hK⟩ : ∃ k, k = Wl nameC l i1 := ⟨_, rfl⟩
        rw [← hK] at hkt hkl HW
        have HOUT := Lib.hid (tok_var HC.out hhd)
        obtain ⟨A, hA⟩ : ∃ z, s.extract i1 K = z := ⟨_, rfl⟩
        have HAV := Lib.hid (show A = ⟨(r.takeWhile nameC).toArray⟩ from by rw [← hA, HEX.out, hkt.1, hdst])
        have HYV := Lib.hid (show r.dropWhile nameC = l.drop K from by rw [hkt.2, hdst])
        have HKL := Lib.hid (show 0 < K ∧ K ≤ l.length by omega)
        have hKs : (K : Int) ≤ s.size := by have := HSZ.out; omega
        have hKi : (i1 : Int) ≤ (K : Int) := by omega
        clear hkt hkl hK hdst
        clear h63 hlt hln hhd h95
        rcases HC.out with hc | hc
        · skip
          have hb95 : (((c.toNat : Nat) : Int) == 95) = false := by rw [hc]; decide
          have hb63 : (((c.toNat : Nat) : Int) == 63) = true := by rw [hc]; decide
          have hb36 : (((c.toNat : Nat) : Int) == 36) = false := by rw [hc]; decide
          have hb34 : (((c.toNat : Nat) : Int) == 34) = false := by rw [hc]; decide
          have hb39 : (((c.toNat : Nat) : Int) == 39) = false := by rw [hc]; decide
          have hb64 : (((c.toNat : Nat) : Int) == 64) = false := by rw [hc]; decide
          have hb58 : (((c.toNat : Nat) : Int) == 58) = false := by rw [hc]; decide
          rw [show digitC c = false from by rw [hc]; decide] at HDG
          rw [show letterC c = false from by rw [hc]; decide] at HLT
          clear hc
          have z0 := hB1.cell 0
          have z1 := hB1.cell 1
          have y0 := hB1.frozen 0
          have y1 := hB1.frozen 1
          simp only [List.getElem?_toArray, List.getElem?_cons_zero, List.getElem?_cons_succ] at z0 z1
          go_wp2_with fail
          refine (HRI0.out _).mono ?_
          rintro e wq ⟨rfl, hw⟩
          obtain rfl := hw.symm
          clear hw
          go_wp2_with fail
          refine (HLN.out _).mono ?_
          rintro e wq ⟨rfl, hw⟩
          obtain rfl := hw.symm
          clear hw
          go_wp2_with fail
          refine (HW.out _).mono ?_
          rintro e wq ⟨rfl, hw⟩
          obtain rfl := hw.symm
          clear hw
          go_wp2_with fail
          have hz := ((hB1).set 0 (.int .i64 4)).set 1 (.string A)
          simp only [List.setIfInBounds_toArray, List.set_cons_zero, List.set_cons_succ] at hz
          have hbz := ((hbe1).setCell (p := ⟨w.heap.size, 0, none⟩) (Nat.le_refl _) (.int .i64 4)).setCell (p := ⟨w.heap.size, 1, none⟩) (Nat.le_refl _) (.string A)
          try simp only [Exit.inBlock, Exit.then]
          refine bodyPost_ret (results_cell_tmp_row (p := 4) (u := 5) (ty := 36) (by kernel_rfl) _ _ w.heap.size _ _ _ _ rfl hz Tryd.underlying36 rfl (by kernel_rfl)) rfl ?_
          unfold OneTo
          rw [HOUT.out]
          exact ⟨_, _, K, rfl, hbz, rfl, HAV.out, HYV.out, HKL.out.1, HKL.out.2⟩
        · skip
          have hb95 : (((c.toNat : Nat) : Int) == 95) = false := by rw [hc]; decide
          have hb63 : (((c.toNat : Nat) : Int) == 63) = false := by rw [hc]; decide
          have hb36 : (((c.toNat : Nat) : Int) == 36) = true := by rw [hc]; decide
          have hb34 : (((c.toNat : Nat) : Int) == 34) = false := by rw [hc]; decide
          have hb39 : (((c.toNat : Nat) : Int) == 39) = false := by rw [hc]; decide
          have hb64 : (((c.toNat : Nat) : Int) == 64) = false := by rw [hc]; decide
          have hb58 : (((c.toNat : Nat) : Int) == 58) = false := by rw [hc]; decide
          rw [show digitC c = false from by rw [hc]; decide] at HDG
          rw [show letterC c = false from by rw [hc]; decide] at HLT
          clear hc
          have z0 := hB1.cell 0
          have z1 := hB1.cell 1
          have y0 := hB1.frozen 0
          have y1 := hB1.frozen 1
          simp only [List.getElem?_toArray, List.getElem?_cons_zero, List.getElem?_cons_succ] at z0 z1
          go_wp2_with fail
          refine (HRI0.out _).mono ?_
          rintro e wq ⟨rfl, hw⟩
          obtain rfl := hw.symm
          clear hw
          go_wp2_with fail
          refine (HLN.out _).mono ?_
          rintro e wq ⟨rfl, hw⟩
          obtain rfl := hw.symm
          clear hw
          go_wp2_with fail
          refine (HW.out _).mono ?_
          rintro e wq ⟨rfl, hw⟩
          obtain rfl := hw.symm
          clear hw
          go_wp2_with fail
          have hz := ((hB1).set 0 (.int .i64 4)).set 1 (.string A)
          simp only [List.setIfInBounds_toArray, List.set_cons_zero, List.set_cons_succ] at hz
          have hbz := ((hbe1).setCell (p := ⟨w.heap.size, 0, none⟩) (Nat.le_refl _) (.int .i64 4)).setCell (p := ⟨w.heap.size, 1, none⟩) (Nat.le_refl _) (.string A)
          try simp only [Exit.inBlock, Exit.then]
          refine bodyPost_ret (results_cell_tmp_row (p := 4) (u := 5) (ty := 36) (by kernel_rfl) _ _ w.heap.size _ _ _ _ rfl hz Tryd.underlying36 rfl (by kernel_rfl)) rfl ?_
          unfold OneTo
          rw [HOUT.out]
          exact ⟨_, _, K, rfl, hbz, rfl, HAV.out, HYV.out, HKL.out.1, HKL.out.2⟩
      by_cases h64 : c = 64 ∧ smallC nx = true
      · skip
        have hc64 := h64.1
        have hln : smallC nx = true := h64.2
        have hhd : headIs smallC r = true := by rw [head_next _ r (by decide), ← HNX.out]; exact hln
        have HW := Lib.hid (fun w => HLG.out i1 (by have := HI1.out; omega) w)
        have hdst : l.drop i1 = r := HD1.out
        have hkt := wl_take (p := spokC) (l := l) (i := i1)
        have hkl := wl_le (p := spokC) (l := l) (i := i1) (by have := HSZ.out; omega)
        obtain ⟨K, hK⟩ : ∃ k, k = Wl spokC l i1 := ⟨_, rfl⟩
        rw [← hK] at hkt hkl HW
        have HOUT := Lib.hid (show tokenL c r = some ((6, r.takeWhile spokC), r.dropWhile spokC) from by rw [hc64]; exact tok_lang hhd)
        obtain ⟨A, hA⟩ : ∃ z, s.extract i1 K = z := ⟨_, rfl⟩
        have HAV := Lib.hid (show A = ⟨(r.takeWhile spokC).toArray⟩ from by rw [← hA, HEX.out, hkt.1, hdst])
        have HYV := Lib.hid (show r.dropWhile spokC = l.drop K from by rw [hkt.2, hdst])
        have HKL := Lib.hid (show 0 < K ∧ K ≤ l.length by omega)
        have hKs : (K : Int) ≤ s.size := by have := HSZ.out; omega
        have hKi : (i1 : Int) ≤ (K : Int) := by omega
        clear hkt hkl hK hdst
        have hb95 : (((c.toNat : Nat) : Int) == 95) = false := by rw [hc64]; decide
        have hb63 : (((c.toNat : Nat) : Int) == 63) = false := by rw [hc64]; decide
        have hb36 : (((c.toNat : Nat) : Int) == 36) = false := by rw [hc64]; decide
        have hb34 : (((c.toNat : Nat) : Int) == 34) = false := by rw [hc64]; decide
        have hb39 : (((c.toNat : Nat) : Int) == 39) = false := by rw [hc64]; decide
        have hb64 : (((c.toNat : Nat) : Int) == 64) = true := by rw [hc64]; decide
        have hb58 : (((c.toNat : Nat) : Int) == 58) = false := by rw [hc64]; decide
        rw [show digitC c = false from by rw [hc64]; decide] at HDG
        rw [show letterC c = false from by rw [hc64]; decide] at HLT
        have hsm : 97 ≤ nx.toNat ∧ nx.toNat ≤ 122 := by unfold smallC smallN at hln; exact of_decide_eq_true hln
        have hsm1 : (97 : Int) ≤ ((nx.toNat : Nat) : Int) := by omega
        have hsm2 : ((nx.toNat : Nat) : Int) ≤ 122 := by omega
        clear h64 hc64 hln hhd h95 hsm
        have z0 := hB1.cell 0
        have z1 := hB1.cell 1
        have y0 := hB1.frozen 0
        have y1 := hB1.frozen 1
        simp only [List.getElem?_toArray, List.getElem?_cons_zero, List.getElem?_cons_succ] at z0 z1
        go_wp2_with fail
        refine (HRI0.out _).mono ?_
        rintro e wq ⟨rfl, hw⟩
        obtain rfl := hw.symm
        clear hw
        go_wp2_with fail
        refine (HW.out _).mono ?_
        rintro e wq ⟨rfl, hw⟩
        obtain rfl := hw.symm
        clear hw
        go_wp2_with fail
        have hz := ((hB1).set 0 (.int .i64 6)).set 1 (.string A)
        simp only [List.setIfInBounds_toArray, List.set_cons_zero, List.set_cons_succ] at hz
        have hbz := ((hbe1).setCell (p := ⟨w.heap.size, 0, none⟩) (Nat.le_refl _) (.int .i64 6)).setCell (p := ⟨w.heap.size, 1, none⟩) (Nat.le_refl _) (.string A)
        try simp only [Exit.inBlock, Exit.then]
        refine bodyPost_ret (results_cell_tmp_row (p := 4) (u := 5) (ty := 36) (by kernel_rfl) _ _ w.heap.size _ _ _ _ rfl hz Tryd.underlying36 rfl (by kernel_rfl)) rfl ?_
        unfold OneTo
        rw [HOUT.out]
        exact ⟨_, _, K, rfl, hbz, rfl, HAV.out, HYV.out, HKL.out.1, HKL.out.2⟩
      by_cases hdg : digitC c = true
      · skip
        have HOUT := Lib.hid (tok_num (r := r) hdg)
        obtain ⟨N, hN⟩ : ∃ n, n = numN (c :: r) := ⟨_, rfl⟩
        rw [← hN] at HOUT HNU
        have hnl : N ≤ (c :: r).length := by rw [hN]; exact numN_le _
        obtain ⟨K, hK⟩ : ∃ k, k = i + N := ⟨_, rfl⟩
        rw [← hK] at HNU
        have hKl : K ≤ l.length := by
          have h1 := congrArg List.length HDI.out
          rw [List.length_drop, List.length_cons] at h1
          rw [List.length_cons] at hnl
          omega
        have hNp : 0 < N := by rw [hN]; exact num_pos hdg
        obtain ⟨A, hA⟩ : ∃ z, s.extract i K = z := ⟨_, rfl⟩
        have HAV := Lib.hid (show A = ⟨((c :: r).take N).toArray⟩ from by rw [← hA, HEX.out, HDI.out, hK, Nat.add_sub_cancel_left])
        have HYV := Lib.hid (show (c :: r).drop N = l.drop K from by rw [hK, ← List.drop_drop, HDI.out])
        have HKL := Lib.hid (show 0 < K ∧ K ≤ l.length by omega)
        have hKi : (i : Int) ≤ (K : Int) := by omega
        have hKs : (K : Int) ≤ s.size := by have := HSZ.out; omega
        rw [show digitC c = true from hdg] at HDG
        obtain ⟨g1, g2, g3, g4, g5, g6, g7, g8⟩ := cls (.inl hdg)
        have hb95 : (((c.toNat : Nat) : Int) == 95) = false := u8_ne 95 rfl g4
        have hb63 : (((c.toNat : Nat) : Int) == 63) = false := u8_ne 63 rfl g5
        have hb36 : (((c.toNat : Nat) : Int) == 36) = false := u8_ne 36 rfl g6
        have hb34 : (((c.toNat : Nat) : Int) == 34) = false := u8_ne 34 rfl g2
        have hb39 : (((c.toNat : Nat) : Int) == 39) = false := u8_ne 39 rfl g3
        have hb64 : (((c.toNat : Nat) : Int) == 64) = false := u8_ne 64 rfl g7
        clear hN hnl hK hKl hNp g1 g2 g3 g4 g5 g6 g7 g8 hdg h95 htx h63l h64
        have z0 := hB1.cell 0
        have z1 := hB1.cell 1
        have y0 := hB1.frozen 0
        have y1 := hB1.frozen 1
        simp only [List.getElem?_toArray, List.getElem?_cons_zero, List.getElem?_cons_succ] at z0 z1
        go_wp2_with fail
        refine (HRI0.out _).mono ?_
        rintro e wq ⟨rfl, hw⟩
        obtain rfl := hw.symm
        clear hw
        go_wp2_with fail
        refine (HDG.out _).mono ?_
        rintro e wq ⟨rfl, hw⟩
        obtain rfl := hw.symm
        clear hw
        go_wp2_with fail
        refine (HNU.out _).mono ?_
        rintro e wq ⟨rfl, hw⟩
        obtain rfl := hw.symm
        clear hw
        go_wp2_with fail
        have hz := ((hB1).set 0 (.int .i64 7)).set 1 (.string A)
        simp only [List.setIfInBounds_toArray, List.set_cons_zero, List.set_cons_succ] at hz
        have hbz := ((hbe1).setCell (p := ⟨w.heap.size, 0, none⟩) (Nat.le_refl _) (.int .i64 7)).setCell (p := ⟨w.heap.size, 1, none⟩) (Nat.le_refl _) (.string A)
        try simp only [Exit.inBlock, Exit.then]
        refine bodyPost_ret (results_cell_tmp_row (p := 4) (u := 5) (ty := 36) (by kernel_rfl) _ _ w.heap.size _ _ _ _ rfl hz Tryd.underlying36 rfl (by kernel_rfl)) rfl ?_
        unfold OneTo
        rw [HOUT.out]
        exact ⟨_, _, K, rfl, hbz, rfl, HAV.out, HYV.out, HKL.out.1, HKL.out.2⟩
      by_cases hwd : letterC c = true ∨ c = 58
      · skip
        have hcl : letterC l[i] = true ∨ l[i] = 58 := by
          have : l[i] = c := by
            have h1 := HDI.out
            rw [List.drop_eq_getElem_cons hil] at h1
            exact (List.cons.inj h1).1
          rw [this]; exact hwd
        have HOUT0 := Lib.hid (tok_word (r := r) hwd)
        have HNA := Lib.hid (fun w => rname s hs i hi l HLL.out hil hcl w)
        obtain ⟨N, hN⟩ : ∃ n, n = nameZ l i := ⟨_, rfl⟩
        rw [← hN] at HNA
        have hNz : nameZ l i = match nameN11 (c :: r) with | some n => i + n | none => 0 := by unfold nameZ; rw [HDI.out]; rfl
        rw [← hN] at hNz
        cases hnm : nameN11 (c :: r) with
        | some n =>
          rw [hnm] at hNz
          have hKe : N = i + n := hNz
          have hKl : N ≤ l.length := by
            have h1 := congrArg List.length HDI.out
            rw [List.length_drop, List.length_cons] at h1
            have h2 := name_le hnm
            rw [List.length_cons] at h2
            omega
          have hNp : 0 < N := by have := name_pos hnm; omega
          have HOUT := Lib.hid (show tokenL c r = some ((2, (c :: r).take n), (c :: r).drop n) from by rw [HOUT0.out]; unfold wordV; rw [hnm])
          obtain ⟨A, hA⟩ : ∃ z, s.extract i N = z := ⟨_, rfl⟩
          have HAV := Lib.hid (show A = ⟨((c :: r).take n).toArray⟩ from by rw [← hA, HEX.out, HDI.out, hKe, Nat.add_sub_cancel_left])
          have HYV := Lib.hid (show (c :: r).drop n = l.drop N from by rw [hKe, ← List.drop_drop, HDI.out])
          have HKL := Lib.hid (show 0 < N ∧ N ≤ l.length from ⟨hNp, hKl⟩)
          have hKi : (i : Int) ≤ (N : Int) := by omega
          have hKs : (N : Int) ≤ s.size := by have := HSZ.out; omega
          have hNpi : (0 : Int) < (N : Int) := by omega
          clear hNz hKe hKl hNp hN hnm
          by_cases hlet : letterC c = true
          · skip
            obtain ⟨g1, g2, g3, g4, g5, g6, g7, g8⟩ := cls (.inr hlet)
            have hb95 : (((c.toNat : Nat) : Int) == 95) = false := u8_ne 95 rfl g4
            have hb63 : (((c.toNat : Nat) : Int) == 63) = false := u8_ne 63 rfl g5
            have hb36 : (((c.toNat : Nat) : Int) == 36) = false := u8_ne 36 rfl g6
            have hb34 : (((c.toNat : Nat) : Int) == 34) = false := u8_ne 34 rfl g2
            have hb39 : (((c.toNat : Nat) : Int) == 39) = false := u8_ne 39 rfl g3
            have hb64 : (((c.toNat : Nat) : Int) == 64) = false := u8_ne 64 rfl g7
            rw [show letterC c = true from hlet] at HLT
            rw [g8 hlet] at HDG
            clear g1 g2 g3 g4 g5 g6 g7 g8 hlet hwd hcl h95 htx h63l h64 hdg
            have z0 := hB1.cell 0
            have z1 := hB1.cell 1
            have y0 := hB1.frozen 0
            have y1 := hB1.frozen 1
            simp only [List.getElem?_toArray, List.getElem?_cons_zero, List.getElem?_cons_succ] at z0 z1
            go_wp2_with fail
            refine (HRI0.out _).mono ?_
            rintro e wq ⟨rfl, hw⟩
            obtain rfl := hw.symm
            clear hw
            go_wp2_with fail
            refine (HDG.out _).mono ?_
            rintro e wq ⟨rfl, hw⟩
            obtain rfl := hw.symm
            clear hw
            go_wp2_with fail
            refine (HLT.out _).mono ?_
            rintro e wq ⟨rfl, hw⟩
            obtain rfl := hw.symm
            clear hw
            go_wp2_with fail
            refine (HNA.out _).mono ?_
            rintro e wq ⟨rfl, hw⟩
            obtain rfl := hw.symm
            clear hw
            go_wp2_with fail
            refine (HNA.out _).mono ?_
            rintro e wq ⟨rfl, hw⟩
            obtain rfl := hw.symm
            clear hw
            go_wp2_with fail
            have hz := ((hB1).set 0 (.int .i64 2)).set 1 (.string A)
            simp only [List.setIfInBounds_toArray, List.set_cons_zero, List.set_cons_succ] at hz
            have hbz := ((hbe1).setCell (p := ⟨w.heap.size, 0, none⟩) (Nat.le_refl _) (.int .i64 2)).setCell (p := ⟨w.heap.size, 1, none⟩) (Nat.le_refl _) (.string A)
            try simp only [Exit.inBlock, Exit.then]
            refine bodyPost_ret (results_cell_tmp_row (p := 4) (u := 5) (ty := 36) (by kernel_rfl) _ _ w.heap.size _ _ _ _ rfl hz Tryd.underlying36 rfl (by kernel_rfl)) rfl ?_
            unfold OneTo
            rw [HOUT.out]
            exact ⟨_, _, N, rfl, hbz, rfl, HAV.out, HYV.out, HKL.out.1, HKL.out.2⟩
          · have hc58 : c = 58 := hwd.resolve_left hlet
            have hb95 : (((c.toNat : Nat) : Int) == 95) = false := by rw [hc58]; decide
            have hb63 : (((c.toNat : Nat) : Int) == 63) = false := by rw [hc58]; decide
            have hb36 : (((c.toNat : Nat) : Int) == 36) = false := by rw [hc58]; decide
            have hb34 : (((c.toNat : Nat) : Int) == 34) = false := by rw [hc58]; decide
            have hb39 : (((c.toNat : Nat) : Int) == 39) = false := by rw [hc58]; decide
            have hb64 : (((c.toNat : Nat) : Int) == 64) = false := by rw [hc58]; decide
            have hb58 : (((c.toNat : Nat) : Int) == 58) = true := by rw [hc58]; decide
            rw [show digitC c = false from by rw [hc58]; decide] at HDG
            rw [show letterC c = false from by rw [hc58]; decide] at HLT
            clear hc58 hlet hwd hcl h95 htx h63l h64 hdg
            have z0 := hB1.cell 0
            have z1 := hB1.cell 1
            have y0 := hB1.frozen 0
            have y1 := hB1.frozen 1
            simp only [List.getElem?_toArray, List.getElem?_cons_zero, List.getElem?_cons_succ] at z0 z1
            go_wp2_with fail
            refine (HRI0.out _).mono ?_
            rintro e wq ⟨rfl, hw⟩
            obtain rfl := hw.symm
            clear hw
            go_wp2_with fail
            refine (HDG.out _).mono ?_
            rintro e wq ⟨rfl, hw⟩
            obtain rfl := hw.symm
            clear hw
            go_wp2_with fail
            refine (HLT.out _).mono ?_
            rintro e wq ⟨rfl, hw⟩
            obtain rfl := hw.symm
            clear hw
            go_wp2_with fail
            refine (HNA.out _).mono ?_
            rintro e wq ⟨rfl, hw⟩
            obtain rfl := hw.symm
            clear hw
            go_wp2_with fail
            refine (HNA.out _).mono ?_
            rintro e wq ⟨rfl, hw⟩
            obtain rfl := hw.symm
            clear hw
            go_wp2_with fail
            have hz := ((hB1).set 0 (.int .i64 2)).set 1 (.string A)
            simp only [List.setIfInBounds_toArray, List.set_cons_zero, List.set_cons_succ] at hz
            have hbz := ((hbe1).setCell (p := ⟨w.heap.size, 0, none⟩) (Nat.le_refl _) (.int .i64 2)).setCell (p := ⟨w.heap.size, 1, none⟩) (Nat.le_refl _) (.string A)
            try simp only [Exit.inBlock, Exit.then]
            refine bodyPost_ret (results_cell_tmp_row (p := 4) (u := 5) (ty := 36) (by kernel_rfl) _ _ w.heap.size _ _ _ _ rfl hz Tryd.underlying36 rfl (by kernel_rfl)) rfl ?_
            unfold OneTo
            rw [HOUT.out]
            exact ⟨_, _, N, rfl, hbz, rfl, HAV.out, HYV.out, HKL.out.1, HKL.out.2⟩
        | none =>
          rw [hnm] at hNz
          have hlet : letterC c = true := by
            rcases hwd with h | h
            · exact h
            · exfalso
              rw [h, name_dot (show (58 :: r : List UInt8).dropWhile dashC = 58 :: r from by rw [List.dropWhile_cons, if_neg (by decide)])] at hnm
              cases hnm
          have hN0 : N = 0 := hNz
          have HW := Lib.hid (fun w => HWD.out i (by omega) w)
          have hdst : l.drop i = c :: r := HDI.out
          have hkt := wl_take (p := nameC) (l := l) (i := i)
          have hkl := wl_le (p := nameC) (l := l) (i := i) (by have := HSZ.out; omega)
          obtain ⟨K, hK⟩ : ∃ k, k = Wl nameC l i := ⟨_, rfl⟩
          rw [← hK] at hkt hkl HW
          have hKp : 0 < K := by
            unfold Wl at hK
            rw [hdst, List.takeWhile_cons, show nameC c = true from by unfold letterC at hlet; unfold nameC nameN; rw [hlet]; rfl] at hK
            simp at hK
            omega
          have HOUT := Lib.hid (show tokenL c r = some ((8, (c :: r).takeWhile nameC), (c :: r).dropWhile nameC) from by rw [HOUT0.out]; unfold wordV; rw [hnm])
          obtain ⟨A, hA⟩ : ∃ z, s.extract i K = z := ⟨_, rfl⟩
          have HAV := Lib.hid (show A = ⟨((c :: r).takeWhile nameC).toArray⟩ from by rw [← hA, HEX.out, hkt.1, hdst])
          have HYV := Lib.hid (show (c :: r).dropWhile nameC = l.drop K from by rw [hkt.2, hdst])
          have HKL := Lib.hid (show 0 < K ∧ K ≤ l.length from ⟨hKp, hkl.1⟩)
          have hKs : (K : Int) ≤ s.size := by have := HSZ.out; omega
          have hKi : (i : Int) ≤ (K : Int) := by omega
          subst hN0
          clear hkt hkl hK hdst hKp hNz hN hnm
          obtain ⟨g1, g2, g3, g4, g5, g6, g7, g8⟩ := cls (.inr hlet)
          have hb95 : (((c.toNat : Nat) : Int) == 95) = false := u8_ne 95 rfl g4
          have hb63 : (((c.toNat : Nat) : Int) == 63) = false := u8_ne 63 rfl g5
          have hb36 : (((c.toNat : Nat) : Int) == 36) = false := u8_ne 36 rfl g6
          have hb34 : (((c.toNat : Nat) : Int) == 34) = false := u8_ne 34 rfl g2
          have hb39 : (((c.toNat : Nat) : Int) == 39) = false := u8_ne 39 rfl g3
          have hb64 : (((c.toNat : Nat) : Int) == 64) = false := u8_ne 64 rfl g7
          rw [show letterC c = true from hlet] at HLT
          rw [g8 hlet] at HDG
          clear g1 g2 g3 g4 g5 g6 g7 g8 hlet hwd hcl h95 htx h63l h64 hdg
          have z0 := hB1.cell 0
          have z1 := hB1.cell 1
          have y0 := hB1.frozen 0
          have y1 := hB1.frozen 1
          simp only [List.getElem?_toArray, List.getElem?_cons_zero, List.getElem?_cons_succ] at z0 z1
          go_wp2_with fail
          refine (HRI0.out _).mono ?_
          rintro e wq ⟨rfl, hw⟩
          obtain rfl := hw.symm
          clear hw
          go_wp2_with fail
          refine (HDG.out _).mono ?_
          rintro e wq ⟨rfl, hw⟩
          obtain rfl := hw.symm
          clear hw
          go_wp2_with fail
          refine (HLT.out _).mono ?_
          rintro e wq ⟨rfl, hw⟩
          obtain rfl := hw.symm
          clear hw
          go_wp2_with fail
          refine (HNA.out _).mono ?_
          rintro e wq ⟨rfl, hw⟩
          obtain rfl := hw.symm
          clear hw
          go_wp2_with fail
          refine (HLT.out _).mono ?_
          rintro e wq ⟨rfl, hw⟩
          obtain rfl := hw.symm
          clear hw
          go_wp2_with fail
          refine (HW.out _).mono ?_
          rintro e wq ⟨rfl, hw⟩
          obtain rfl := hw.symm
          clear hw
          go_wp2_with fail
          have hz := ((hB1).set 0 (.int .i64 8)).set 1 (.string A)
          simp only [List.setIfInBounds_toArray, List.set_cons_zero, List.set_cons_succ] at hz
          have hbz := ((hbe1).setCell (p := ⟨w.heap.size, 0, none⟩) (Nat.le_refl _) (.int .i64 8)).setCell (p := ⟨w.heap.size, 1, none⟩) (Nat.le_refl _) (.string A)
          try simp only [Exit.inBlock, Exit.then]
          refine bodyPost_ret (results_cell_tmp_row (p := 4) (u := 5) (ty := 36) (by kernel_rfl) _ _ w.heap.size _ _ _ _ rfl hz Tryd.underlying36 rfl (by kernel_rfl)) rfl ?_
          unfold OneTo
          rw [HOUT.out]
          exact ⟨_, _, K, rfl, hbz, rfl, HAV.out, HYV.out, HKL.out.1, HKL.out.2⟩
      by_cases k60 : c = 60
      · have hc0 := k60
        clear k60
        have HOUT := Lib.hid (show tokenL c r = signL (c :: r) from by
          rw [hc0]
          refine tok_lt_sign ?_
          cases hh : headIs (fun x => x == 62) (r.dropWhile refC) with
          | false => rfl
          | true => exact absurd ⟨by rw [hc0]; rfl, hh⟩ HNI.out)
        have hb95 : (((c.toNat : Nat) : Int) == 95) = false := by rw [hc0]; decide
        have hb63 : (((c.toNat : Nat) : Int) == 63) = false := by rw [hc0]; decide
        have hb36 : (((c.toNat : Nat) : Int) == 36) = false := by rw [hc0]; decide
        have hb34 : (((c.toNat : Nat) : Int) == 34) = false := by rw [hc0]; decide
        have hb39 : (((c.toNat : Nat) : Int) == 39) = false := by rw [hc0]; decide
        have hb64 : (((c.toNat : Nat) : Int) == 64) = false := by rw [hc0]; decide
        have hb58 : (((c.toNat : Nat) : Int) == 58) = false := by rw [hc0]; decide
        rw [show digitC c = false from by rw [hc0]; decide] at HDG
        rw [show letterC c = false from by rw [hc0]; decide] at HLT
        clear hc0 h95 htx h63l h64 hdg hwd
        go_wp2_with fail
        refine (HRI0.out _).mono ?_
        rintro e wq ⟨rfl, hw⟩
        obtain rfl := hw.symm
        clear hw
        go_wp2_with fail
        refine (HDG.out _).mono ?_
        rintro e wq ⟨rfl, hw⟩
        obtain rfl := hw.symm
        clear hw
        go_wp2_with fail
        refine (HLT.out _).mono ?_
        rintro e wq ⟨rfl, hw⟩
        obtain rfl := hw.symm
        clear hw
        go_wp2_with fail
        refine (HLT.out _).mono ?_
        rintro e wq ⟨rfl, hw⟩
        obtain rfl := hw.symm
        clear hw
        go_wp2_with fail
        refine (HSG.out _).mono ?_
        rintro e wz ⟨rfl, hbx⟩
        replace hbe1 := hbe1.trans (hbx.mono hbe1.size)
        replace hB1 : Blk wz w.heap.size _ _ := (hbx.block _ hB1.lt).trans hB1
        clear hbx
        have hsn := sign_of (c :: r)
        have hzl := signZ_le (c :: r)
        obtain ⟨Z, hZ⟩ : ∃ z, z = signZ (c :: r) := ⟨_, rfl⟩
        rw [← hZ] at hsn hzl ⊢
        rw [List.length_cons] at hzl
        have z0 := hB1.cell 0
        have z1 := hB1.cell 1
        have y0 := hB1.frozen 0
        have y1 := hB1.frozen 1
        simp only [List.getElem?_toArray, List.getElem?_cons_zero, List.getElem?_cons_succ] at z0 z1
        by_cases hz0 : Z = 0
        · have HN := Lib.hid (HOUT.out.trans (hsn.trans (if_pos hz0)))
          subst hz0
          clear hsn hzl hZ
          go_wp2_with fail
          have hz := ((hB1).set 0 (.int .i64 0)).set 1 (.string ⟨#[]⟩)
          simp only [List.setIfInBounds_toArray, List.set_cons_zero, List.set_cons_succ] at hz
          have hbz := ((hbe1).setCell (p := ⟨w.heap.size, 0, none⟩) (Nat.le_refl _) (.int .i64 0)).setCell (p := ⟨w.heap.size, 1, none⟩) (Nat.le_refl _) (.string ⟨#[]⟩)
          try simp only [Exit.inBlock, Exit.then]
          refine bodyPost_ret (results_cell_tmp_row (p := 4) (u := 5) (ty := 36) (by kernel_rfl) _ _ w.heap.size _ _ _ _ rfl hz Tryd.underlying36 rfl (by kernel_rfl)) rfl ?_
          unfold OneTo
          rw [HN.out]
          exact ⟨_, _, 0, rfl, hbz, rfl⟩
        · have HN := Lib.hid (HOUT.out.trans (hsn.trans (if_neg hz0)))
          have hzb : ((Z : Int) == 0) = false := by simpa using hz0
          obtain ⟨K, hK⟩ : ∃ k, k = i + Z := ⟨_, rfl⟩
          have hKl : K ≤ l.length := by
            have h1 := congrArg List.length HDI.out
            rw [List.length_drop, List.length_cons] at h1
            omega
          have hKe : (i : Int) + (Z : Int) = (K : Int) := by omega
          have hKw : IntKind.i64.wrap (K : Int) = (K : Int) := Go.wrap_small _ (Int.natCast_nonneg _) (by have := HSZ.out; omega)
          have hKi : (i : Int) ≤ (K : Int) := by omega
          have hKs : (K : Int) ≤ s.size := by have := HSZ.out; omega
          obtain ⟨A, hA⟩ : ∃ z, s.extract i K = z := ⟨_, rfl⟩
          have HAV := Lib.hid (show A = ⟨((c :: r).take Z).toArray⟩ from by rw [← hA, HEX.out, HDI.out, hK, Nat.add_sub_cancel_left])
          have HYV := Lib.hid (show (c :: r).drop Z = l.drop K from by rw [hK, ← List.drop_drop, HDI.out])
          have HKL := Lib.hid (And.intro hKl (show 0 < K by omega))
          clear hsn hzl hZ hz0 hK hKl
          go_wp2_with fail
          have hz := ((hB1).set 0 (.int .i64 9)).set 1 (.string A)
          simp only [List.setIfInBounds_toArray, List.set_cons_zero, List.set_cons_succ] at hz
          have hbz := ((hbe1).setCell (p := ⟨w.heap.size, 0, none⟩) (Nat.le_refl _) (.int .i64 9)).setCell (p := ⟨w.heap.size, 1, none⟩) (Nat.le_refl _) (.string A)
          try simp only [Exit.inBlock, Exit.then]
          refine bodyPost_ret (results_cell_tmp_row (p := 4) (u := 5) (ty := 36) (by kernel_rfl) _ _ w.heap.size _ _ _ _ rfl hz Tryd.underlying36 rfl (by kernel_rfl)) rfl ?_
          unfold OneTo
          rw [HN.out]
          exact ⟨_, _, K, rfl, hbz, rfl, HAV.out, HYV.out, HKL.out.2, HKL.out.1⟩
      by_cases k95 : c = 95
      · have hc0 := k95
        clear k95
        have hnx58 : nx ≠ 58 := fun e => h95 ⟨hc0, e⟩
        have hbx58 : (((nx.toNat : Nat) : Int) == 58) = false := u8_ne 58 rfl hnx58
        have HOUT := Lib.hid (show tokenL c r = signL (c :: r) from tok_sign (by rw [hc0]; decide) (by rw [hc0]; decide) (by rw [hc0]; decide) (fun e => by
          have := e.2
          rw [head_next _ r (by decide), ← HNX.out] at this
          exact hnx58 (by simpa using this)) (by rw [hc0]; decide) (by rw [hc0]; decide) (by rw [hc0]; decide) (by rw [hc0]; decide) (by rw [hc0]; decide) (by rw [hc0]; decide))
        have hb95 : (((c.toNat : Nat) : Int) == 95) = true := by rw [hc0]; decide
        have hb63 : (((c.toNat : Nat) : Int) == 63) = false := by rw [hc0]; decide
        have hb36 : (((c.toNat : Nat) : Int) == 36) = false := by rw [hc0]; decide
        have hb34 : (((c.toNat : Nat) : Int) == 34) = false := by rw [hc0]; decide
        have hb39 : (((c.toNat : Nat) : Int) == 39) = false := by rw [hc0]; decide
        have hb64 : (((c.toNat : Nat) : Int) == 64) = false := by rw [hc0]; decide
        have hb58 : (((c.toNat : Nat) : Int) == 58) = false := by rw [hc0]; decide
        rw [show digitC c = false from by rw [hc0]; decide] at HDG
        rw [show letterC c = false from by rw [hc0]; decide] at HLT
        clear hc0 hnx58 h95 htx h63l h64 hdg hwd
        go_wp2_with fail
        refine (HRI0.out _).mono ?_
        rintro e wq ⟨rfl, hw⟩
        obtain rfl := hw.symm
        clear hw
        go_wp2_with fail
        refine (HDG.out _).mono ?_
        rintro e wq ⟨rfl, hw⟩
        obtain rfl := hw.symm
        clear hw
        go_wp2_with fail
        refine (HLT.out _).mono ?_
        rintro e wq ⟨rfl, hw⟩
        obtain rfl := hw.symm
        clear hw
        go_wp2_with fail
        refine (HLT.out _).mono ?_
        rintro e wq ⟨rfl, hw⟩
        obtain rfl := hw.symm
        clear hw
        go_wp2_with fail
        refine (HSG.out _).mono ?_
        rintro e wz ⟨rfl, hbx⟩
        replace hbe1 := hbe1.trans (hbx.mono hbe1.size)
        replace hB1 : Blk wz w.heap.size _ _ := (hbx.block _ hB1.lt).trans hB1
        clear hbx
        have hsn := sign_of (c :: r)
        have hzl := signZ_le (c :: r)
        obtain ⟨Z, hZ⟩ : ∃ z, z = signZ (c :: r) := ⟨_, rfl⟩
        rw [← hZ] at hsn hzl ⊢
        rw [List.length_cons] at hzl
        have z0 := hB1.cell 0
        have z1 := hB1.cell 1
        have y0 := hB1.frozen 0
        have y1 := hB1.frozen 1
        simp only [List.getElem?_toArray, List.getElem?_cons_zero, List.getElem?_cons_succ] at z0 z1
        by_cases hz0 : Z = 0
        · have HN := Lib.hid (HOUT.out.trans (hsn.trans (if_pos hz0)))
          subst hz0
          clear hsn hzl hZ
          go_wp2_with fail
          have hz := ((hB1).set 0 (.int .i64 0)).set 1 (.string ⟨#[]⟩)
          simp only [List.setIfInBounds_toArray, List.set_cons_zero, List.set_cons_succ] at hz
          have hbz := ((hbe1).setCell (p := ⟨w.heap.size, 0, none⟩) (Nat.le_refl _) (.int .i64 0)).setCell (p := ⟨w.heap.size, 1, none⟩) (Nat.le_refl _) (.string ⟨#[]⟩)
          try simp only [Exit.inBlock, Exit.then]
          refine bodyPost_ret (results_cell_tmp_row (p := 4) (u := 5) (ty := 36) (by kernel_rfl) _ _ w.heap.size _ _ _ _ rfl hz Tryd.underlying36 rfl (by kernel_rfl)) rfl ?_
          unfold OneTo
          rw [HN.out]
          exact ⟨_, _, 0, rfl, hbz, rfl⟩
        · have HN := Lib.hid (HOUT.out.trans (hsn.trans (if_neg hz0)))
          have hzb : ((Z : Int) == 0) = false := by simpa using hz0
          obtain ⟨K, hK⟩ : ∃ k, k = i + Z := ⟨_, rfl⟩
          have hKl : K ≤ l.length := by
            have h1 := congrArg List.length HDI.out
            rw [List.length_drop, List.length_cons] at h1
            omega
          have hKe : (i : Int) + (Z : Int) = (K : Int) := by omega
          have hKw : IntKind.i64.wrap (K : Int) = (K : Int) := Go.wrap_small _ (Int.natCast_nonneg _) (by have := HSZ.out; omega)
          have hKi : (i : Int) ≤ (K : Int) := by omega
          have hKs : (K : Int) ≤ s.size := by have := HSZ.out; omega
          obtain ⟨A, hA⟩ : ∃ z, s.extract i K = z := ⟨_, rfl⟩
          have HAV := Lib.hid (show A = ⟨((c :: r).take Z).toArray⟩ from by rw [← hA, HEX.out, HDI.out, hK, Nat.add_sub_cancel_left])
          have HYV := Lib.hid (show (c :: r).drop Z = l.drop K from by rw [hK, ← List.drop_drop, HDI.out])
          have HKL := Lib.hid (And.intro hKl (show 0 < K by omega))
          clear hsn hzl hZ hz0 hK hKl
          go_wp2_with fail
          have hz := ((hB1).set 0 (.int .i64 9)).set 1 (.string A)
          simp only [List.setIfInBounds_toArray, List.set_cons_zero, List.set_cons_succ] at hz
          have hbz := ((hbe1).setCell (p := ⟨w.heap.size, 0, none⟩) (Nat.le_refl _) (.int .i64 9)).setCell (p := ⟨w.heap.size, 1, none⟩) (Nat.le_refl _) (.string A)
          try simp only [Exit.inBlock, Exit.then]
          refine bodyPost_ret (results_cell_tmp_row (p := 4) (u := 5) (ty := 36) (by kernel_rfl) _ _ w.heap.size _ _ _ _ rfl hz Tryd.underlying36 rfl (by kernel_rfl)) rfl ?_
          unfold OneTo
          rw [HN.out]
          exact ⟨_, _, K, rfl, hbz, rfl, HAV.out, HYV.out, HKL.out.2, HKL.out.1⟩
      by_cases k63 : c = 63
      · have hc0 := k63
        clear k63
        have hln : letterC nx = false := by
          cases h : letterC nx with
          | false => rfl
          | true => exact absurd ⟨by rw [hc0]; decide, h⟩ h63l
        have hhd : headIs letterC r = false := by rw [head_next _ r (by decide), ← HNX.out]; exact hln
        have HOUT := Lib.hid (show tokenL c r = signL (c :: r) from tok_var_sign (by rw [hc0]; decide) hhd)
        rw [hln] at HLN
        have hb95 : (((c.toNat : Nat) : Int) == 95) = false := by rw [hc0]; decide
        have hb63 : (((c.toNat : Nat) : Int) == 63) = true := by rw [hc0]; decide
        have hb36 : (((c.toNat : Nat) : Int) == 36) = false := by rw [hc0]; decide
        have hb34 : (((c.toNat : Nat) : Int) == 34) = false := by rw [hc0]; decide
        have hb39 : (((c.toNat : Nat) : Int) == 39) = false := by rw [hc0]; decide
        have hb64 : (((c.toNat : Nat) : Int) == 64) = false := by rw [hc0]; decide
        have hb58 : (((c.toNat : Nat) : Int) == 58) = false := by rw [hc0]; decide
        rw [show digitC c = false from by rw [hc0]; decide] at HDG
        rw [show letterC c = false from by rw [hc0]; decide] at HLT
        clear hc0 hln hhd h95 htx h63l h64 hdg hwd
        go_wp2_with fail
        refine (HRI0.out _).mono ?_
        rintro e wq ⟨rfl, hw⟩
        obtain rfl := hw.symm
        clear hw
        go_wp2_with fail
        refine (HLN.out _).mono ?_
        rintro e wq ⟨rfl, hw⟩
        obtain rfl := hw.symm
        clear hw
        go_wp2_with fail
        refine (HDG.out _).mono ?_
        rintro e wq ⟨rfl, hw⟩
        obtain rfl := hw.symm
        clear hw
        go_wp2_with fail
        refine (HLT.out _).mono ?_
        rintro e wq ⟨rfl, hw⟩
        obtain rfl := hw.symm
        clear hw
        go_wp2_with fail
        refine (HLT.out _).mono ?_
        rintro e wq ⟨rfl, hw⟩
        obtain rfl := hw.symm
        clear hw
        go_wp2_with fail
        refine (HSG.out _).mono ?_
        rintro e wz ⟨rfl, hbx⟩
        replace hbe1 := hbe1.trans (hbx.mono hbe1.size)
        replace hB1 : Blk wz w.heap.size _ _ := (hbx.block _ hB1.lt).trans hB1
        clear hbx
        have hsn := sign_of (c :: r)
        have hzl := signZ_le (c :: r)
        obtain ⟨Z, hZ⟩ : ∃ z, z = signZ (c :: r) := ⟨_, rfl⟩
        rw [← hZ] at hsn hzl ⊢
        rw [List.length_cons] at hzl
        have z0 := hB1.cell 0
        have z1 := hB1.cell 1
        have y0 := hB1.frozen 0
        have y1 := hB1.frozen 1
        simp only [List.getElem?_toArray, List.getElem?_cons_zero, List.getElem?_cons_succ] at z0 z1
        by_cases hz0 : Z = 0
        · have HN := Lib.hid (HOUT.out.trans (hsn.trans (if_pos hz0)))
          subst hz0
          clear hsn hzl hZ
          go_wp2_with fail
          have hz := ((hB1).set 0 (.int .i64 0)).set 1 (.string ⟨#[]⟩)
          simp only [List.setIfInBounds_toArray, List.set_cons_zero, List.set_cons_succ] at hz
          have hbz := ((hbe1).setCell (p := ⟨w.heap.size, 0, none⟩) (Nat.le_refl _) (.int .i64 0)).setCell (p := ⟨w.heap.size, 1, none⟩) (Nat.le_refl _) (.string ⟨#[]⟩)
          try simp only [Exit.inBlock, Exit.then]
          refine bodyPost_ret (results_cell_tmp_row (p := 4) (u := 5) (ty := 36) (by kernel_rfl) _ _ w.heap.size _ _ _ _ rfl hz Tryd.underlying36 rfl (by kernel_rfl)) rfl ?_
          unfold OneTo
          rw [HN.out]
          exact ⟨_, _, 0, rfl, hbz, rfl⟩
        · have HN := Lib.hid (HOUT.out.trans (hsn.trans (if_neg hz0)))
          have hzb : ((Z : Int) == 0) = false := by simpa using hz0
          obtain ⟨K, hK⟩ : ∃ k, k = i + Z := ⟨_, rfl⟩
          have hKl : K ≤ l.length := by
            have h1 := congrArg List.length HDI.out
            rw [List.length_drop, List.length_cons] at h1
            omega
          have hKe : (i : Int) + (Z : Int) = (K : Int) := by omega
          have hKw : IntKind.i64.wrap (K : Int) = (K : Int) := Go.wrap_small _ (Int.natCast_nonneg _) (by have := HSZ.out; omega)
          have hKi : (i : Int) ≤ (K : Int) := by omega
          have hKs : (K : Int) ≤ s.size := by have := HSZ.out; omega
          obtain ⟨A, hA⟩ : ∃ z, s.extract i K = z := ⟨_, rfl⟩
          have HAV := Lib.hid (show A = ⟨((c :: r).take Z).toArray⟩ from by rw [← hA, HEX.out, HDI.out, hK, Nat.add_sub_cancel_left])
          have HYV := Lib.hid (show (c :: r).drop Z = l.drop K from by rw [hK, ← List.drop_drop, HDI.out])
          have HKL := Lib.hid (And.intro hKl (show 0 < K by omega))
          clear hsn hzl hZ hz0 hK hKl
          go_wp2_with fail
          have hz := ((hB1).set 0 (.int .i64 9)).set 1 (.string A)
          simp only [List.setIfInBounds_toArray, List.set_cons_zero, List.set_cons_succ] at hz
          have hbz := ((hbe1).setCell (p := ⟨w.heap.size, 0, none⟩) (Nat.le_refl _) (.int .i64 9)).setCell (p := ⟨w.heap.size, 1, none⟩) (Nat.le_refl _) (.string A)
          try simp only [Exit.inBlock, Exit.then]
          refine bodyPost_ret (results_cell_tmp_row (p := 4) (u := 5) (ty := 36) (by kernel_rfl) _ _ w.heap.size _ _ _ _ rfl hz Tryd.underlying36 rfl (by kernel_rfl)) rfl ?_
          unfold OneTo
          rw [HN.out]
          exact ⟨_, _, K, rfl, hbz, rfl, HAV.out, HYV.out, HKL.out.2, HKL.out.1⟩
      by_cases k36 : c = 36
      · have hc0 := k36
        clear k36
        have hln : letterC nx = false := by
          cases h : letterC nx with
          | false => rfl
          | true => exact absurd ⟨by rw [hc0]; decide, h⟩ h63l
        have hhd : headIs letterC r = false := by rw [head_next _ r (by decide), ← HNX.out]; exact hln
        have HOUT := Lib.hid (show tokenL c r = signL (c :: r) from tok_var_sign (by rw [hc0]; decide) hhd)
        rw [hln] at HLN
        have hb95 : (((c.toNat : Nat) : Int) == 95) = false := by rw [hc0]; decide
        have hb63 : (((c.toNat : Nat) : Int) == 63) = false := by rw [hc0]; decide
        have hb36 : (((c.toNat : Nat) : Int) == 36) = true := by rw [hc0]; decide
        have hb34 : (((c.toNat : Nat) : Int) == 34) = false := by rw [hc0]; decide
        have hb39 : (((c.toNat : Nat) : Int) == 39) = false := by rw [hc0]; decide
        have hb64 : (((c.toNat : Nat) : Int) == 64) = false := by rw [hc0]; decide
        have hb58 : (((c.toNat : Nat) : Int) == 58) = false := by rw [hc0]; decide
        rw [show digitC c = false from by rw [hc0]; decide] at HDG
        rw [show letterC c = false from by rw [hc0]; decide] at HLT
        clear hc0 hln hhd h95 htx h63l h64 hdg hwd
        go_wp2_with fail
        refine (HRI0.out _).mono ?_
        rintro e wq ⟨rfl, hw⟩
        obtain rfl := hw.symm
        clear hw
        go_wp2_with fail
        refine (HLN.out _).mono ?_
        rintro e wq ⟨rfl, hw⟩
        obtain rfl := hw.symm
        clear hw
        go_wp2_with fail
        refine (HDG.out _).mono ?_
        rintro e wq ⟨rfl, hw⟩
        obtain rfl := hw.symm
        clear hw
        go_wp2_with fail
        refine (HLT.out _).mono ?_
        rintro e wq ⟨rfl, hw⟩
        obtain rfl := hw.symm
        clear hw
        go_wp2_with fail
        refine (HLT.out _).mono ?_
        rintro e wq ⟨rfl, hw⟩
        obtain rfl := hw.symm
        clear hw
        go_wp2_with fail
        refine (HSG.out _).mono ?_
        rintro e wz ⟨rfl, hbx⟩
        replace hbe1 := hbe1.trans (hbx.mono hbe1.size)
        replace hB1 : Blk wz w.heap.size _ _ := (hbx.block _ hB1.lt).trans hB1
        clear hbx
        have hsn := sign_of (c :: r)
        have hzl := signZ_le (c :: r)
        obtain ⟨Z, hZ⟩ : ∃ z, z = signZ (c :: r) := ⟨_, rfl⟩
        rw [← hZ] at hsn hzl ⊢
        rw [List.length_cons] at hzl
        have z0 := hB1.cell 0
        have z1 := hB1.cell 1
        have y0 := hB1.frozen 0
        have y1 := hB1.frozen 1
        simp only [List.getElem?_toArray, List.getElem?_cons_zero, List.getElem?_cons_succ] at z0 z1
        by_cases hz0 : Z = 0
        · have HN := Lib.hid (HOUT.out.trans (hsn.trans (if_pos hz0)))
          subst hz0
          clear hsn hzl hZ
          go_wp2_with fail
          have hz := ((hB1).set 0 (.int .i64 0)).set 1 (.string ⟨#[]⟩)
          simp only [List.setIfInBounds_toArray, List.set_cons_zero, List.set_cons_succ] at hz
          have hbz := ((hbe1).setCell (p := ⟨w.heap.size, 0, none⟩) (Nat.le_refl _) (.int .i64 0)).setCell (p := ⟨w.heap.size, 1, none⟩) (Nat.le_refl _) (.string ⟨#[]⟩)
          try simp only [Exit.inBlock, Exit.then]
          refine bodyPost_ret (results_cell_tmp_row (p := 4) (u := 5) (ty := 36) (by kernel_rfl) _ _ w.heap.size _ _ _ _ rfl hz Tryd.underlying36 rfl (by kernel_rfl)) rfl ?_
          unfold OneTo
          rw [HN.out]
          exact ⟨_, _, 0, rfl, hbz, rfl⟩
        · have HN := Lib.hid (HOUT.out.trans (hsn.trans (if_neg hz0)))
          have hzb : ((Z : Int) == 0) = false := by simpa using hz0
          obtain ⟨K, hK⟩ : ∃ k, k = i + Z := ⟨_, rfl⟩
          have hKl : K ≤ l.length := by
            have h1 := congrArg List.length HDI.out
            rw [List.length_drop, List.length_cons] at h1
            omega
          have hKe : (i : Int) + (Z : Int) = (K : Int) := by omega
          have hKw : IntKind.i64.wrap (K : Int) = (K : Int) := Go.wrap_small _ (Int.natCast_nonneg _) (by have := HSZ.out; omega)
          have hKi : (i : Int) ≤ (K : Int) := by omega
          have hKs : (K : Int) ≤ s.size := by have := HSZ.out; omega
          obtain ⟨A, hA⟩ : ∃ z, s.extract i K = z := ⟨_, rfl⟩
          have HAV := Lib.hid (show A = ⟨((c :: r).take Z).toArray⟩ from by rw [← hA, HEX.out, HDI.out, hK, Nat.add_sub_cancel_left])
          have HYV := Lib.hid (show (c :: r).drop Z = l.drop K from by rw [hK, ← List.drop_drop, HDI.out])
          have HKL := Lib.hid (And.intro hKl (show 0 < K by omega))
          clear hsn hzl hZ hz0 hK hKl
          go_wp2_with fail
          have hz := ((hB1).set 0 (.int .i64 9)).set 1 (.string A)
          simp only [List.setIfInBounds_toArray, List.set_cons_zero, List.set_cons_succ] at hz
          have hbz := ((hbe1).setCell (p := ⟨w.heap.size, 0, none⟩) (Nat.le_refl _) (.int .i64 9)).setCell (p := ⟨w.heap.size, 1, none⟩) (Nat.le_refl _) (.string A)
          try simp only [Exit.inBlock, Exit.then]
          refine bodyPost_ret (results_cell_tmp_row (p := 4) (u := 5) (ty := 36) (by kernel_rfl) _ _ w.heap.size _ _ _ _ rfl hz Tryd.underlying36 rfl (by kernel_rfl)) rfl ?_
          unfold OneTo
          rw [HN.out]
          exact ⟨_, _, K, rfl, hbz, rfl, HAV.out, HYV.out, HKL.out.2, HKL.out.1⟩
      by_cases k64 : c = 64
      · have hc0 := k64
        clear k64
        have hln : smallC nx = false := by
          cases h : smallC nx with
          | false => rfl
          | true => exact absurd ⟨hc0, h⟩ h64
        have hhd : headIs smallC r = false := by rw [head_next _ r (by decide), ← HNX.out]; exact hln
        have HOUT := Lib.hid (show tokenL c r = signL (c :: r) from by rw [hc0]; exact tok_lang_sign hhd)
        have hb95 : (((c.toNat : Nat) : Int) == 95) = false := by rw [hc0]; decide
        have hb63 : (((c.toNat : Nat) : Int) == 63) = false := by rw [hc0]; decide
        have hb36 : (((c.toNat : Nat) : Int) == 36) = false := by rw [hc0]; decide
        have hb34 : (((c.toNat : Nat) : Int) == 34) = false := by rw [hc0]; decide
        have hb39 : (((c.toNat : Nat) : Int) == 39) = false := by rw [hc0]; decide
        have hb64 : (((c.toNat : Nat) : Int) == 64) = true := by rw [hc0]; decide
        have hb58 : (((c.toNat : Nat) : Int) == 58) = false := by rw [hc0]; decide
        rw [show digitC c = false from by rw [hc0]; decide] at HDG
        rw [show letterC c = false from by rw [hc0]; decide] at HLT
        have hsm : ¬ (97 ≤ nx.toNat ∧ nx.toNat ≤ 122) := by unfold smallC smallN at hln; exact of_decide_eq_false hln
        by_cases hs97 : (97 : Int) ≤ ((nx.toNat : Nat) : Int)
        · have hs122 : ¬ ((nx.toNat : Nat) : Int) ≤ 122 := by omega
          clear hc0 hln hhd h95 htx h63l h64 hdg hwd hsm
          go_wp2_with fail
          refine (HRI0.out _).mono ?_
          rintro e wq ⟨rfl, hw⟩
          obtain rfl := hw.symm
          clear hw
          go_wp2_with fail
          refine (HDG.out _).mono ?_
          rintro e wq ⟨rfl, hw⟩
          obtain rfl := hw.symm
          clear hw
          go_wp2_with fail
          refine (HLT.out _).mono ?_
          rintro e wq ⟨rfl, hw⟩
          obtain rfl := hw.symm
          clear hw
          go_wp2_with fail
          refine (HLT.out _).mono ?_
          rintro e wq ⟨rfl, hw⟩
          obtain rfl := hw.symm
          clear hw
          go_wp2_with fail
          refine (HSG.out _).mono ?_
          rintro e wz ⟨rfl, hbx⟩
          replace hbe1 := hbe1.trans (hbx.mono hbe1.size)
          replace hB1 : Blk wz w.heap.size _ _ := (hbx.block _ hB1.lt).trans hB1
          clear hbx
          have hsn := sign_of (c :: r)
          have hzl := signZ_le (c :: r)
          obtain ⟨Z, hZ⟩ : ∃ z, z = signZ (c :: r) := ⟨_, rfl⟩
          rw [← hZ] at hsn hzl ⊢
          rw [List.length_cons] at hzl
          have z0 := hB1.cell 0
          have z1 := hB1.cell 1
          have y0 := hB1.frozen 0
          have y1 := hB1.frozen 1
          simp only [List.getElem?_toArray, List.getElem?_cons_zero, List.getElem?_cons_succ] at z0 z1
          by_cases hz0 : Z = 0
          · have HN := Lib.hid (HOUT.out.trans (hsn.trans (if_pos hz0)))
            subst hz0
            clear hsn hzl hZ
            go_wp2_with fail
            have hz := ((hB1).set 0 (.int .i64 0)).set 1 (.string ⟨#[]⟩)
            simp only [List.setIfInBounds_toArray, List.set_cons_zero, List.set_cons_succ] at hz
            have hbz := ((hbe1).setCell (p := ⟨w.heap.size, 0, none⟩) (Nat.le_refl _) (.int .i64 0)).setCell (p := ⟨w.heap.size, 1, none⟩) (Nat.le_refl _) (.string ⟨#[]⟩)
            try simp only [Exit.inBlock, Exit.then]
            refine bodyPost_ret (results_cell_tmp_row (p := 4) (u := 5) (ty := 36) (by kernel_rfl) _ _ w.heap.size _ _ _ _ rfl hz Tryd.underlying36 rfl (by kernel_rfl)) rfl ?_
            unfold OneTo
            rw [HN.out]
            exact ⟨_, _, 0, rfl, hbz, rfl⟩
          · have HN := Lib.hid (HOUT.out.trans (hsn.trans (if_neg hz0)))
            have hzb : ((Z : Int) == 0) = false := by simpa using hz0
            obtain ⟨K, hK⟩ : ∃ k, k = i + Z := ⟨_, rfl⟩
            have hKl : K ≤ l.length := by
              have h1 := congrArg List.length HDI.out
              rw [List.length_drop, List.length_cons] at h1
              omega
            have hKe : (i : Int) + (Z : Int) = (K : Int) := by omega
            have hKw : IntKind.i64.wrap (K : Int) = (K : Int) := Go.wrap_small _ (Int.natCast_nonneg _) (by have := HSZ.out; omega)
            have hKi : (i : Int) ≤ (K : Int) := by omega
            have hKs : (K : Int) ≤ s.size := by have := HSZ.out; omega
            obtain ⟨A, hA⟩ : ∃ z, s.extract i K = z := ⟨_, rfl⟩
            have HAV := Lib.hid (show A = ⟨((c :: r).take Z).toArray⟩ from by rw [← hA, HEX.out, HDI.out, hK, Nat.add_sub_cancel_left])
            have HYV := Lib.hid (show (c :: r).drop Z = l.drop K from by rw [hK, ← List.drop_drop, HDI.out])
            have HKL := Lib.hid (And.intro hKl (show 0 < K by omega))
            clear hsn hzl hZ hz0 hK hKl
            go_wp2_with fail
            have hz := ((hB1).set 0 (.int .i64 9)).set 1 (.string A)
            simp only [List.setIfInBounds_toArray, List.set_cons_zero, List.set_cons_succ] at hz
            have hbz := ((hbe1).setCell (p := ⟨w.heap.size, 0, none⟩) (Nat.le_refl _) (.int .i64 9)).setCell (p := ⟨w.heap.size, 1, none⟩) (Nat.le_refl _) (.string A)
            try simp only [Exit.inBlock, Exit.then]
            refine bodyPost_ret (results_cell_tmp_row (p := 4) (u := 5) (ty := 36) (by kernel_rfl) _ _ w.heap.size _ _ _ _ rfl hz Tryd.underlying36 rfl (by kernel_rfl)) rfl ?_
            unfold OneTo
            rw [HN.out]
            exact ⟨_, _, K, rfl, hbz, rfl, HAV.out, HYV.out, HKL.out.2, HKL.out.1⟩
        · clear hc0 hln hhd h95 htx h63l h64 hdg hwd hsm
          go_wp2_with fail
          refine (HRI0.out _).mono ?_
          rintro e wq ⟨rfl, hw⟩
          obtain rfl := hw.symm
          clear hw
          go_wp2_with fail
          refine (HDG.out _).mono ?_
          rintro e wq ⟨rfl, hw⟩
          obtain rfl := hw.symm
          clear hw
          go_wp2_with fail
          refine (HLT.out _).mono ?_
          rintro e wq ⟨rfl, hw⟩
          obtain rfl := hw.symm
          clear hw
          go_wp2_with fail
          refine (HLT.out _).mono ?_
          rintro e wq ⟨rfl, hw⟩
          obtain rfl := hw.symm
          clear hw
          go_wp2_with fail
          refine (HSG.out _).mono ?_
          rintro e wz ⟨rfl, hbx⟩
          replace hbe1 := hbe1.trans (hbx.mono hbe1.size)
          replace hB1 : Blk wz w.heap.size _ _ := (hbx.block _ hB1.lt).trans hB1
          clear hbx
          have hsn := sign_of (c :: r)
          have hzl := signZ_le (c :: r)
          obtain ⟨Z, hZ⟩ : ∃ z, z = signZ (c :: r) := ⟨_, rfl⟩
          rw [← hZ] at hsn hzl ⊢
          rw [List.length_cons] at hzl
          have z0 := hB1.cell 0
          have z1 := hB1.cell 1
          have y0 := hB1.frozen 0
          have y1 := hB1.frozen 1
          simp only [List.getElem?_toArray, List.getElem?_cons_zero, List.getElem?_cons_succ] at z0 z1
          by_cases hz0 : Z = 0
          · have HN := Lib.hid (HOUT.out.trans (hsn.trans (if_pos hz0)))
            subst hz0
            clear hsn hzl hZ
            go_wp2_with fail
            have hz := ((hB1).set 0 (.int .i64 0)).set 1 (.string ⟨#[]⟩)
            simp only [List.setIfInBounds_toArray, List.set_cons_zero, List.set_cons_succ] at hz
            have hbz := ((hbe1).setCell (p := ⟨w.heap.size, 0, none⟩) (Nat.le_refl _) (.int .i64 0)).setCell (p := ⟨w.heap.size, 1, none⟩) (Nat.le_refl _) (.string ⟨#[]⟩)
            try simp only [Exit.inBlock, Exit.then]
            refine bodyPost_ret (results_cell_tmp_row (p := 4) (u := 5) (ty := 36) (by kernel_rfl) _ _ w.heap.size _ _ _ _ rfl hz Tryd.underlying36 rfl (by kernel_rfl)) rfl ?_
            unfold OneTo
            rw [HN.out]
            exact ⟨_, _, 0, rfl, hbz, rfl⟩
          · have HN := Lib.hid (HOUT.out.trans (hsn.trans (if_neg hz0)))
            have hzb : ((Z : Int) == 0) = false := by simpa using hz0
            obtain ⟨K, hK⟩ : ∃ k, k = i + Z := ⟨_, rfl⟩
            have hKl : K ≤ l.length := by
              have h1 := congrArg List.length HDI.out
              rw [List.length_drop, List.length_cons] at h1
              omega
            have hKe : (i : Int) + (Z : Int) = (K : Int) := by omega
            have hKw : IntKind.i64.wrap (K : Int) = (K : Int) := Go.wrap_small _ (Int.natCast_nonneg _) (by have := HSZ.out; omega)
            have hKi : (i : Int) ≤ (K : Int) := by omega
            have hKs : (K : Int) ≤ s.size := by have := HSZ.out; omega
            obtain ⟨A, hA⟩ : ∃ z, s.extract i K = z := ⟨_, rfl⟩
            have HAV := Lib.hid (show A = ⟨((c :: r).take Z).toArray⟩ from by rw [← hA, HEX.out, HDI.out, hK, Nat.add_sub_cancel_left])
            have HYV := Lib.hid (show (c :: r).drop Z = l.drop K from by rw [hK, ← List.drop_drop, HDI.out])
            have HKL := Lib.hid (And.intro hKl (show 0 < K by omega))
            clear hsn hzl hZ hz0 hK hKl
            go_wp2_with fail
            have hz := ((hB1).set 0 (.int .i64 9)).set 1 (.string A)
            simp only [List.setIfInBounds_toArray, List.set_cons_zero, List.set_cons_succ] at hz
            have hbz := ((hbe1).setCell (p := ⟨w.heap.size, 0, none⟩) (Nat.le_refl _) (.int .i64 9)).setCell (p := ⟨w.heap.size, 1, none⟩) (Nat.le_refl _) (.string A)
            try simp only [Exit.inBlock, Exit.then]
            refine bodyPost_ret (results_cell_tmp_row (p := 4) (u := 5) (ty := 36) (by kernel_rfl) _ _ w.heap.size _ _ _ _ rfl hz Tryd.underlying36 rfl (by kernel_rfl)) rfl ?_
            unfold OneTo
            rw [HN.out]
            exact ⟨_, _, K, rfl, hbz, rfl, HAV.out, HYV.out, HKL.out.2, HKL.out.1⟩
      have hdf : digitC c = false := by cases h : digitC c with | false => rfl | true => exact absurd h hdg
      have hlf : letterC c = false := by cases h : letterC c with | false => rfl | true => exact absurd (.inl h) hwd
      have h58 : c ≠ 58 := fun e => hwd (.inr e)
      have h34 : c ≠ 34 := fun e => htx (.inl e)
      have h39 : c ≠ 39 := fun e => htx (.inr e)
      have HOUT := Lib.hid (show tokenL c r = signL (c :: r) from tok_sign k60 h34 h39 (fun e => k95 e.1) k63 k36 k64 hdf hlf h58)
      rw [hdf] at HDG
      rw [hlf] at HLT
      have hb95 : (((c.toNat : Nat) : Int) == 95) = false := u8_ne 95 rfl k95
      have hb63 : (((c.toNat : Nat) : Int) == 63) = false := u8_ne 63 rfl k63
      have hb36 : (((c.toNat : Nat) : Int) == 36) = false := u8_ne 36 rfl k36
      have hb34 : (((c.toNat : Nat) : Int) == 34) = false := u8_ne 34 rfl h34
      have hb39 : (((c.toNat : Nat) : Int) == 39) = false := u8_ne 39 rfl h39
      have hb64 : (((c.toNat : Nat) : Int) == 64) = false := u8_ne 64 rfl k64
      have hb58 : (((c.toNat : Nat) : Int) == 58) = false := u8_ne 58 rfl h58
      clear h95 htx h63l h64 hdg hwd hdf hlf h58 h34 h39 k60 k95 k63 k36 k64
      go_wp2_with fail
      refine (HRI0.out _).mono ?_
      rintro e wq ⟨rfl, hw⟩
      obtain rfl := hw.symm
      clear hw
      go_wp2_with fail
      refine (HDG.out _).mono ?_
      rintro e wq ⟨rfl, hw⟩
      obtain rfl := hw.symm
      clear hw
      go_wp2_with fail
      refine (HLT.out _).mono ?_
      rintro e wq ⟨rfl, hw⟩
      obtain rfl := hw.symm
      clear hw
      go_wp2_with fail
      refine (HLT.out _).mono ?_
      rintro e wq ⟨rfl, hw⟩
      obtain rfl := hw.symm
      clear hw
      go_wp2_with fail
      refine (HSG.out _).mono ?_
      rintro e wz ⟨rfl, hbx⟩
      replace hbe1 := hbe1.trans (hbx.mono hbe1.size)
      replace hB1 : Blk wz w.heap.size _ _ := (hbx.block _ hB1.lt).trans hB1
      clear hbx
      have hsn := sign_of (c :: r)
      have hzl := signZ_le (c :: r)
      obtain ⟨Z, hZ⟩ : ∃ z, z = signZ (c :: r) := ⟨_, rfl⟩
      rw [← hZ] at hsn hzl ⊢
      rw [List.length_cons] at hzl
      have z0 := hB1.cell 0
      have z1 := hB1.cell 1
      have y0 := hB1.frozen 0
      have y1 := hB1.frozen 1
      simp only [List.getElem?_toArray, List.getElem?_cons_zero, List.getElem?_cons_succ] at z0 z1
      by_cases hz0 : Z = 0
      · have HN := Lib.hid (HOUT.out.trans (hsn.trans (if_pos hz0)))
        subst hz0
        clear hsn hzl hZ
        go_wp2_with fail
        have hz := ((hB1).set 0 (.int .i64 0)).set 1 (.string ⟨#[]⟩)
        simp only [List.setIfInBounds_toArray, List.set_cons_zero, List.set_cons_succ] at hz
        have hbz := ((hbe1).setCell (p := ⟨w.heap.size, 0, none⟩) (Nat.le_refl _) (.int .i64 0)).setCell (p := ⟨w.heap.size, 1, none⟩) (Nat.le_refl _) (.string ⟨#[]⟩)
        try simp only [Exit.inBlock, Exit.then]
        refine bodyPost_ret (results_cell_tmp_row (p := 4) (u := 5) (ty := 36) (by kernel_rfl) _ _ w.heap.size _ _ _ _ rfl hz Tryd.underlying36 rfl (by kernel_rfl)) rfl ?_
        unfold OneTo
        rw [HN.out]
        exact ⟨_, _, 0, rfl, hbz, rfl⟩
      · have HN := Lib.hid (HOUT.out.trans (hsn.trans (if_neg hz0)))
        have hzb : ((Z : Int) == 0) = false := by simpa using hz0
        obtain ⟨K, hK⟩ : ∃ k, k = i + Z := ⟨_, rfl⟩
        have hKl : K ≤ l.length := by
          have h1 := congrArg List.length HDI.out
          rw [List.length_drop, List.length_cons] at h1
          omega
        have hKe : (i : Int) + (Z : Int) = (K : Int) := by omega
        have hKw : IntKind.i64.wrap (K : Int) = (K : Int) := Go.wrap_small _ (Int.natCast_nonneg _) (by have := HSZ.out; omega)
        have hKi : (i : Int) ≤ (K : Int) := by omega
        have hKs : (K : Int) ≤ s.size := by have := HSZ.out; omega
        obtain ⟨A, hA⟩ : ∃ z, s.extract i K = z := ⟨_, rfl⟩
        have HAV := Lib.hid (show A = ⟨((c :: r).take Z).toArray⟩ from by rw [← hA, HEX.out, HDI.out, hK, Nat.add_sub_cancel_left])
        have HYV := Lib.hid (show (c :: r).drop Z = l.drop K from by rw [hK, ← List.drop_drop, HDI.out])
        have HKL := Lib.hid (And.intro hKl (show 0 < K by omega))
        clear hsn hzl hZ hz0 hK hKl
        go_wp2_with fail
        have hz := ((hB1).set 0 (.int .i64 9)).set 1 (.string A)
        simp only [List.setIfInBounds_toArray, List.set_cons_zero, List.set_cons_succ] at hz
        have hbz := ((hbe1).setCell (p := ⟨w.heap.size, 0, none⟩) (Nat.le_refl _) (.int .i64 9)).setCell (p := ⟨w.heap.size, 1, none⟩) (Nat.le_refl _) (.string A)
        try simp only [Exit.inBlock, Exit.then]
        refine bodyPost_ret (results_cell_tmp_row (p := 4) (u := 5) (ty := 36) (by kernel_rfl) _ _ w.heap.size _ _ _ _ rfl hz Tryd.underlying36 rfl (by kernel_rfl)) rfl ?_
        unfold OneTo
        rw [HN.out]
        exact ⟨_, _, K, rfl, hbz, rfl, HAV.out, HYV.out, HKL.out.2, HKL.out.1⟩
end Go.Proofs.YtmeoleacfkbilaaDoor
