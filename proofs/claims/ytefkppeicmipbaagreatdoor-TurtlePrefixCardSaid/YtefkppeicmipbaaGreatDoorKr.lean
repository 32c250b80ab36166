/- References: IndexRune at a high rune; IndexAny in any text. -/
import Derived.Test.YtefkppeicmipbaaGreatDoorKq
namespace Go.Proofs.YtefkppeicmipbaaGreatDoor
open Go.RowKit Go.Shelf
set_option maxRecDepth 100000
set_option linter.unusedVariables false
theorem noGoto_ret10K {Q : Exit → Act → World → Prop} {a : Act} {w : World} : Exit.noGoto Q .ret a w = Q .ret a w := rfl
set_option maxHeartbeats 8000000 in
theorem irune_errK (m : ByteArray) (hm : m.size ≤ 10) (hasc : ∀ c ∈ m.data.toList, c.toNat < 128) (w : World) :
    Calls Tryz.prog 62 #[.string m, .int .i32 65533] w fun e w' => e = .returned (.int .i64 (-1)) ∧ Below w.heap.size w w' := by
  have HA := Lib.hid hasc
  have hmi : (m.size : Int) ≤ 10 := by omega
  clear hasc
  go_enter Tryz.func62, Tryz.ntmps62
  go_wp2_with fail
  go_loopg [5, 6] m.size (fun g _ _ wx => ∃ i : Nat, i + g = m.size ∧ wx = w.iter m i)
  case atStart => exact ⟨0, by omega, rfl⟩
  case round =>
    obtain ⟨i, hig, rfl⟩ := hrel
    cases gk with
    | zero =>
      obtain rfl : i = m.size := by omega
      have hnx := run_next_end (P := Tryz.prog) w m m.size
      have hb : Below w.heap.size w (w.iter m m.size) := (Below.refl _ _).alloc (Nat.le_refl _) _
      go_wp2_with fail
      go_ret
      exact ⟨rfl, hb⟩
    | succ g =>
      have hi : i < m.size := by omega
      obtain ⟨x, hx⟩ : ∃ x : UInt8, m[i]'hi = x := ⟨_, rfl⟩
      have hx128 : x.toNat < 128 := by
        rw [← hx]
        exact HA.out _ (by rw [show m[i]'hi = m.data.toList[i]'(by rw [← Lib.size_eq]; exact hi) from rfl]; exact List.getElem_mem _)
      have hnx := fun ty => run_next_ascii (P := Tryz.prog) w m i ty hi (by rw [hx]; exact hx128)
      rw [hx] at hnx
      have hne : (((x.toNat : Nat) : Int) == 65533) = false := beq_eq_false_iff_ne.2 (by omega)
      clear hx hx128
      go_wp2_with fail
      go_roundg g
      case measure => omega
      case rel => exact ⟨i + 1, by omega, rfl⟩
set_option maxHeartbeats 8000000 in
theorem irune_highK (m : ByteArray) (hm : m.size ≤ 10) (hasc : ∀ c ∈ m.data.toList, c.toNat < 128) (r : Int) (hv : Utf8.valid r = true) (h128 : 128 ≤ r) (w : World) :
    Calls Tryz.prog 62 #[.string m, .int .i32 r] w fun e w' => e = .returned (.int .i64 (-1)) ∧ Below w.heap.size w w' := by
  by_cases he : r = 65533
  · subst he
    exact irune_errK m hm hasc w
  have hef := encode_facts r hv h128
  have HVR := Lib.hid (fun w => vrune_anyK r hv w)
  have hne : (r == 65533) = false := beq_eq_false_iff_ne.2 he
  have hcv : ∀ w, (convert 21 9 (.int .i32 r)).run Tryz.prog w = .ok (.string (Utf8.encode r)) w := fun w => run_convert_int_string w _ _ _ _ (by kernel_rfl) Tryz.underlying9
  obtain ⟨e, hee⟩ : ∃ e, e = Utf8.encode r := ⟨_, rfl⟩
  rw [← hee] at hef hcv
  obtain ⟨h2, h4, hl⟩ := hef
  obtain ⟨K, hK⟩ : ∃ K : Nat, e.size = K + 1 := ⟨e.size - 1, by omega⟩
  have hKe : K < e.size := by omega
  obtain ⟨c, hc⟩ : ∃ c : UInt8, e[K]'hKe = c := ⟨_, rfl⟩
  have hc128 : 128 ≤ c.toNat := by
    rw [← hc]
    have hz : e.size - 1 = K := by omega
    have := hl (by omega)
    simp only [hz] at this
    exact this
  have hes : (e.size : Int) = (K : Int) + 1 := by omega
  have hKi : (K : Int) < (K : Int) + 1 := by omega
  have h0r : 0 ≤ r := by omega
  have hnr : ¬ r < 128 := by omega
  have hmi : (m.size : Int) ≤ 10 := by omega
  have HA := Lib.hid hasc
  have HC := Lib.hid hc128
  have hk4 : (K : Int) ≤ 4 := by omega
  clear hee hl h2 h4 hK he hasc hc128 hv
  go_enter Tryz.func62, Tryz.ntmps62
  go_wp2_with fail
  refine (HVR.out _).mono ?_
  rintro en w1 ⟨rfl, hw⟩
  obtain rfl := hw.symm
  clear hw
  go_wp2_with fail
  apply wp_scope_straight
  go_wp2_with fail
  go_loopg [9] 0 (fun g s9 wx => s9 = .int .i64 (K : Int) ∧ wx = w)
  case atStart => exact ⟨by go_num, rfl⟩
  case round =>
    obtain ⟨rfl, rfl⟩ := hrel
    by_cases hlt : (K : Int) < m.size
    · have hkm : K < m.size := by omega
      obtain ⟨d, hd⟩ : ∃ d : UInt8, m[K]'hkm = d := ⟨_, rfl⟩
      have hd128 : d.toNat < 128 := by
        rw [← hd]
        exact HA.out _ (by rw [show m[K]'hkm = m.data.toList[K]'(by rw [← Lib.size_eq]; exact hkm) from rfl]; exact List.getElem_mem _)
      have hdc : (((d.toNat : Nat) : Int) == ((c.toNat : Nat) : Int)) = false := beq_eq_false_iff_ne.2 (by have := HC.out; omega)
      have hdc2 : (((d.toNat : Nat) : Int) != ((c.toNat : Nat) : Int)) = true := by rw [bne, hdc]; rfl
      obtain ⟨K1, hK1⟩ : ∃ K1, K1 = K + 1 := ⟨_, rfl⟩
      obtain ⟨q, hq⟩ : ∃ q : ByteArray, m.extract K1 m.size = q := ⟨_, rfl⟩
      have HSB := Lib.hid (fun w => sbyte_anyK q c w)
      rw [indexByte_noneK q.data.toList c (fun b hb e => by
        rw [← hq, ext_fromK] at hb
        have := HA.out b (List.mem_of_mem_drop hb)
        have := HC.out
        rw [e] at *
        omega)] at HSB
      clear hd128
      go_wp2_with fail
      apply wp_scope_straight
      go_wp2_with fail
      go_quiet (fail)
      go_wp2_with fail
      have hk1 : (K1 : Int) ≤ m.size := by omega
      have hp1 : (K : Int) + 1 = (K1 : Int) := by omega
      have hwr : IntKind.i64.wrap (K1 : Int) = (K1 : Int) := Go.wrap_small _ (by omega) (by omega)
      have hKi2 : (K : Int) < (K1 : Int) := by omega
      clear hK1 hKi hlt hk4
      have hbq : Below wr.heap.size wr (wr.drewN nq) := draws_tK wr nq
      generalize wr.drewN nq = wq at hbq ⊢
      go_quiet ((go_at_call 83; exact Calls.quiet_of_same (HSB.out _)))
      go_wp2_with fail
      simp only [Exit.noGoto, Exit.inBlock, Exit.then]
      go_ret
      exact ⟨rfl, hbq.trans ((draws_tK _ _).mono hbq.size)⟩
    · go_wp2_with fail
      repeat rw [noGoto_ret10K]
      go_ret
      exact ⟨rfl, Below.refl _ _⟩
/-- None of the first i bytes is a mark. -/
theorem noAny_more {s m : List UInt8} {i k : Nat} (h : Lib.NoAny s m i) (hk : ∀ j b, i ≤ j → j < k → s[j]? = some b → m.contains b = false) : Lib.NoAny s m k := fun j b hj hb => by
  by_cases e : j < i
  · exact h j b e hb
  · exact hk j b (by omega) hj hb
theorem shouldSet_any (n : Int) (w : World) : Calls Tryz.prog 138 #[.int .i64 n] w fun e w' => e = .returned (.bool (decide (8 < n))) ∧ w' = w :=
  Any.strings_shouldUseASCIISet (P := Tryz.prog) (ρ := Tryz.lays153_ren) { Tryz.lays153 with } n w
theorem irune_lowK (s : ByteArray) (r : Int) (w : World) (h0 : 0 ≤ r) (h1 : r < 128) : Calls Tryz.prog 62 #[.string s, .int .i32 r] w fun e w' => e = .returned (.int .i64 (Lib.indexByte s.data.toList r.toNat.toUInt8)) ∧ w' = w :=
  Any.strings_IndexRune_ascii (P := Tryz.prog) (ρ := Tryz.lays153_ren) { Tryz.lays153 with } s r w h0 h1
set_option maxHeartbeats 16000000 in
theorem iany_short (s m : ByteArray) (h2 : 2 ≤ m.size) (hm : m.size ≤ 10) (h8 : s.size ≤ 8) (hasc : ∀ c ∈ m.data.toList, c.toNat < 128) (w : World) :
    Calls Tryz.prog 128 #[.string s, .string m] w fun e w' => e = .returned (.int .i64 (Lib.indexAny s.data.toList m.data.toList)) ∧ Below w.heap.size w w' := by
  have hemp : m.toList.isEmpty = false := by
    rw [Lib.toList_data]
    cases h : m.data.toList with
    | nil => have := Lib.size_eq m; rw [h, List.length_nil] at this; omega
    | cons _ _ => rfl
  have hn1 : ((m.size : Int) == 1) = false := beq_eq_false_iff_ne.2 (by omega)
  have HSH := Lib.hid (fun w => shouldSet_any (s.size : Int) w)
  rw [show decide ((8 : Int) < (s.size : Int)) = false from decide_eq_false (by omega)] at HSH
  obtain ⟨A, hA⟩ : ∃ A, A = Lib.indexAny s.data.toList m.data.toList := ⟨_, rfl⟩
  rw [← hA]
  have HAA := Lib.hid hA
  have HASC := Lib.hid hasc
  have HRL := Lib.hid (fun r w h0 h1 => irune_lowK m r w h0 h1)
  have HRH := Lib.hid (fun r w hv h128 => irune_highK m hm hasc r hv h128 w)
  clear hA hasc
  go_enter Tryz.func128, Tryz.ntmps128
  go_wp2_with fail
  refine (HSH.out _).mono ?_
  rintro e w1 ⟨rfl, hw⟩
  obtain rfl := hw.symm
  clear hw
  go_wp2_with fail
  go_loopg [9, 10] s.size (fun g _ _ wx => ∃ i : Nat, i + g = s.size ∧ wx.heap[w.heap.size]? = some (.stringIter s i) ∧ Below w.heap.size w wx ∧ Lib.NoAny s.data.toList m.data.toList i)
  case atStart => exact ⟨0, by omega, World.iter_heap _ _ _, (Below.refl _ _).alloc (Nat.le_refl _) _, Lib.NoAny.zero _ _⟩
  case round =>
    obtain ⟨i, hig, hit, hb, hno⟩ := hrel
    have HN := Lib.hid hno
    have HB := Lib.hid hb
    have HIT := Lib.hid hit
    clear hno hb
    by_cases hi : i < s.size
    · obtain ⟨x, hx⟩ : ∃ x : UInt8, s[i]'hi = x := ⟨_, rfl⟩
      have hxl : s.data.toList[i]? = some x := by rw [← hx]; exact Lib.data_getElem? s i hi
      have HX := Lib.hid hxl
      by_cases ha : x.toNat < 128
      · have hnx := fun ty => Lib.run_next_ascii_at (P := Tryz.prog) wr w.heap.size s i ty hit hi (by rw [hx]; exact ha)
        rw [hx] at hnx
        have hw5 := Lib.iterAt_heap wr w.heap.size s i (i + 1) hit
        have hb5 := Lib.below_iterAt HB.out (Nat.le_refl _) s (i + 1)
        have hcon := Lib.contains_iff_indexByte m.data.toList x
        have hrl := fun w => HRL.out ((x.toNat : Nat) : Int) w (by omega) (by omega)
        rw [show (((x.toNat : Nat) : Int)).toNat.toUInt8 = x by simp] at hrl
        have HRX := Lib.hid hrl
        have HW5 := Lib.hid hw5
        have HB5 := Lib.hid hb5
        clear hrl hw5 hb5 hit hxl hx ha
        cases hin : m.data.toList.contains x
        · rw [hin] at hcon
          have hlt : ¬ ((0 : Int) ≤ Lib.indexByte m.data.toList x) := of_decide_eq_false hcon.symm
          clear hcon
          go_wp2_with fail
          refine (HRX.out _).mono ?_
          rintro e w2 ⟨rfl, hw⟩
          obtain rfl := hw.symm
          clear hw
          go_wp2_with fail
          cases gk with
          | zero => omega
          | succ g =>
            go_roundg g
            case measure => omega
            case rel => exact ⟨i + 1, by omega, HW5.out, HB5.out, HN.out.succ HX.out hin⟩
        · rw [hin] at hcon
          have hge : (0 : Int) ≤ Lib.indexByte m.data.toList x := of_decide_eq_true hcon.symm
          clear hcon
          go_wp2_with fail
          refine (HRX.out _).mono ?_
          rintro e w2 ⟨rfl, hw⟩
          obtain rfl := hw.symm
          clear hw
          go_wp2_with fail
          go_ret
          refine ⟨?_, HB5.out⟩
          rw [HAA.out, Lib.indexAny_hit HN.out HX.out hin]
          rfl
      · have ha' : 128 ≤ (s[i]'hi).toNat := by rw [hx]; omega
        have hnx := fun ty => Lib.run_next_any_at (P := Tryz.prog) wr w.heap.size s i ty hit hi
        have hdi := decode_inK s i hi ha'
        have hds := decode_skipK s i hi ha'
        have hdh := decode_high s i hi ha'
        have hdv := decode_validK s i hi ha'
        obtain ⟨r, hr⟩ : ∃ r, r = (Utf8.decode s i).1 := ⟨_, rfl⟩
        obtain ⟨k, hk⟩ : ∃ k, k = (Utf8.decode s i).2 := ⟨_, rfl⟩
        rw [← hr] at hdh hdv
        rw [← hk] at hdi hds hdh
        rw [← hr, ← hk] at hnx
        have HRX := Lib.hid (fun w => HRH.out (r : Int) w hdv (by omega))
        have HW5 := Lib.hid (Lib.iterAt_heap wr w.heap.size s i (i + k) hit)
        have HB5 := Lib.hid (Lib.below_iterAt HB.out (Nat.le_refl _) s (i + k))
        have HMORE := Lib.hid (noAny_more (k := i + k) HN.out (fun j b h1 h3 hb => by
          have hj : j < s.size := by omega
          have h5 := hds j hj h1 h3
          have h6 : s.data.toList[j]? = some (s[j]'hj) := Lib.data_getElem? s j hj
          rw [h6] at hb
          cases hb
          cases hc : m.data.toList.contains (s[j]'hj) with
          | false => rfl
          | true =>
            have := HASC.out _ (List.contains_iff_mem.1 hc)
            omega))
        have hk1 : 1 ≤ k := hdh.2
        clear hdh hdv hds hr hk hit hxl hx ha ha'
        go_wp2_with fail
        refine (HRX.out _).mono ?_
        rintro e w2 ⟨rfl, hb2⟩
        have HB6 := Lib.hid (HB5.out.trans (hb2.mono HB5.out.size))
        have HW6 := Lib.hid (show w2.heap[w.heap.size]? = some (.stringIter s (i + k)) from (hb2.block _ (Array.getElem?_eq_some_iff.1 HW5.out).1).trans HW5.out)
        clear hb2
        go_wp2_with fail
        go_roundg (s.size - (i + k))
        case measure => omega
        case rel => exact ⟨i + k, by omega, HW6.out, HB6.out, HMORE.out⟩
    · obtain rfl : i = s.size := by omega
      have hnx := fun ty => Lib.run_next_end_at (P := Tryz.prog) wr w.heap.size s s.size ty hit hi
      clear hit
      go_wp2_with fail
      go_ret
      refine ⟨?_, HB.out⟩
      rw [HAA.out, Lib.indexAny_none (by rw [← Lib.size_eq]; exact HN.out)]
      rfl
theorem marksAt_any (l : List UInt8) : MarksAt l := fun x m hx _ hm hasc w => by
  by_cases h0 : m.size = 0
  · exact (Any.strings_IndexAny_none Tryz.lays153 x m w h0).mono fun e w' ⟨h1, h2⟩ => ⟨h1, h2 ▸ Below.refl _ _⟩
  by_cases h1 : m.size = 1
  · exact (Any.strings_IndexAny_one Tryz.lays153 x m w h1 hasc).mono fun e w' ⟨h1, h2⟩ => ⟨h1, h2 ▸ Below.refl _ _⟩
  by_cases h8 : x.size ≤ 8
  · exact iany_short x m (by omega) hm h8 (fun c hc => by
      obtain ⟨j, hj, rfl⟩ := List.mem_iff_getElem.1 hc
      exact hasc j _ (List.getElem?_eq_getElem hj)) w
  · have hz : (Tryz.prog.info? (Tryz.lays153_ren.t 116)).map (fun i => (i.zero, i.size)) = some (some (.agg (Array.replicate 256 (.bool false))), 256) := by kernel_rfl
    refine (Any.strings_IndexAny_long Tryz.lays153 (zero_of_info hz).1 (zero_of_info hz).2 x m w (by omega) (by omega) (by omega) (by omega) hasc).mono fun e w' ⟨h1, h2⟩ => ⟨h1, ?_⟩
    rw [h2]
    exact ((Below.refl _ _).alloc (Nat.le_refl _) _).alloc (by simp) _
end Go.Proofs.YtefkppeicmipbaaGreatDoor
