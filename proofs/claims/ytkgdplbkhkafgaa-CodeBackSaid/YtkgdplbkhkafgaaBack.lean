/- The walk of the law CodeBack. -/
import Derived.Test.YtkgdplbkhkafgaaInv
import Derived.Deep.RegionHeld3
namespace Go.Proofs.Ytkgdplbkhkafgaa
open Go.RowKit

/-- A slice of numbers that came in. -/
def Nums (w : World) (ao : Option Addr) (zs : List Int) : Prop :=
  (∀ z ∈ zs, (Lit.int .i64 z).wf = true) ∧ ∀ k, k < zs.length → ∃ b off, ao = some ⟨b, off, none⟩ ∧ b < w.heap.size ∧ w.cell? ⟨b, off + k, none⟩ = some (.int .i64 (zs.getD k 0))
/-- A slice of texts that came in. -/
def Strs (w : World) (ao : Option Addr) (ss : List ByteArray) : Prop :=
  ∀ k, k < ss.length → ∃ b off, ao = some ⟨b, off, none⟩ ∧ b < w.heap.size ∧ w.cell? ⟨b, off + k, none⟩ = some (.string (ss.getD k ByteArray.empty))

set_option maxRecDepth 100000 in
set_option maxHeartbeats 4000000 in
theorem back_walk (ao so : Option Addr) (ac sc : Nat) (zs : List Int) (ss : List ByteArray) (w : World) (hz : Nums w ao zs) (hs : Strs w so ss)
    (_hac : zs.length ≤ ac) (_hac' : ac ≤ maxLen) (_hsc : ss.length ≤ sc) (_hsc' : sc ≤ maxLen) (hss : ∀ s ∈ ss, s.size ≤ maxLen) :
    Calls Try.prog 5 #[.slice ao zs.length ac, .slice so ss.length sc] w fun en w' => en = .returned (.bool true) ∧ Below w.heap.size w w' := by
  unfold maxLen at _hac' _hsc'
  obtain ⟨n, hn⟩ : ∃ n, zs.length = n := ⟨_, rfl⟩
  obtain ⟨m, hm⟩ : ∃ m, ss.length = m := ⟨_, rfl⟩
  rw [hn] at _hac ⊢
  rw [hm] at _hsc ⊢
  have HN := Lib.hid hn
  have HM := Lib.hid hm
  clear hn hm
  by_cases hl : (20 : Int) < n
  · go_enter Try.func5, Try.ntmps5
    go_wp2_with (go_at_call 11; refine (known_any _).mono ?_; rintro e w1 ⟨rfl, hb1⟩)
    go_ret
    exact ⟨rfl, hb1⟩
  by_cases hl2 : (10 : Int) < m
  · go_enter Try.func5, Try.ntmps5
    go_wp2_with (go_at_call 11; refine (known_any _).mono ?_; rintro e w1 ⟨rfl, hb1⟩)
    go_ret
    exact ⟨rfl, hb1⟩
  go_enter Try.func5, Try.ntmps5
  go_wp2_with fail
  refine (known_any _).mono ?_
  rintro en w1 ⟨rfl, hb1⟩
  have hs1 := hb1.size
  go_wp2_with fail
  refine (byte_any _ [] _ (by simp) _ (Bs.nil _)).mono ?_
  rintro en w2 ⟨v2, rfl, ho2, hb2⟩
  have hB2 := hb1.trans (hb2.mono hs1)
  have hz2 := hB2.size
  have hbs2 := ho2.bs
  rw [List.nil_append] at hbs2
  clear ho2 hb2 hb1
  go_wp2_with fail
  go_loopw [5, 6] (fun b i wr => ∃ k : Nat, k ≤ n ∧ i = .int .i64 k ∧ Bs wr b (le n 1 ++ ints (zs.take k)) ∧ Below w.heap.size w wr) (fun _ i _ => n - (intOf i).toNat)
  case atStart => exact ⟨0, Nat.zero_le _, rfl, by simpa [ints] using hbs2, hB2⟩
  case round =>
    obtain ⟨k, hk, rfl, hbs, hbel⟩ := hrel
    have hsz := hbel.size
    by_cases hlt : k < n
    · obtain ⟨b, off, hao, hbw, hc⟩ := hz.2 k (by have := HN.out; omega)
      subst hao
      have hck := (hbel.cell hbw).trans hc
      have hsn : ints (zs.take (k + 1)) = ints (zs.take k) ++ le (zs.getD k 0) 8 := by rw [take_snoc zs k 0 (by have := HN.out; omega), ints_snoc]
      have HSN := Lib.hid hsn
      have hel : (le n 1 ++ ints (zs.take k)).length ≤ 200 := by rw [List.length_append, le_length, ints_length, List.length_take]; omega
      generalize zs.getD k 0 = x at *
      clear hsn hc
      go_wp2_with fail
      refine (int_any _ _ _ (by omega) _ hbs).mono ?_
      rintro e w3 ⟨v3, rfl, ho3, hb3⟩
      have hB3 := hbel.trans (hb3.mono hsz)
      have hbs3 : Bs w3 v3 (le n 1 ++ ints (zs.take (k + 1))) := by rw [HSN.out, ← List.append_assoc]; exact ho3.bs
      clear ho3 hb3 hbs hbel hck HSN hel
      go_wp2
      go_roundw
      case rel => exact ⟨k + 1, by omega, by go_num, hbs3, hB3⟩
      case measure => simp [intOf]; omega
    · obtain rfl : n = k := by omega
      have htk : zs.take n = zs := by rw [List.take_of_length_le (by have := HN.out; omega)]
      rw [htk] at hbs
      clear htk hlt hk
      have hlz : (le n 1 ++ ints zs).length ≤ 200 := by rw [List.length_append, le_length, ints_length]; have := HN.out; omega
      have hlz1 : 1 ≤ (le n 1 ++ ints zs).length := by rw [List.length_append, le_length]; omega
      obtain ⟨pre, hpre⟩ : ∃ pre, pre = le n 1 ++ ints zs := ⟨_, rfl⟩
      rw [← hpre] at hbs hlz hlz1
      have HPRE := Lib.hid hpre
      clear hpre
      go_wp2_with fail
      go_loopw [5, 7] (fun b i wr => ∃ j : Nat, j ≤ m ∧ i = .int .i64 j ∧ Bs wr b (pre ++ texts (ss.take j)) ∧ (∀ s ∈ ss.take j, s.size ≤ 200) ∧ Below w.heap.size w wr) (fun _ i _ => m - (intOf i).toNat)
      case atStart => exact ⟨0, Nat.zero_le _, rfl, by simpa [texts] using hbs, by simp, hbel⟩
      case round =>
        clear hbel hbs hsz
        obtain ⟨j, hj, rfl, hbs, hle, hbel⟩ := hrel
        have hsz := hbel.size
        by_cases hlt : j < m
        · obtain ⟨b, off, hao, hbw, hc⟩ := hs j (by have := HM.out; omega)
          subst hao
          have hck := (hbel.cell hbw).trans hc
          have hts := take_snoc ss j ByteArray.empty (by have := HM.out; omega)
          have hmem : ss.getD j ByteArray.empty ∈ ss := by
            have := HM.out
            simp [List.getD, show j < ss.length by omega]
          have hxs := hss _ hmem
          have hel := texts_length _ hle
          have hel2 : (ss.take j).length ≤ 10 := by rw [List.length_take]; omega
          have hsn : texts (ss.take (j + 1)) = texts (ss.take j) ++ tx (ss.getD j ByteArray.empty) := by rw [hts, texts_snoc]
          have hle' : (ss.getD j ByteArray.empty).size ≤ 200 → ∀ s ∈ ss.take (j + 1), s.size ≤ 200 := by
            intro h s hs
            rw [hts] at hs
            rcases List.mem_append.1 hs with hs | hs
            · exact hle s hs
            · rw [List.mem_singleton] at hs; subst hs; exact h
          have HSN := Lib.hid hsn
          have HLE := Lib.hid hle'
          generalize ss.getD j ByteArray.empty = x at *
          clear hsn hle' hts hc hmem hle
          unfold maxLen at hxs
          by_cases hx : (200 : Int) < x.size
          · go_wp2
            go_ret
            exact ⟨rfl, hbel⟩
          · go_wp2_with fail
            refine (text_any _ _ _ (by rw [List.length_append]; omega) _ hbs).mono ?_
            rintro e w3 ⟨v3, rfl, ho3, hb3⟩
            have hB3 := hbel.trans (hb3.mono hsz)
            have hbs3 : Bs w3 v3 (pre ++ texts (ss.take (j + 1))) := by rw [HSN.out, ← List.append_assoc]; exact ho3.bs
            have hle3 := HLE.out (by omega)
            have HLE3 := Lib.hid hle3
            clear ho3 hb3 hbs hbel hck HSN hel hel2 HLE hle3
            go_wp2
            go_roundw
            case rel => exact ⟨j + 1, by omega, by go_num, hbs3, HLE3.out, hB3⟩
            case measure => simp [intOf]; omega
        · obtain rfl : m = j := by omega
          have htk : ss.take m = ss := by rw [List.take_of_length_le (by have := HM.out; omega)]
          rw [htk] at hbs hle
          have hel := texts_length _ hle
          have HLE := Lib.hid hle
          have hN : (pre ++ texts ss).length ≤ 2300 := by rw [List.length_append]; have := HM.out; omega
          have hN1 : 1 ≤ (pre ++ texts ss).length := by rw [List.length_append]; omega
          clear htk hlt hj hle hel
          obtain ⟨b5, off5, cap5, hv5, c1, c2, -⟩ := hbs.at (by omega)
          subst hv5
          obtain ⟨N, hNN⟩ : ∃ N, (pre ++ texts ss).length = N := ⟨_, rfl⟩
          rw [hNN] at hbs hN hN1 c1 ⊢
          have HNN := Lib.hid hNN
          clear hNN
          have hne : ((N : Int) == 0) = false := beq_eq_false_iff_ne.2 (by omega)
          obtain ⟨wo, hwo⟩ : ∃ wo : World, wo = wr := ⟨_, rfl⟩
          subst hwo
          have henc : pre ++ texts ss = le n 1 ++ (ints zs ++ texts ss) := by rw [HPRE.out, List.append_assoc]
          have HENC := Lib.hid henc
          clear henc
          have hs0 := hbel.size
          go_wp2_with fail
          go_loopw [8] (fun i wx => ∃ K : Int, 0 ≤ K ∧ K ≤ 3 ∧ i = .int .i64 K ∧ Below wo.heap.size wo wx) (fun i _ => 3 - (intOf i).toNat)
          case atStart => exact ⟨0, by omega, by omega, rfl, Below.refl _ _⟩
          case round =>
            obtain ⟨K, hK0, hK3, rfl, hbK⟩ := hrel
            have hsK := hbK.size
            have hbsK := hbs.below hbK
            rcases (show K = 3 ∨ K = 0 ∨ K = 1 ∨ K = 2 by omega) with rfl | rfl | rfl | rfl
            · go_wp2
              go_ret
              exact ⟨rfl, hbel.trans (hbK.mono hs0)⟩
            · go_wp2_with fail
              refine (new_any _ (pre ++ texts ss) (by have := HNN.out; omega) _ hbsK).mono ?_
              rintro en wn ⟨r, rfl, hrn, hqn, hbn⟩
              have hI : Inv true [] (le n 1 ++ (ints zs ++ texts ss)) (pre ++ texts ss) 0 true := .inl ⟨rfl, by rw [HENC.out]; simp, rfl, rfl⟩

              have hBn : Below wo.heap.size wo wn := hbK.trans (hbn.mono hsK)
              have hr0 : wo.heap.size ≤ r := by omega
              have hsn := hBn.size
              clear hbn
              go_wp2_with fail
              refine (rbyte_any r _ 0 _ hrn).mono ?_
              rintro en wp ⟨rfl, hrp, hgp⟩
              have hBp := Below.rd hBn hgp hsn hr0
              obtain ⟨V, hV⟩ : ∃ V, V = wrap64 (num (tookOf (pre ++ texts ss) 0 1)) := ⟨_, rfl⟩
              rw [← hV]
              have hIp := inv_num (n : Int) n 1 (by rw [num_one]; omega) hI (V == (n : Int)) (by intro h; rw [← hV] at h; exact beq_iff_eq.2 h)
              rw [Bool.and_true] at hIp
              generalize leftOf (pre ++ texts ss) 0 1 = L1 at *
              generalize errOf (pre ++ texts ss) 0 1 = E1 at *
              clear hV hI hrn hgp hBn hsn
              go_wp2_with fail
              go_loopw [11, 12] (fun o i wx => ∃ k : Nat, k ≤ n ∧ i = .int .i64 k ∧ ∃ q : Bool, ∃ L : List UInt8, ∃ E : Int, o = .bool q ∧ Rd wx r L E ∧ Inv true [] (ints (zs.drop k) ++ texts ss) L E q ∧ Below wo.heap.size wo wx) (fun _ i _ => n - (intOf i).toNat)
              case atStart => exact ⟨0, Nat.zero_le _, rfl, _, _, _, rfl, hrp, hIp, hBp⟩
              case round =>
                clear hIp hrp hBp
                obtain ⟨k, hk, rfl, q, L, E, rfl, hrd, hI, hbI⟩ := hrel
                have hsz := hbI.size
                by_cases hlt : k < n
                · obtain ⟨b, off, hao, hbw, hc⟩ := hz.2 k (by have := HN.out; omega)
                  subst hao
                  have hck := ((hbel.trans (hbI.mono hs0)).cell hbw).trans hc
                  have hwx : (Lit.int .i64 (zs.getD k 0)).wf = true := hz.1 _ (by have := HN.out; simp [List.getD, show k < zs.length by omega])
                  have hdr : ints (zs.drop k) = le (zs.getD k 0) 8 ++ ints (zs.drop (k + 1)) := by
                    rw [drop_cons zs k 0 (by have := HN.out; omega)]; simp [ints]
                  rw [hdr, List.append_assoc] at hI
                  generalize zs.getD k 0 = x at *
                  clear hdr hc
                  obtain ⟨V, hV⟩ : ∃ V, V = wrap64 (num (tookOf L E 8)) := ⟨_, rfl⟩
                  have hI2 := inv_num x x 8 (num_back x hwx) hI (V == x) (by intro h; rw [← hV] at h; exact beq_iff_eq.2 h)
                  have HV := Lib.hid hV
                  clear hV hI hwx
                  have hbr : b ≠ r := by have := hbw; omega
                  by_cases hVx : V = x
                  · subst hVx
                    have hqq : (V == V) = true := by simp
                    rw [hqq] at hI2
                    go_wp2_with fail
                    go_region_held3 (fun w' => w'.cell? ⟨b, off + k, none⟩ = some (.int .i64 V)) (first | assumption | exact hq1)
                      (first
                        | (go_at_call 21; refine (rint_any r L E _ ?_).mono ?_; (exact hrd); rintro e wi ⟨rfl, hri, hgi⟩; rw [← HV.out]; have hq1 := hgi.cell hck (by simpa using hbr)))
                    have hbi := Below.rd hbI.drew hgi (by simpa using hsz) hr0
                    clear hgi hbI hck hrd HV
                    go_wp2
                    go_roundw
                    case rel => exact ⟨k + 1, by omega, by go_num, _, _, _, rfl, hri, by simpa using hI2, hbi⟩
                    case measure => simp [intOf]; omega
                  · have hqq : (V == x) = false := beq_eq_false_iff_ne.2 hVx
                    rw [hqq] at hI2
                    clear hVx
                    go_wp2_with fail
                    first
                      | go_region_with ((go_at_call 21; refine (rint_any r L E _ ?_).mono ?_; (exact hrd); rintro e wi ⟨rfl, hri, hgi⟩; rw [← HV.out]; have hq1 := hgi.cell hck (by simpa using hbr)))
                      | fail
                    all_goals
                      have hbi := Below.rd hbI.drew hgi (by simpa using hsz) hr0
                      clear hgi hbI hck hrd HV
                      go_wp2
                      go_roundw
                      case rel => exact ⟨k + 1, by omega, by go_num, _, _, _, rfl, hri, by simpa using hI2, hbi⟩
                      case measure => simp [intOf]; omega
                · obtain rfl : n = k := by omega
                  have hdz : ints (zs.drop n) = [] := by rw [List.drop_of_length_le (by have := HN.out; omega)]; rfl
                  rw [hdz, List.nil_append] at hI
                  clear hdz hlt hk
                  go_wp2_with fail
                  go_loopw [11, 13] (fun o i wx => ∃ j : Nat, j ≤ m ∧ i = .int .i64 j ∧ ∃ q : Bool, ∃ L : List UInt8, ∃ E : Int, o = .bool q ∧ Rd wx r L E ∧ Inv true [] (texts (ss.drop j)) L E q ∧ Below wo.heap.size wo wx) (fun _ i _ => m - (intOf i).toNat)
                  case atStart => exact ⟨0, Nat.zero_le _, rfl, _, _, _, rfl, hrd, by simpa using hI, hbI⟩
                  case round =>
                    clear hI hrd hbI hsz
                    obtain ⟨j, hj, rfl, q, L, E, rfl, hrd, hI, hbI⟩ := hrel
                    have hsz := hbI.size
                    by_cases hlt : j < m
                    · obtain ⟨b, off, hao, hbw, hc⟩ := hs j (by have := HM.out; omega)
                      subst hao
                      have hck := ((hbel.trans (hbI.mono hs0)).cell hbw).trans hc
                      have hxs : (ss.getD j ByteArray.empty).size ≤ 200 := HLE.out _ (by have := HM.out; simp [List.getD, show j < ss.length by omega])
                      have hdr : texts (ss.drop j) = tx (ss.getD j ByteArray.empty) ++ texts (ss.drop (j + 1)) := by
                        rw [drop_cons ss j ByteArray.empty (by have := HM.out; omega)]; simp [texts]
                      rw [hdr] at hI
                      generalize ss.getD j ByteArray.empty = x at *
                      clear hdr hc
                      obtain ⟨V, hV⟩ : ∃ V : ByteArray, V = ⟨(textOf L E).toArray⟩ := ⟨_, rfl⟩
                      have hI2 := inv_text x (by omega) hI (decide (V = x)) (by intro h; rw [hV, h]; simp)
                      have HV := Lib.hid hV
                      clear hV hI hxs
                      have hbr : b ≠ r := by have := hbw; omega
                      by_cases hVx : V = x
                      · subst hVx
                        go_wp2_with fail
                        go_region_held3 (fun w' => w'.cell? ⟨b, off + j, none⟩ = some (.string V)) (first | assumption | exact hq1)
                          (first
                            | (go_at_call 25; refine (rtext_any r L E _ ?_).mono ?_; (exact hrd); rintro e wi ⟨rfl, hri, hgi⟩; rw [← HV.out]; have hq1 := hgi.cell hck (by simpa using hbr)))
                        have hbi := Below.rd hbI.drew hgi (by simpa using hsz) hr0
                        clear hgi hbI hck hrd HV
                        go_wp2
                        go_roundw
                        case rel => exact ⟨j + 1, by omega, by go_num, _, _, _, rfl, hri, by simpa using hI2, hbi⟩
                        case measure => simp [intOf]; omega
                      · have hqq : decide (V = x) = false := decide_eq_false hVx
                        have hq3 := bytes_ne hVx
                        rw [hqq] at hI2
                        clear hqq hVx
                        go_wp2_with fail
                        first
                          | go_region_with ((go_at_call 25; refine (rtext_any r L E _ ?_).mono ?_; (exact hrd); rintro e wi ⟨rfl, hri, hgi⟩; rw [← HV.out]; have hq1 := hgi.cell hck (by simpa using hbr)))
                          | fail
                        all_goals
                          have hbi := Below.rd hbI.drew hgi (by simpa using hsz) hr0
                          clear hgi hbI hck hrd HV
                          go_wp2
                          go_roundw
                          case rel => exact ⟨j + 1, by omega, by go_num, _, _, _, rfl, hri, by simpa using hI2, hbi⟩
                          case measure => simp [intOf]; omega
                    · obtain rfl : m = j := by omega
                      have hdz : texts (ss.drop m) = [] := by rw [List.drop_of_length_le (by have := HM.out; omega)]; rfl
                      rw [hdz] at hI
                      clear hdz hlt hj
                      obtain ⟨rfl, rfl, rfl⟩ := inv_end hI
                      go_wp2_with fail
                      refine (end_any r _ _ _ hrd).mono ?_
                      rintro en w8 ⟨rfl, rfl⟩
                      
                      go_wp2
                      go_roundw
                      case rel => exact ⟨0 + 1, by omega, by omega, by simp, hbI⟩
                      case measure => simp [intOf]
            · go_wp2_with (at_builtin; refine wpList_append_bytes rfl _ _ rfl wo.heap.size _ _ rfl (Own.empty _ _ ?kb1) _ _ rfl (hbsK.below ?kb2) ?kb3 ?kb4 ?_)
              case kb1 => omega
              case kb2 => exact (Below.refl _ _).alloc (Nat.le_refl _) _
              case kb3 => have := HNN.out; rw [List.length_nil]; omega
              case kb4 => simp; omega
              intro v6 w6 ho6 hg6
              have hb6 : Below wo.heap.size wo w6 := (Own.empty _ _ hsK).step (hbK.alloc hsK _) hg6 (Nat.le_refl _) (by simp; omega)
              have hs6 := hb6.size
              replace ho6 : Own w6 wo.heap.size v6 (pre ++ texts ss) := by simpa using ho6
              clear hg6
              go_wp2_with (at_builtin; refine wpList_append_bytes rfl _ _ rfl wo.heap.size _ _ rfl (ho6.alloc _) _ _ rfl (Bs.one _ 7 _ rfl) ?kc3 ?kc4 ?_)
              case kc3 => have := HNN.out; simp only [List.length_cons, List.length_nil]; omega
              case kc4 => simp; omega
              intro v7 w7 ho7 hg7
              have hb7 : Below wo.heap.size wo w7 := (ho6.alloc _).step (hb6.alloc hs6 _) hg7 (Nat.le_refl _) (by simp; omega)
              have hs7 := hb7.size
              have hbs7 : Bs w7 v7 (pre ++ texts ss ++ [7]) := by simpa using ho7.bs
              clear ho6 hg7 ho7 hb6 hs6 hbsK
              go_wp2_with fail
              refine (new_any _ (pre ++ texts ss ++ [7]) (by have := HNN.out; rw [List.length_append]; simp only [List.length_cons, List.length_nil]; omega) _ hbs7).mono ?_
              rintro en wn ⟨r, rfl, hrn, hqn, hbn⟩
              have hI : Inv true [7] (le n 1 ++ (ints zs ++ texts ss)) (pre ++ texts ss ++ [7]) 0 true := .inl ⟨rfl, by rw [HENC.out], rfl, rfl⟩

              have hBn : Below wo.heap.size wo wn := hb7.trans (hbn.mono hs7)
              have hr0 : wo.heap.size ≤ r := by omega
              have hsn := hBn.size
              clear hbn
              go_wp2_with fail
              refine (rbyte_any r _ 0 _ hrn).mono ?_
              rintro en wp ⟨rfl, hrp, hgp⟩
              have hBp := Below.rd hBn hgp hsn hr0
              obtain ⟨V, hV⟩ : ∃ V, V = wrap64 (num (tookOf (pre ++ texts ss ++ [7]) 0 1)) := ⟨_, rfl⟩
              rw [← hV]
              have hIp := inv_num (n : Int) n 1 (by rw [num_one]; omega) hI (V == (n : Int)) (by intro h; rw [← hV] at h; exact beq_iff_eq.2 h)
              rw [Bool.and_true] at hIp
              generalize leftOf (pre ++ texts ss ++ [7]) 0 1 = L1 at *
              generalize errOf (pre ++ texts ss ++ [7]) 0 1 = E1 at *
              clear hV hI hrn hgp hBn hsn
              go_wp2_with fail
              go_loopw [11, 12] (fun o i wx => ∃ k : Nat, k ≤ n ∧ i = .int .i64 k ∧ ∃ q : Bool, ∃ L : List UInt8, ∃ E : Int, o = .bool q ∧ Rd wx r L E ∧ Inv true [7] (ints (zs.drop k) ++ texts ss) L E q ∧ Below wo.heap.size wo wx) (fun _ i _ => n - (intOf i).toNat)
              case atStart => exact ⟨0, Nat.zero_le _, rfl, _, _, _, rfl, hrp, hIp, hBp⟩
              case round =>
                clear hIp hrp hBp
                obtain ⟨k, hk, rfl, q, L, E, rfl, hrd, hI, hbI⟩ := hrel
                have hsz := hbI.size
                by_cases hlt : k < n
                · obtain ⟨b, off, hao, hbw, hc⟩ := hz.2 k (by have := HN.out; omega)
                  subst hao
                  have hck := ((hbel.trans (hbI.mono hs0)).cell hbw).trans hc
                  have hwx : (Lit.int .i64 (zs.getD k 0)).wf = true := hz.1 _ (by have := HN.out; simp [List.getD, show k < zs.length by omega])
                  have hdr : ints (zs.drop k) = le (zs.getD k 0) 8 ++ ints (zs.drop (k + 1)) := by
                    rw [drop_cons zs k 0 (by have := HN.out; omega)]; simp [ints]
                  rw [hdr, List.append_assoc] at hI
                  generalize zs.getD k 0 = x at *
                  clear hdr hc
                  obtain ⟨V, hV⟩ : ∃ V, V = wrap64 (num (tookOf L E 8)) := ⟨_, rfl⟩
                  have hI2 := inv_num x x 8 (num_back x hwx) hI (V == x) (by intro h; rw [← hV] at h; exact beq_iff_eq.2 h)
                  have HV := Lib.hid hV
                  clear hV hI hwx
                  have hbr : b ≠ r := by have := hbw; omega
                  by_cases hVx : V = x
                  · subst hVx
                    have hqq : (V == V) = true := by simp
                    rw [hqq] at hI2
                    go_wp2_with fail
                    go_region_held3 (fun w' => w'.cell? ⟨b, off + k, none⟩ = some (.int .i64 V)) (first | assumption | exact hq1)
                      (first
                        | (go_at_call 21; refine (rint_any r L E _ ?_).mono ?_; (exact hrd); rintro e wi ⟨rfl, hri, hgi⟩; rw [← HV.out]; have hq1 := hgi.cell hck (by simpa using hbr)))
                    have hbi := Below.rd hbI.drew hgi (by simpa using hsz) hr0
                    clear hgi hbI hck hrd HV
                    go_wp2
                    go_roundw
                    case rel => exact ⟨k + 1, by omega, by go_num, _, _, _, rfl, hri, by simpa using hI2, hbi⟩
                    case measure => simp [intOf]; omega
                  · have hqq : (V == x) = false := beq_eq_false_iff_ne.2 hVx
                    rw [hqq] at hI2
                    clear hVx
                    go_wp2_with fail
                    first
                      | go_region_with ((go_at_call 21; refine (rint_any r L E _ ?_).mono ?_; (exact hrd); rintro e wi ⟨rfl, hri, hgi⟩; rw [← HV.out]; have hq1 := hgi.cell hck (by simpa using hbr)))
                      | fail
                    all_goals
                      have hbi := Below.rd hbI.drew hgi (by simpa using hsz) hr0
                      clear hgi hbI hck hrd HV
                      go_wp2
                      go_roundw
                      case rel => exact ⟨k + 1, by omega, by go_num, _, _, _, rfl, hri, by simpa using hI2, hbi⟩
                      case measure => simp [intOf]; omega
                · obtain rfl : n = k := by omega
                  have hdz : ints (zs.drop n) = [] := by rw [List.drop_of_length_le (by have := HN.out; omega)]; rfl
                  rw [hdz, List.nil_append] at hI
                  clear hdz hlt hk
                  go_wp2_with fail
                  go_loopw [11, 13] (fun o i wx => ∃ j : Nat, j ≤ m ∧ i = .int .i64 j ∧ ∃ q : Bool, ∃ L : List UInt8, ∃ E : Int, o = .bool q ∧ Rd wx r L E ∧ Inv true [7] (texts (ss.drop j)) L E q ∧ Below wo.heap.size wo wx) (fun _ i _ => m - (intOf i).toNat)
                  case atStart => exact ⟨0, Nat.zero_le _, rfl, _, _, _, rfl, hrd, by simpa using hI, hbI⟩
                  case round =>
                    clear hI hrd hbI hsz
                    obtain ⟨j, hj, rfl, q, L, E, rfl, hrd, hI, hbI⟩ := hrel
                    have hsz := hbI.size
                    by_cases hlt : j < m
                    · obtain ⟨b, off, hao, hbw, hc⟩ := hs j (by have := HM.out; omega)
                      subst hao
                      have hck := ((hbel.trans (hbI.mono hs0)).cell hbw).trans hc
                      have hxs : (ss.getD j ByteArray.empty).size ≤ 200 := HLE.out _ (by have := HM.out; simp [List.getD, show j < ss.length by omega])
                      have hdr : texts (ss.drop j) = tx (ss.getD j ByteArray.empty) ++ texts (ss.drop (j + 1)) := by
                        rw [drop_cons ss j ByteArray.empty (by have := HM.out; omega)]; simp [texts]
                      rw [hdr] at hI
                      generalize ss.getD j ByteArray.empty = x at *
                      clear hdr hc
                      obtain ⟨V, hV⟩ : ∃ V : ByteArray, V = ⟨(textOf L E).toArray⟩ := ⟨_, rfl⟩
                      have hI2 := inv_text x (by omega) hI (decide (V = x)) (by intro h; rw [hV, h]; simp)
                      have HV := Lib.hid hV
                      clear hV hI hxs
                      have hbr : b ≠ r := by have := hbw; omega
                      by_cases hVx : V = x
                      · subst hVx
                        go_wp2_with fail
                        go_region_held3 (fun w' => w'.cell? ⟨b, off + j, none⟩ = some (.string V)) (first | assumption | exact hq1)
                          (first
                            | (go_at_call 25; refine (rtext_any r L E _ ?_).mono ?_; (exact hrd); rintro e wi ⟨rfl, hri, hgi⟩; rw [← HV.out]; have hq1 := hgi.cell hck (by simpa using hbr)))
                        have hbi := Below.rd hbI.drew hgi (by simpa using hsz) hr0
                        clear hgi hbI hck hrd HV
                        go_wp2
                        go_roundw
                        case rel => exact ⟨j + 1, by omega, by go_num, _, _, _, rfl, hri, by simpa using hI2, hbi⟩
                        case measure => simp [intOf]; omega
                      · have hqq : decide (V = x) = false := decide_eq_false hVx
                        have hq3 := bytes_ne hVx
                        rw [hqq] at hI2
                        clear hqq hVx
                        go_wp2_with fail
                        first
                          | go_region_with ((go_at_call 25; refine (rtext_any r L E _ ?_).mono ?_; (exact hrd); rintro e wi ⟨rfl, hri, hgi⟩; rw [← HV.out]; have hq1 := hgi.cell hck (by simpa using hbr)))
                          | fail
                        all_goals
                          have hbi := Below.rd hbI.drew hgi (by simpa using hsz) hr0
                          clear hgi hbI hck hrd HV
                          go_wp2
                          go_roundw
                          case rel => exact ⟨j + 1, by omega, by go_num, _, _, _, rfl, hri, by simpa using hI2, hbi⟩
                          case measure => simp [intOf]; omega
                    · obtain rfl : m = j := by omega
                      have hdz : texts (ss.drop m) = [] := by rw [List.drop_of_length_le (by have := HM.out; omega)]; rfl
                      rw [hdz] at hI
                      clear hdz hlt hj
                      obtain ⟨rfl, rfl, rfl⟩ := inv_end hI
                      go_wp2_with fail
                      refine (end_any r _ _ _ hrd).mono ?_
                      rintro en w8 ⟨rfl, rfl⟩
                      
                      go_wp2
                      go_roundw
                      case rel => exact ⟨1 + 1, by omega, by omega, by simp, hbI⟩
                      case measure => simp [intOf]
            · have hcut : ∃ X : List UInt8, ∃ c : UInt8, X ++ [c] = pre ++ texts ss ∧ X.length ≤ 2300 ∧ Bs wr (.slice (some ⟨b5, off5, none⟩) (N - 1) cap5) X := by
                have hN := HNN.out
                have hbsN := hbsK
                rw [← hN] at hbsN
                have h1 := hbsN.takes (N - 1) (by omega)
                refine ⟨(pre ++ texts ss).take (N - 1), (pre ++ texts ss)[N - 1]'(by omega), ?_, by rw [List.length_take]; omega, h1⟩
                rw [← List.take_succ_eq_append_getElem (by omega), List.take_of_length_le (by omega)]
              obtain ⟨X, c, hXc, hXl, hbsX⟩ := hcut
              have hI : Inv false [] (le n 1 ++ (ints zs ++ texts ss)) X 0 true := .inr ⟨rfl, .inr ⟨rfl, c, by rw [hXc, HENC.out]⟩⟩
              clear hXc hbsK
              go_wp2_with fail
              refine (new_any _ X (by omega) _ hbsX).mono ?_
              rintro en wn ⟨r, rfl, hrn, hqn, hbn⟩

              have hBn : Below wo.heap.size wo wn := hbK.trans (hbn.mono hsK)
              have hr0 : wo.heap.size ≤ r := by omega
              have hsn := hBn.size
              clear hbn
              go_wp2_with fail
              refine (rbyte_any r _ 0 _ hrn).mono ?_
              rintro en wp ⟨rfl, hrp, hgp⟩
              have hBp := Below.rd hBn hgp hsn hr0
              obtain ⟨V, hV⟩ : ∃ V, V = wrap64 (num (tookOf (X) 0 1)) := ⟨_, rfl⟩
              rw [← hV]
              have hIp := inv_num (n : Int) n 1 (by rw [num_one]; omega) hI (V == (n : Int)) (by intro h; rw [← hV] at h; exact beq_iff_eq.2 h)
              rw [Bool.and_true] at hIp
              generalize leftOf (X) 0 1 = L1 at *
              generalize errOf (X) 0 1 = E1 at *
              clear hV hI hrn hgp hBn hsn
              go_wp2_with fail
              go_loopw [11, 12] (fun o i wx => ∃ k : Nat, k ≤ n ∧ i = .int .i64 k ∧ ∃ q : Bool, ∃ L : List UInt8, ∃ E : Int, o = .bool q ∧ Rd wx r L E ∧ Inv false [] (ints (zs.drop k) ++ texts ss) L E q ∧ Below wo.heap.size wo wx) (fun _ i _ => n - (intOf i).toNat)
              case atStart => exact ⟨0, Nat.zero_le _, rfl, _, _, _, rfl, hrp, hIp, hBp⟩
              case round =>
                clear hIp hrp hBp
                obtain ⟨k, hk, rfl, q, L, E, rfl, hrd, hI, hbI⟩ := hrel
                have hsz := hbI.size
                by_cases hlt : k < n
                · obtain ⟨b, off, hao, hbw, hc⟩ := hz.2 k (by have := HN.out; omega)
                  subst hao
                  have hck := ((hbel.trans (hbI.mono hs0)).cell hbw).trans hc
                  have hwx : (Lit.int .i64 (zs.getD k 0)).wf = true := hz.1 _ (by have := HN.out; simp [List.getD, show k < zs.length by omega])
                  have hdr : ints (zs.drop k) = le (zs.getD k 0) 8 ++ ints (zs.drop (k + 1)) := by
                    rw [drop_cons zs k 0 (by have := HN.out; omega)]; simp [ints]
                  rw [hdr, List.append_assoc] at hI
                  generalize zs.getD k 0 = x at *
                  clear hdr hc
                  obtain ⟨V, hV⟩ : ∃ V, V = wrap64 (num (tookOf L E 8)) := ⟨_, rfl⟩
                  have hI2 := inv_num x x 8 (num_back x hwx) hI (V == x) (by intro h; rw [← hV] at h; exact beq_iff_eq.2 h)
                  have HV := Lib.hid hV
                  clear hV hI hwx
                  have hbr : b ≠ r := by have := hbw; omega
                  by_cases hVx : V = x
                  · subst hVx
                    have hqq : (V == V) = true := by simp
                    rw [hqq] at hI2
                    go_wp2_with fail
                    go_region_held3 (fun w' => w'.cell? ⟨b, off + k, none⟩ = some (.int .i64 V)) (first | assumption | exact hq1)
                      (first
                        | (go_at_call 21; refine (rint_any r L E _ ?_).mono ?_; (exact hrd); rintro e wi ⟨rfl, hri, hgi⟩; rw [← HV.out]; have hq1 := hgi.cell hck (by simpa using hbr)))
                    have hbi := Below.rd hbI.drew hgi (by simpa using hsz) hr0
                    clear hgi hbI hck hrd HV
                    go_wp2
                    go_roundw
                    case rel => exact ⟨k + 1, by omega, by go_num, _, _, _, rfl, hri, by simpa using hI2, hbi⟩
                    case measure => simp [intOf]; omega
                  · have hqq : (V == x) = false := beq_eq_false_iff_ne.2 hVx
                    rw [hqq] at hI2
                    clear hVx
                    go_wp2_with fail
                    first
                      | go_region_with ((go_at_call 21; refine (rint_any r L E _ ?_).mono ?_; (exact hrd); rintro e wi ⟨rfl, hri, hgi⟩; rw [← HV.out]; have hq1 := hgi.cell hck (by simpa using hbr)))
                      | fail
                    all_goals
                      have hbi := Below.rd hbI.drew hgi (by simpa using hsz) hr0
                      clear hgi hbI hck hrd HV
                      go_wp2
                      go_roundw
                      case rel => exact ⟨k + 1, by omega, by go_num, _, _, _, rfl, hri, by simpa using hI2, hbi⟩
                      case measure => simp [intOf]; omega
                · obtain rfl : n = k := by omega
                  have hdz : ints (zs.drop n) = [] := by rw [List.drop_of_length_le (by have := HN.out; omega)]; rfl
                  rw [hdz, List.nil_append] at hI
                  clear hdz hlt hk
                  go_wp2_with fail
                  go_loopw [11, 13] (fun o i wx => ∃ j : Nat, j ≤ m ∧ i = .int .i64 j ∧ ∃ q : Bool, ∃ L : List UInt8, ∃ E : Int, o = .bool q ∧ Rd wx r L E ∧ Inv false [] (texts (ss.drop j)) L E q ∧ Below wo.heap.size wo wx) (fun _ i _ => m - (intOf i).toNat)
                  case atStart => exact ⟨0, Nat.zero_le _, rfl, _, _, _, rfl, hrd, by simpa using hI, hbI⟩
                  case round =>
                    clear hI hrd hbI hsz
                    obtain ⟨j, hj, rfl, q, L, E, rfl, hrd, hI, hbI⟩ := hrel
                    have hsz := hbI.size
                    by_cases hlt : j < m
                    · obtain ⟨b, off, hao, hbw, hc⟩ := hs j (by have := HM.out; omega)
                      subst hao
                      have hck := ((hbel.trans (hbI.mono hs0)).cell hbw).trans hc
                      have hxs : (ss.getD j ByteArray.empty).size ≤ 200 := HLE.out _ (by have := HM.out; simp [List.getD, show j < ss.length by omega])
                      have hdr : texts (ss.drop j) = tx (ss.getD j ByteArray.empty) ++ texts (ss.drop (j + 1)) := by
                        rw [drop_cons ss j ByteArray.empty (by have := HM.out; omega)]; simp [texts]
                      rw [hdr] at hI
                      generalize ss.getD j ByteArray.empty = x at *
                      clear hdr hc
                      obtain ⟨V, hV⟩ : ∃ V : ByteArray, V = ⟨(textOf L E).toArray⟩ := ⟨_, rfl⟩
                      have hI2 := inv_text x (by omega) hI (decide (V = x)) (by intro h; rw [hV, h]; simp)
                      have HV := Lib.hid hV
                      clear hV hI hxs
                      have hbr : b ≠ r := by have := hbw; omega
                      by_cases hVx : V = x
                      · subst hVx
                        go_wp2_with fail
                        go_region_held3 (fun w' => w'.cell? ⟨b, off + j, none⟩ = some (.string V)) (first | assumption | exact hq1)
                          (first
                            | (go_at_call 25; refine (rtext_any r L E _ ?_).mono ?_; (exact hrd); rintro e wi ⟨rfl, hri, hgi⟩; rw [← HV.out]; have hq1 := hgi.cell hck (by simpa using hbr)))
                        have hbi := Below.rd hbI.drew hgi (by simpa using hsz) hr0
                        clear hgi hbI hck hrd HV
                        go_wp2
                        go_roundw
                        case rel => exact ⟨j + 1, by omega, by go_num, _, _, _, rfl, hri, by simpa using hI2, hbi⟩
                        case measure => simp [intOf]; omega
                      · have hqq : decide (V = x) = false := decide_eq_false hVx
                        have hq3 := bytes_ne hVx
                        rw [hqq] at hI2
                        clear hqq hVx
                        go_wp2_with fail
                        first
                          | go_region_with ((go_at_call 25; refine (rtext_any r L E _ ?_).mono ?_; (exact hrd); rintro e wi ⟨rfl, hri, hgi⟩; rw [← HV.out]; have hq1 := hgi.cell hck (by simpa using hbr)))
                          | fail
                        all_goals
                          have hbi := Below.rd hbI.drew hgi (by simpa using hsz) hr0
                          clear hgi hbI hck hrd HV
                          go_wp2
                          go_roundw
                          case rel => exact ⟨j + 1, by omega, by go_num, _, _, _, rfl, hri, by simpa using hI2, hbi⟩
                          case measure => simp [intOf]; omega
                    · obtain rfl : m = j := by omega
                      have hdz : texts (ss.drop m) = [] := by rw [List.drop_of_length_le (by have := HM.out; omega)]; rfl
                      rw [hdz] at hI
                      clear hdz hlt hj
                      obtain rfl := inv_cut hI
                      go_wp2_with fail
                      refine (end_any r _ _ _ hrd).mono ?_
                      rintro en w8 ⟨rfl, rfl⟩
                      rw [end_err (by decide)]
                      go_wp2
                      go_roundw
                      case rel => exact ⟨2 + 1, by omega, by omega, by simp, hbI⟩
                      case measure => simp [intOf]
end Go.Proofs.Ytkgdplbkhkafgaa
