/- The walk of NtLines. -/
import Derived.Test.YtbpdapcmaioeiaaDoorNm
namespace Go.Proofs.YtbpdapcmaioeiaaDoor
open Go.RowKit Go.Shelf
set_option maxRecDepth 100000
set_option linter.unusedVariables false
theorem good_grow (k : Nat) (hk : k < 20) (x : ByteArray) (hx : x = ⟨(goodN k).toArray⟩) :
    ((x ++ ⟨#[60, 97, 62, 32, 60, 98, 62, 32, 34]⟩) ++ ⟨#[UInt8.ofNat (97 + k)]⟩) ++ ⟨#[34, 32, 46, 10]⟩ = (⟨(goodN (k + 1)).toArray⟩ : ByteArray) := by
  subst hx
  apply ba_ext
  rw [ByteArray.data_append, ByteArray.data_append, ByteArray.data_append]
  simp [goodN, goodA]
theorem bad_at (k : Nat) (h : k < 5) : ([.string ⟨#[60, 97, 62, 32, 60, 98, 62, 32, 46, 10]⟩, .string ⟨#[60, 97, 62, 32, 60, 98, 62, 32, 60, 99, 62, 10]⟩, .string ⟨#[34, 97, 34, 32, 60, 98, 62, 32, 60, 99, 62, 32, 46, 10]⟩, .string ⟨#[60, 97, 62, 32, 95, 58, 98, 32, 60, 99, 62, 32, 46, 10]⟩, .string ⟨#[60, 62, 32, 60, 98, 62, 32, 60, 99, 62, 32, 46, 10]⟩] : List Value)[k]'h = .string ⟨(badA k ++ [10]).toArray⟩ := by
  match k, h with
  | 0, _ => rfl
  | 1, _ => rfl
  | 2, _ => rfl
  | 3, _ => rfl
  | 4, _ => rfl
theorem want_at (k : Nat) (h : k < 5) : ([.int .i64 6, .int .i64 6, .int .i64 3, .int .i64 3, .int .i64 1] : List Value)[k]'h = .int .i64 (wantE k) := by
  match k, h with
  | 0, _ => rfl
  | 1, _ => rfl
  | 2, _ => rfl
  | 3, _ => rfl
  | 4, _ => rfl
set_option maxHeartbeats 16000000 in
theorem lines_walk (a b c : Int) (W : World) :
    Calls Tryd.prog 4 #[.int .i64 a, .int .i64 b, .int .i64 c] W fun e w' => e = .returned (.bool true) ∧ Below W.heap.size W w' := by
  obtain ⟨n, hn⟩ : ∃ n : Nat, a % 20 = n := ⟨(a % 20).toNat, by omega⟩
  obtain ⟨m, hm⟩ : ∃ m : Nat, b % 5 = m := ⟨(b % 5).toNat, by omega⟩
  obtain ⟨k, hk⟩ : ∃ k : Nat, c % 5 = k := ⟨(c % 5).toNat, by omega⟩
  have hn2 : n < 20 := by omega
  have hm2 : m < 5 := by omega
  have hk2 : k < 5 := by omega
  have H1 := Lib.hid hn
  have H2 := Lib.hid hm
  have H3 := Lib.hid hk
  clear hn hm hk
  have HL := Lib.hid (lines_eq n k m hn2 hk2 hm2)
  go_enter Tryd.func4, Tryd.ntmps4
  go_wp2_with fail
  refine (known9_any W).mono ?_
  rintro e w1 ⟨rfl, h1⟩
  have HB1 := Lib.hid h1
  clear h1
  go_wp2_with fail
  refine (within9_eq a 20 (by omega) (by omega) _).mono ?_
  rintro e w2 ⟨rfl, hw⟩
  subst hw
  rw [H1.out]
  go_wp2_with fail
  refine (within9_eq b 5 (by omega) (by omega) _).mono ?_
  rintro e w3 ⟨rfl, hw⟩
  subst hw
  rw [H2.out]
  go_wp2_with fail
  go_loopw [7, 8] (fun s7 s8 wr => ∃ j : Nat, j ≤ n ∧ s8 = .int .i64 j ∧ s7 = .string ⟨(goodN j).toArray⟩ ∧ Below W.heap.size W wr) (fun _ i _ => 20 - (intOf i).toNat)
  case atStart => exact ⟨0, by omega, rfl, rfl, HB1.out⟩
  case round =>
    obtain ⟨j, hj, rfl, rfl, hb⟩ := hrel
    have HB := Lib.hid hb
    clear hb
    by_cases hjn : (j : Int) < n
    · have hgr := good_grow j (by omega) _ rfl
      obtain ⟨X, hX⟩ : ∃ X : ByteArray, X = ⟨(goodN j).toArray⟩ := ⟨_, rfl⟩
      have hxs : X.size ≤ 300 := by
        have := goodN_len j
        rw [hX]
        show (goodN j).toArray.size ≤ 300
        simp
        omega
      rw [← hX] at hgr ⊢
      have HG := Lib.hid hgr
      clear hgr hX
      obtain ⟨y, hy⟩ : ∃ y, y = UInt8.ofNat (97 + j) := ⟨_, rfl⟩
      have hyn : (y.toNat : Int) = 97 + (j : Int) := by
        rw [hy, UInt8.toNat_ofNat']
        omega
      rw [← hy] at HG
      have hcb := run_convert_bytes_back (P := Tryd.prog) (wr.alloc (.cells #[.int .u8 (97 + (j : Int))] 5)) 39 9 5 ⟨wr.heap.size, 0, none⟩ 1 [y] Tryd.underlying39 Tryd.underlying5 Tryd.underlying9 (by
        intro q hq
        have : q = 0 := by simp at hq; omega
        subst this
        simp [Addr.add]
        omega)
      simp only [List.length_cons, List.length_nil, Nat.zero_add] at hcb
      obtain ⟨Y, hY⟩ : ∃ Y : ByteArray, Y = ⟨#[y]⟩ := ⟨_, rfl⟩
      have hcb' : (convert 39 9 (Value.slice (some ⟨wr.heap.size, 0, none⟩) 1 1)).run Tryd.prog (wr.alloc (.cells #[.int .u8 (97 + (j : Int))] 5)) = .ok (.string Y) (wr.alloc (.cells #[.int .u8 (97 + (j : Int))] 5)) := by rw [hY]; exact hcb
      rw [← hY] at HG
      have hys : Y.size = 1 := by rw [hY]; rfl
      clear hcb hY hy hyn
      go_wp2_with fail
      go_roundw
      case rel => exact ⟨j + 1, by omega, by go_num, by rw [HG.out], HB.out.trans (((Below.refl _ wr).alloc (Nat.le_refl _) _).mono HB.out.size)⟩
      case measure => simp [intOf]; omega
    · obtain rfl : j = n := by omega
      clear hjn hj
      have HPN := Lib.hid (goodN_len j)
      obtain ⟨X, hX⟩ : ∃ X : ByteArray, X = ⟨(goodN j).toArray⟩ := ⟨_, rfl⟩
      rw [← hX]
      have HX := Lib.hid hX
      have hxs : X.size ≤ 300 := by
        have := HPN.out
        rw [hX]
        show (goodN j).toArray.size ≤ 300
        simp
        omega
      clear hX
      go_wp2_with fail
      refine (within9_eq c 5 (by omega) (by omega) _).mono ?_
      rintro e w4 ⟨rfl, hw⟩
      subst hw
      rw [H3.out]
      obtain ⟨Z, hZ⟩ : ∃ Z : ByteArray, Z = ⟨(badA k ++ [10]).toArray⟩ := ⟨_, rfl⟩
      have hzs : Z.size ≤ 20 := by
        have := badA_len k
        rw [hZ]
        show (badA k ++ [10]).toArray.size ≤ 20
        simp
        omega
      have hba := bad_at k hk2
      rw [← hZ] at hba
      have HZ := Lib.hid hZ
      clear hZ
      go_wp2_with (rw [hba])
      have hb4 := Lib.hid (HB.out.trans (((Below.refl _ w4).alloc (Nat.le_refl _) (.cells #[.string ⟨#[60, 97, 62, 32, 60, 98, 62, 32, 46, 10]⟩, .string ⟨#[60, 97, 62, 32, 60, 98, 62, 32, 60, 99, 62, 10]⟩, .string ⟨#[34, 97, 34, 32, 60, 98, 62, 32, 60, 99, 62, 32, 46, 10]⟩, .string ⟨#[60, 97, 62, 32, 95, 58, 98, 32, 60, 99, 62, 32, 46, 10]⟩, .string ⟨#[60, 62, 32, 60, 98, 62, 32, 60, 99, 62, 32, 46, 10]⟩] 9)).mono HB.out.size))
      generalize w4.alloc _ = w5 at hb4 ⊢
      go_loopw [7, 10] (fun s7 s10 wr => ∃ q : Nat, q ≤ m ∧ s10 = .int .i64 q ∧ s7 = .string ((X ++ Z) ++ ⟨(restN q).toArray⟩) ∧ wr = w5) (fun _ i _ => 5 - (intOf i).toNat)
      case atStart => exact ⟨0, by omega, rfl, congrArg Value.string (by apply ba_ext; rw [ByteArray.data_append, ByteArray.data_append]; simp [restN]), rfl⟩
      case round =>
        obtain ⟨q, hq, rfl, rfl, hwr⟩ := hrel
        replace hwr := hwr.symm
        subst hwr
        have hgr : ((X ++ Z) ++ ⟨(restN q).toArray⟩) ++ ⟨#[119, 104, 97, 116, 10]⟩ = (X ++ Z) ++ (⟨(restN (q + 1)).toArray⟩ : ByteArray) := by
          apply ba_ext
          simp [restN]
        obtain ⟨V, hV⟩ : ∃ V : ByteArray, V = (X ++ Z) ++ ⟨(restN q).toArray⟩ := ⟨_, rfl⟩
        rw [← hV] at hgr ⊢
        have hvs : V.size ≤ 1000 := by
          have := restN_len q
          rw [hV, ByteArray.size_append, ByteArray.size_append]
          have : (⟨(restN q).toArray⟩ : ByteArray).size = (restN q).length := by show (restN q).toArray.size = _; simp
          omega
        have HV := Lib.hid hV
        have HG := Lib.hid hgr
        clear hV hgr
        by_cases hqm : (q : Int) < m
        · go_wp2_with fail
          go_roundw
          case rel => exact ⟨q + 1, by omega, by go_num, by rw [HG.out], by first | exact trivial | rfl⟩
          case measure => simp [intOf]; omega
        · obtain rfl : q = m := by omega
          clear hqm hq
          have HPV : Hid (parseOfS V = ([], ((j + 1 : Nat) : Int), wantE k)) := Lib.hid (by
            rw [← HL.out, HV.out, HX.out, HZ.out]
            congr 1)
          go_wp2_with fail
          refine (parse9 V (by omega) _).mono ?_
          intro e w6 h
          unfold ParTo at h
          rw [HPV.out] at h
          obtain ⟨ao, cap, rfl, hb6, -⟩ := h
          have HB6 := Lib.hid (hb4.out.trans (hb6.mono hb4.out.size))
          clear hb6
          simp only [List.length_nil]
          obtain ⟨e9, he9⟩ : ∃ e : Int, wantE k = e := ⟨_, rfl⟩
          rw [he9]
          have hj1 : (((j + 1 : Nat) : Nat) : Int) = (j : Int) + 1 := by push_cast; rfl
          rw [hj1]
          have hwa := want_at k hk2
          rw [he9] at hwa
          go_wp2_with (rw [hwa])
          go_ret
          have hb7 := HB6.out
          exact ⟨rfl, hb7.trans (((Below.refl _ w6).alloc (Nat.le_refl _) _).mono hb7.size)⟩
end Go.Proofs.YtbpdapcmaioeiaaDoor
