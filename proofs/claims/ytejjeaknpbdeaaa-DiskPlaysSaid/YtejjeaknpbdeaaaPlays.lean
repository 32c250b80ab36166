/- The walk of the law DiskPlays. -/
import Derived.Test.YtejjeaknpbdeaaaSame
namespace Go.Proofs.Ytejjeaknpbdeaaa
open Go.RowKit

/-- An act that came in. -/
structure ActD where
  kd : Int
  av : Int
  nn : Int
  bv : Value
  kv : Value
  bs : List UInt8
  ks : List Bool
instance : Inhabited ActD := ⟨⟨0, 0, 0, .slice none 0 0, .slice none 0 0, [], []⟩⟩

/-- An act's five cells, and what its slices read as. -/
def ActAt (w : World) (b o : Nat) (a : ActD) : Prop :=
  w.cell? ⟨b, o, none⟩ = some (.int .i64 a.kd) ∧ w.cell? ⟨b, o + 1, none⟩ = some (.int .i64 a.av) ∧ w.cell? ⟨b, o + 2, none⟩ = some (.int .i64 a.nn) ∧ w.cell? ⟨b, o + 3, none⟩ = some a.bv ∧ w.cell? ⟨b, o + 4, none⟩ = some a.kv ∧ Bs w a.bv a.bs ∧ Bl w a.kv a.ks

/-- A slice of acts that reads as l. -/
def As (w : World) (v : Value) (l : List ActD) : Prop :=
  ∃ ao cap, v = .slice ao l.length cap ∧ l.length ≤ cap ∧ cap ≤ maxLen ∧ ∀ k (hk : k < l.length), ∃ b off, ao = some ⟨b, off, none⟩ ∧ ActAt w b (off + k * 5) l[k]

theorem Bl.below {w w' : World} {v : Value} {l : List Bool} (h : Bl w v l) (hb : Below w.heap.size w w') : Bl w' v l := h.moved (Moved.of_below hb (fun _ => False)) (fun _ _ _ h => h)
theorem ActAt.below {w w' : World} {b o : Nat} {a : ActD} (h : ActAt w b o a) (hb : Below w.heap.size w w') : ActAt w' b o a := by
  obtain ⟨h0, h1, h2, h3, h4, h5, h6⟩ := h
  have hlt : b < w.heap.size := World.block_lt_of_cell? w _ h0
  have hc : ∀ j, w'.cell? ⟨b, j, none⟩ = w.cell? ⟨b, j, none⟩ := fun j => hb.cell (p := ⟨b, j, none⟩) hlt
  exact ⟨(hc _).trans h0, (hc _).trans h1, (hc _).trans h2, (hc _).trans h3, (hc _).trans h4, h5.below hb, h6.below hb⟩
theorem As.below {w w' : World} {v : Value} {l : List ActD} (h : As w v l) (hb : Below w.heap.size w w') : As w' v l := by
  obtain ⟨ao, cap, e, h1, h2, hE⟩ := h
  refine ⟨ao, cap, e, h1, h2, fun k hk => ?_⟩
  obtain ⟨b, off, e', hA⟩ := hE k hk
  exact ⟨b, off, e', hA.below hb⟩

def Few' (l : List ActD) : Prop := (∀ k (hk : k < l.length), l[k].bs.length ≤ 600 ∧ l[k].ks.length ≤ 100) ∧ l.length ≤ 60

set_option maxHeartbeats 1000000 in
theorem few_any (ao : Option Addr) (cap : Nat) (l : List ActD) (w : World) (h : As w (.slice ao l.length cap) l) :
    Calls Try.prog 9 #[.slice ao l.length cap] w fun e w' => (e = .returned (.bool false) ∧ w' = w) ∨ (e = .returned (.bool true) ∧ w' = w ∧ Few' l) := by
  obtain ⟨ao', cap', e, hc1, hc2, hE⟩ := h
  simp only [Value.slice.injEq, true_and] at e
  obtain ⟨rfl, rfl⟩ := e
  have hc2' : cap ≤ 9223372036854775807 := hc2
  obtain ⟨n, hn⟩ : ∃ n, n = l.length := ⟨_, rfl⟩
  have HE := Lib.hid hE
  have HN := Lib.hid hn
  rw [← hn] at hc1 ⊢
  clear hE hn hc2
  go_enter Try.func9, Try.ntmps9
  go_wp2_with fail
  go_loop [3] (fun i => ∃ k : Nat, k ≤ n ∧ i = .int .i64 k ∧ ∀ j (hj : j < l.length), j < k → l[j].bs.length ≤ 600 ∧ l[j].ks.length ≤ 100) (fun i => n - (intOf i).toNat)
  case atStart => exact ⟨0, Nat.zero_le _, rfl, fun j hj h => absurd h (Nat.not_lt_zero _)⟩
  case round =>
    obtain ⟨k, hk, rfl, hB⟩ := hrel
    have HB := Lib.hid hB
    clear hB
    by_cases hlt : k < n
    · have hkl : k < l.length := by rw [← HN.out]; exact hlt
      obtain ⟨b, off, rfl, hA⟩ := HE.out k hkl
      obtain ⟨-, -, -, c3, c4, hbs, hks⟩ := hA
      obtain ⟨bo, bc, hbv, hb1, hb2, -⟩ := hbs
      obtain ⟨kvo, kvc, hkv, hk1, hk2, -⟩ := hks
      have hb2' : bc ≤ 9223372036854775807 := hb2
      have hk2' : kvc ≤ 9223372036854775807 := hk2
      obtain ⟨m1, hm1⟩ : ∃ m, m = l[k].bs.length := ⟨_, rfl⟩
      obtain ⟨m2, hm2⟩ : ∃ m, m = l[k].ks.length := ⟨_, rfl⟩
      rw [hbv, ← hm1] at c3
      rw [hkv, ← hm2] at c4
      rw [← hm1] at hb1
      rw [← hm2] at hk1
      have HM1 := Lib.hid hm1
      have HM2 := Lib.hid hm2
      clear hbv hkv hm1 hm2 hb2 hk2
      by_cases h1 : (600 : Int) < m1
      · go_wp2
        go_ret
        exact .inl ⟨rfl, rfl⟩
      by_cases h2 : (100 : Int) < m2
      · go_wp2
        go_ret
        exact .inl ⟨rfl, rfl⟩
      go_wp2
      go_round
      case rel =>
        refine ⟨k + 1, by omega, by go_num, fun j hj hjk => ?_⟩
        by_cases e : j < k
        · exact HB.out j hj e
        · obtain rfl : j = k := by omega
          rw [← HM1.out, ← HM2.out]
          omega
      case measure => simp [intOf]; omega
    · obtain rfl : k = n := by omega
      by_cases h60 : (k : Int) ≤ 60
      · go_wp2
        go_ret
        exact .inr ⟨rfl, rfl, ⟨fun j hj => HB.out j hj (by rw [HN.out]; exact hj), by rw [← HN.out]; omega⟩⟩
      · go_wp2
        go_ret
        exact .inl ⟨rfl, rfl⟩

theorem Pr.start {w0 w1 w2 : World} {r x : Nat} {s : Dsk} {Q : Nat → Prop} (h1 : St w0 w1 r s) (hb : Below w1.heap.size w1 w2) (hr : Rk w2 Q x s) (hQ : ∀ k, Q k → w1.heap.size ≤ k) : Pr w0 w2 (fun _ => False) r x s s := by
  obtain ⟨g1, P, g2, g3⟩ := h1
  exact Pr.of (g1.trans (hb.mono g1.size)) (g2.moved (Q := fun _ => False) (Moved.of_below hb _) (fun _ _ h => h)) hr (fun k hk => ⟨(g3 k hk).1, fun h => h⟩) (fun k hk => ⟨Nat.le_trans g1.size (hQ k hk), fun h => h⟩) (fun k hk hq => by
    have h3 := (g3 k hk).2
    have h4 := hQ k hq
    omega)

set_option maxRecDepth 100000 in
set_option maxHeartbeats 4000000 in
theorem plays_walk (size : Int) (ao : Option Addr) (cap : Nat) (l : List ActD) (w : World) (h : As w (.slice ao l.length cap) l) :
    Calls Try.prog 3 #[.int .i64 size, .slice ao l.length cap] w fun e w' => e = .returned (.bool true) ∧ Below w.heap.size w w' := by
  obtain ⟨m, hm, hm9⟩ : ∃ m : Nat, withinOf size 9 = m ∧ m < 9 := ⟨(withinOf size 9).toNat, by have := within_range size 9 (by decide); omega, by have := within_range size 9 (by decide); omega⟩
  have wx := within_any size 9 (by decide) (by decide)
  rw [hm] at wx
  have hsz : sizeOf' (1 + m) = m + 1 := by unfold sizeOf'; omega
  have HX := Lib.hid wx
  have HS := Lib.hid hsz
  clear wx hm hsz
  have H := Lib.hid h
  clear h
  go_enter Try.func3, Try.ntmps3
  go_wp2_with fail
  refine (known_any _).mono ?_
  rintro e w1 ⟨rfl, hb1⟩
  go_wp2_with fail
  have hE1 := H.out.below hb1
  refine (few_any ao cap l w1 hE1).mono ?_
  rintro e wz (⟨rfl, hwz⟩ | ⟨rfl, hwz, hfew⟩)
  · replace hwz := hwz.symm
    subst hwz
    clear hE1 HX HS
    go_wp2_with fail
    go_ret
    exact ⟨rfl, hb1⟩
  · replace hwz := hwz.symm
    subst hwz
    obtain ⟨hfew1, hfew2⟩ := hfew
    have HFW := Lib.hid hfew1
    clear hE1 hfew1
    go_wp2_with fail
    refine (HX.out _).mono ?_
    rintro e wz ⟨rfl, hwz⟩
    replace hwz := hwz.symm
    subst hwz
    go_wp2_with fail
    refine (st_new _ w _ hb1).mono ?_
    rintro e w2 ⟨r, rfl, h2⟩
    rw [HS.out] at h2
    go_wp2_with fail
    refine (HX.out _).mono ?_
    rintro e wz ⟨rfl, hwz⟩
    replace hwz := hwz.symm
    subst hwz
    go_wp2_with fail
    refine (rnew_any _ _).mono ?_
    rintro e w3 ⟨x, Q, rfl, hr, hb3, hQ⟩
    rw [HS.out] at hr
    have hP := Pr.start h2 hb3 hr hQ
    have hF := Fit.new (m + 1)
    generalize Dsk.new (m + 1) = s0 at hP hF
    have hm10 : m + 1 ≤ 3000 := by omega
    have hm1 : 1 ≤ m + 1 := by omega
    generalize m + 1 = mm at hF hm10 hm1
    obtain ⟨n, hn⟩ : ∃ n, n = l.length := ⟨_, rfl⟩
    have HN := Lib.hid hn
    have hcap : n ≤ cap ∧ cap ≤ 9223372036854775807 := by
      obtain ⟨a', c', e, g1, g2, -⟩ := H.out
      simp only [Value.slice.injEq, true_and] at e
      obtain ⟨rfl, rfl⟩ := e
      exact ⟨by omega, g2⟩
    obtain ⟨hcap1, hcap2⟩ := hcap
    rw [← hn] at hfew2 ⊢
    clear hn h2 hb3 hr hQ HX HS hb1
    go_wp2_with fail
    go_loopw [7] (fun i wr => ∃ (k : Nat) (s : Dsk), k ≤ n ∧ i = .int .i64 k ∧ Pr w wr (fun _ => False) r x s s ∧ Fit s mm k) (fun i _ => n - (intOf i).toNat)
    case atStart => exact ⟨0, s0, Nat.zero_le _, rfl, hP, hF⟩
    case round =>
      obtain ⟨k, s, hk, rfl, hPk, hFk⟩ := hrel
      by_cases hlt : k < n
      · have hkl : k < l.length := by rw [← HN.out]; exact hlt
        obtain ⟨ao', cap', e, -, -, hEl⟩ := H.out.below hPk.below
        simp only [Value.slice.injEq] at e
        obtain ⟨rfl, -, rfl⟩ := e
        obtain ⟨b, off, rfl, hA⟩ := hEl k hkl
        obtain ⟨ao0, cap0, e2, -, -, hE0⟩ := H.out
        obtain ⟨b0, off0, e3, hA0⟩ := hE0 k hkl
        have hf := HFW.out k hkl
        obtain ⟨c0, c1, c2, c3, c4, -, -⟩ := hA
        have hbs := Lib.hid hA0.2.2.2.2.2.1
        have hks := Lib.hid hA0.2.2.2.2.2.2
        obtain ⟨a, ha⟩ : ∃ a, a = l[k] := ⟨_, rfl⟩
        rw [← ha] at c0 c1 c2 c3 c4 hbs hks hf
        have HP := Lib.hid hPk
        have HFK := Lib.hid hFk
        clear ha hA0 hE0 e2 e3 hEl hP hF hPk hFk
        go_wp2_with fail
        refine (do_any a.kd a.av a.nn a.bv a.kv a.bs a.ks mm k s w _ r x HP.out HFK.out (by omega) hm1 hm10 hbs.out hks.out hf.1 hf.2).mono ?_
        rintro e w5 ⟨rfl, s5, P5, F5⟩
        go_wp2_with fail
        refine (same_any mm (k + 1) s5 w _ r x P5 F5 (by omega) hm10).mono ?_
        rintro e w6 ⟨rfl, P6⟩
        have HP6 := Lib.hid P6
        have HF6 := Lib.hid F5
        clear P5 P6 F5 c0 c1 c2 c3 c4 hf HP HFK
        go_wp2_with fail
        go_roundw
        case rel => exact ⟨k + 1, s5, by omega, by go_num, HP6.out, HF6.out⟩
        case measure => simp [intOf]; omega
      · obtain rfl : k = n := by omega
        have hB := hPk.below
        clear hP hF
        go_wp2_with fail
        refine (dnew_any size _).mono ?_
        rintro e w7 ⟨r7, P7, rfl, h7, hb7, -⟩
        have hB7 := hB.trans (hb7.mono hB.size)
        obtain ⟨zz, hzz⟩ : ∃ zz, zz = sizeOf' size := ⟨_, rfl⟩
        have hl7 : ((Dsk.new (sizeOf' size)).now.length : Int) = zz := by rw [hzz]; simp [Dsk.new]
        have hl8 : ((Dsk.new (sizeOf' size)).kept.length : Int) = zz := by rw [hzz]; simp [Dsk.new]
        have HL7 := Lib.hid hl7
        have HL8 := Lib.hid hl8
        have HZ : ((zz : Int) == zz) = true := by simp
        clear hl7 hl8 hzz
        go_wp2_with fail
        refine (size_any P7 r7 _ _ h7).mono ?_
        rw [HL7.out]
        rintro e wz ⟨rfl, hwz⟩
        replace hwz := hwz.symm
        subst hwz
        go_wp2_with fail
        refine (rnew_any size _).mono ?_
        rintro e w8 ⟨x8, Q8, rfl, h8, hb8, -⟩
        have hB8 := hB7.trans (hb8.mono hB7.size)
        go_wp2_with fail
        refine (rsize_any Q8 x8 _ _ h8).mono ?_
        rw [HL8.out]
        rintro e wz ⟨rfl, hwz⟩
        replace hwz := hwz.symm
        subst hwz
        go_wp2_with fail
        go_ret
        exact ⟨rfl, hB8⟩
end Go.Proofs.Ytejjeaknpbdeaaa
