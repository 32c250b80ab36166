/- Rm -/
import Derived.Test.YtpfjbcfnpfgidaaGreatKRl
namespace Go.Proofs.YtpfjbcfnpfgidaaGreat
open Go.RowKit Go.Maps
set_option maxRecDepth 100000
set_option linter.unusedVariables false
/-- What the loop over the acts keeps. -/
def Rel5 (W : World) (n r p B x : Nat) (root i : Value) (wr : World) : Prop :=
 ∃ (k : Nat) (X : Nat → Prop) (m : Nat) (t : BT Ent m) (H : Lg) (c : Nat) (kv vv : Value), k ≤ n ∧ i = .int .i64 k ∧ root = .int .i64 (t.page : Int) ∧ c ≤ 2 + 110 * k ∧ t.flat.length ≤ k ∧ Bo W wr X r p 1199 0 c (Lg.new 1199) H t 1198 B x kv vv
set_option maxHeartbeats 4000000 in
theorem plays5_walk (v : Value) (l : Acts5) (W : World) (h : Acs5 W v l) :
 Calls Tryz.prog 3 #[v] W fun e w' => e = .returned (.bool true) ∧ Below W.heap.size W w' := by
 obtain ⟨ao, cap, hv, hc1, hc2, hE⟩ := id h
 have hc2' : cap ≤ 9223372036854775807 := hc2
 obtain ⟨n, hn⟩ : ∃ n, n = l.length := ⟨_, rfl⟩
 rw [← hn] at hc1 hv
 subst hv
 have HN := Lib.hid hn
 have HA := Lib.hid h
 clear hn hE hc2 h
 go_enter Tryz.func3, Tryz.ntmps3
 go_wp2_with fail
 refine (known5_any W).mono ?_
 rintro e w1 ⟨rfl, h1⟩
 have H1 := Lib.hid h1
 clear h1
 go_wp2_with fail
 refine (few5_any (HA.out.below H1.out)).mono ?_
 rintro e w2 ⟨t, rfl, hw, hf⟩
 obtain rfl := hw.symm
 have HF := Lib.hid hf
 clear hf
 cases t with
 | false =>
  go_wp2_with fail
  go_ret
  exact ⟨rfl, H1.out⟩
 | true =>
  have HFEW := Lib.hid (HF.out rfl)
  go_wp2_with fail
  refine (open5_any W _ H1.out).mono ?_
  rintro e w3 ⟨r, p, rfl, h3⟩
  have H3 := Lib.hid h3
  clear h3
  go_wp2_with fail
  refine (bt_new H3.out (by omega) new5_free).mono ?_
  rintro e w4 ⟨rfl, h4, -⟩
  have H4 := Lib.hid (Bo.start h4)
  clear h4
  go_wp2_with fail
  go_loopw [4, 7] (fun root i wr => Rel5 W n r p (w4.alloc (.cells #[.slice none 0 0, .slice none 0 0] 33)).heap.size w4.heap.size root i wr) (fun _ i _ => n - (intOf i).toNat)
  case atStart => exact ⟨0, _, 0, BT.leaf 1 [], _, 2, _, _, Nat.zero_le _, rfl, rfl, by omega, Nat.le_refl _, H4.out⟩
  case round =>
   obtain ⟨k, X, m, t, H, c, kv, vv, hk, rfl, rfl, hc, hfl, hbo⟩ := hrel
   obtain ⟨hn100, hsz⟩ := HFEW.out
   have hnn := HN.out
   have HBO := Lib.hid hbo
   obtain ⟨pg, hpg⟩ : ∃ pg : Int, pg = (t.page : Int) := ⟨_, rfl⟩
   rw [← hpg]
   have HPG := Lib.hid hpg
   by_cases hlt : k < n
   ·have hkl : k < l.length := by rw [← hnn]; exact hlt
    have hacs := HA.out.below hbo.pb.below
    obtain ⟨ao', cap', e', -, -, hE'⟩ := hacs
    rw [← hnn] at e'
    simp only [Value.slice.injEq, true_and] at e'
    obtain ⟨rfl, rfl⟩ := e'
    obtain ⟨b, off, rfl, -, ⟨c0, c1, c2, c3⟩⟩ := hE' k hkl
    have hsk := hsz k hkl
    obtain ⟨q, hq⟩ : ∃ q, q = l[k] := ⟨_, rfl⟩
    rw [← hq] at c0 c1 c2 c3 hsk
    obtain ⟨kd, nm, ky, vl⟩ := q
    dsimp only at c0 c1 c2 c3 hsk
    have hroom := hbo.room
    have hdo := do5_any hbo kd nm ky vl (by omega) (by omega) (by omega) (by omega) (by omega)
    rw [← hpg] at hdo
    have HDO := Lib.hid hdo
    have hlt' : (k : Int) < n := by omega
    have HBD := Lib.hid (show c ≤ 2 + 110 * k ∧ t.flat.length ≤ k ∧ n ≤ 100 ∧ k < n from ⟨hc, hfl, by omega, hlt⟩)
    clear hdo hsk hq hE' hbo hpg hnn hn100 hsz hc hfl hroom hkl
    go_wp2_with fail
    refine HDO.out.mono ?_
    rintro e w5 ⟨X', m', t', H', c', kv', vv', rfl, hc', hfl', hbo'⟩
    obtain ⟨pg', hpg'⟩ : ∃ pg' : Int, pg' = (t'.page : Int) := ⟨_, rfl⟩
    rw [← hpg']
    have HBO' := Lib.hid hbo'
    have hsm := same5_any hbo' (by have := HBD.out; omega)
    rw [← hpg'] at hsm
    have HSM := Lib.hid hsm
    have HC' := Lib.hid (And.intro hc' (And.intro hfl' hpg'))
    clear hbo' hsm hc' hfl' hpg' HDO c0 c1 c2 c3
    have hk0 : (0 : Int) ≤ k := by omega
    by_cases h5 : (k : Int) % 5 = 4
    ·go_wp2_with fail
     refine HSM.out.mono ?_
     rintro e w6 ⟨rfl, hb6⟩
     have HB6 := Lib.hid hb6
     clear hb6 HSM
     go_wp2_with fail
     go_roundw
     case rel =>
      have hb := HBD.out
      have hc := HC'.out
      refine ⟨k + 1, X', m', t', H', c', kv', vv', by omega, by go_num, by rw [hc.2.2], by omega, by omega, HBO'.out.read HB6.out⟩
     case measure => simp [intOf]; omega
    ·have h5' : ((k : Int) % 5 == 4) = false := by simpa using h5
     go_wp2_with fail
     go_roundw
     case rel =>
      have hb := HBD.out
      have hc := HC'.out
      refine ⟨k + 1, X', m', t', H', c', kv', vv', by omega, by go_num, by rw [hc.2.2], by omega, by omega, HBO'.out⟩
     case measure => simp [intOf]; omega
   ·obtain rfl : k = n := by omega
    have hsm := same5_any hbo (by omega)
    rw [← hpg] at hsm
    have HSM := Lib.hid hsm
    clear hbo hsm hpg hnn hn100 hsz hc hfl
    go_wp2_with fail
    refine HSM.out.mono ?_
    rintro e w6 ⟨rfl, hb6⟩
    have HB6 := Lib.hid hb6
    clear hb6 HSM
    go_wp2_with fail
    go_ret
    exact ⟨rfl, (HBO.out.read HB6.out).pb.below⟩
end Go.Proofs.YtpfjbcfnpfgidaaGreat
