/- Signs: triadref11's classes and rows. -/
import Derived.Test.YtmeoleacfkbilaaDoorLo
namespace Go.Proofs.YtmeoleacfkbilaaDoor
open Go.RowKit Go.Shelf
set_option maxRecDepth 100000
set_option linter.unusedVariables false
set_option linter.unusedSimpArgs false
theorem ret_b {a b : Bool} (h : a = b) : Ending.returned (.bool a) = Ending.returned (.bool b) := by rw [h]
set_option maxHeartbeats 4000000 in
theorem rsign (c : UInt8) (w : World) : Calls Tryd.prog 57 #[.int .u8 c.toNat] w fun e w' => e = .returned (.bool (refC c)) ∧ w' = w := by
  obtain ⟨n, hn⟩ : ∃ n, n = c.toNat := ⟨_, rfl⟩
  unfold refC refN
  rw [← hn]
  clear hn
  go_enter Tryd.func57, Tryd.ntmps57
  go_wp2
  all_goals
    go_ret
    refine ⟨ret_b ?_, rfl⟩
    rw [Bool.eq_iff_iff]
    simp
    try omega
set_option maxHeartbeats 4000000 in
theorem rword (c : UInt8) (w : World) : Calls Tryd.prog 58 #[.int .u8 c.toNat] w fun e w' => e = .returned (.bool (nameC c)) ∧ w' = w := by
  obtain ⟨n, hn⟩ : ∃ n, n = c.toNat := ⟨_, rfl⟩
  unfold nameC nameN letterN smallN digitN
  rw [← hn]
  clear hn
  go_enter Tryd.func58, Tryd.ntmps58
  go_wp2
  all_goals
    go_ret
    refine ⟨ret_b ?_, rfl⟩
    rw [Bool.eq_iff_iff]
    simp
    try omega
theorem rdigit (c : UInt8) (w : World) : Calls Tryd.prog 38 #[.int .u8 c.toNat] w fun e w' => e = .returned (.bool (digitC c)) ∧ w' = w := by
  obtain ⟨n, hn⟩ : ∃ n, n = c.toNat := ⟨_, rfl⟩
  unfold digitC digitN
  rw [← hn]
  clear hn
  go_enter Tryd.func38, Tryd.ntmps38
  go_wp2
  all_goals
    go_ret
    refine ⟨ret_b ?_, rfl⟩
    rw [Bool.eq_iff_iff]
    simp
    try omega
theorem rletter (c : UInt8) (w : World) : Calls Tryd.prog 35 #[.int .u8 c.toNat] w fun e w' => e = .returned (.bool (letterC c)) ∧ w' = w := by
  obtain ⟨n, hn⟩ : ∃ n, n = c.toNat := ⟨_, rfl⟩
  unfold letterC letterN smallN
  rw [← hn]
  clear hn
  go_enter Tryd.func35, Tryd.ntmps35
  go_wp2
  all_goals
    go_ret
    refine ⟨ret_b ?_, rfl⟩
    rw [Bool.eq_iff_iff]
    simp
    try omega
/-- How far a row goes on from a place. -/
def Wl (p : UInt8 → Bool) (l : List UInt8) (i : Nat) : Nat := i + ((l.drop i).takeWhile p).length
theorem wl_step {p : UInt8 → Bool} {l : List UInt8} {i : Nat} (h : i < l.length) (hp : p l[i] = true) : Wl p l i = Wl p l (i + 1) := by
  unfold Wl
  rw [List.drop_eq_getElem_cons h, List.takeWhile_cons, hp]
  simp; omega
theorem wl_stop {p : UInt8 → Bool} {l : List UInt8} {i : Nat} (h : i < l.length) (hp : p l[i] = false) : Wl p l i = i := by
  unfold Wl
  rw [List.drop_eq_getElem_cons h, List.takeWhile_cons, hp]
  simp
theorem wl_end {p : UInt8 → Bool} {l : List UInt8} {i : Nat} (h : l.length ≤ i) : Wl p l i = i := by
  unfold Wl; rw [List.drop_eq_nil_of_le h]; simp
theorem wl_le {p : UInt8 → Bool} {l : List UInt8} {i : Nat} (h : i ≤ l.length) : Wl p l i ≤ l.length ∧ i ≤ Wl p l i := by
  unfold Wl
  have := takeWhile_len p (l.drop i)
  rw [List.length_drop] at this
  omega
theorem wl_take {p : UInt8 → Bool} {l : List UInt8} {i : Nat} : (l.drop i).take (Wl p l i - i) = (l.drop i).takeWhile p ∧ l.drop (Wl p l i) = (l.drop i).dropWhile p := by
  unfold Wl
  rw [Nat.add_sub_cancel_left, ← List.drop_drop]
  have h : (l.drop i).takeWhile p ++ (l.drop i).dropWhile p = l.drop i := List.takeWhile_append_dropWhile
  constructor
  · conv => lhs; arg 2; rw [← h]
    exact List.take_left
  · conv => lhs; arg 2; rw [← h]
    exact List.drop_left
def clsD (da dt : Bool) (c : UInt8) : Bool := nameC c || (da && decide (c = 45)) || (dt && decide (c = 46))
theorem cls_name : clsD false false = nameC := by funext c; simp [clsD]
theorem u8_eq_dec (c y : UInt8) : decide (c.toNat = y.toNat) = decide (c = y) := by
  by_cases h : c = y
  · subst h; simp
  · rw [decide_eq_false h, decide_eq_false (fun e => h (UInt8.toNat_inj.1 e))]
theorem cls_dash : clsD true false = dashC := by
  funext c
  have h := u8_eq_dec c 45
  simp [clsD, dashC, dashN, nameC]
  rw [← h]
  rfl
theorem cls_dot : clsD true true = dotC := by
  funext c
  have h := u8_eq_dec c 45
  have h2 := u8_eq_dec c 46
  simp [clsD, dotC, dotN, dashN, nameC]
  rw [← h, ← h2]
  rfl
set_option maxHeartbeats 8000000 in
theorem rwords (s : ByteArray) (hs : s.size ≤ 1000000) (i : Nat) (hi : i ≤ 1000000) (da dt : Bool) (w : World) :
    Calls Tryd.prog 34 #[.string s, .int .i64 i, .bool da, .bool dt] w fun e w' => e = .returned (.int .i64 (Wl (clsD da dt) s.data.toList i : Nat)) ∧ w' = w := by
  obtain ⟨l, hl⟩ : ∃ l, l = s.data.toList := ⟨_, rfl⟩
  have hsz : s.size = l.length := by rw [hl, Lib.size_eq]
  have hget : ∀ (i : Nat) (h : i < s.size) (h' : i < l.length), s[i]'h = l[i] := fun i h h' => by subst hl; rfl
  rw [← hl]
  have HSZ := Lib.hid hsz
  have HGET := Lib.hid hget
  obtain ⟨R, hR⟩ : ∃ R, R = Wl (clsD da dt) l i := ⟨_, rfl⟩
  rw [← hR]
  have HR := Lib.hid hR
  have HI := Lib.hid (And.intro hi hs)
  have hsi : (s.size : Int) ≤ 1000000 := by omega
  clear hl hsz hget hR hi
  go_enter Tryd.func34, Tryd.ntmps34
  go_wp2_with fail
  go_loopg [1] (s.size - i + 1) (fun g v wr => ∃ k : Nat, (k ≤ s.size ∨ k = i) ∧ v = .int .i64 k ∧ R = Wl (clsD da dt) l k ∧ s.size - k < g ∧ wr = w)
  case atStart => exact ⟨i, .inr rfl, rfl, HR.out, by omega, rfl⟩
  case round =>
    obtain ⟨k, hk, rfl, hRk, hg, rfl⟩ := hrel
    have hk9 : (k : Int) ≤ 1000000 := by have := HI.out; rcases hk with h | h <;> omega
    have HRK := Lib.hid hRk
    clear hRk
    by_cases hlt : (k : Int) < s.size
    · have hkn : k < s.size := by omega
      have hkl : k < l.length := by have := HSZ.out; omega
      obtain ⟨c, hc⟩ : ∃ c, c = l[k] := ⟨_, rfl⟩
      have hgk : s[k]'hkn = c := by rw [hc]; exact HGET.out k hkn hkl
      have HC := Lib.hid hc
      have HW := Lib.hid (fun w => rword c w)
      obtain ⟨b, hb⟩ : ∃ b, b = nameC c := ⟨_, rfl⟩
      rw [← hb] at HW
      have HB := Lib.hid hb
      clear hc hb hk
      go_wp2_with fail
      refine (HW.out _).mono ?_
      rintro e w2 ⟨rfl, hw⟩
      obtain rfl := hw.symm
      clear hw
      have hcl : clsD da dt c = (b || (da && decide (c = 45)) || (dt && decide (c = 46))) := by rw [HB.out]; rfl
      have hb45 : (((c.toNat : Nat) : Int) == 45) = decide (c = 45) := by rw [← u8_eq_dec c 45, Bool.eq_iff_iff]; simp; omega
      have hb46 : (((c.toNat : Nat) : Int) == 46) = decide (c = 46) := by rw [← u8_eq_dec c 46, Bool.eq_iff_iff]; simp; omega
      generalize decide (c = 45) = d45 at hcl hb45
      generalize decide (c = 46) = d46 at hcl hb46
      have HNT := Lib.hid (fun h : clsD da dt c = true => show R = Wl (clsD da dt) l (k + 1) from by rw [HRK.out]; exact wl_step hkl (by rw [← HC.out]; exact h))
      have HNF := Lib.hid (fun h : clsD da dt c = false => show R = k from by rw [HRK.out]; exact wl_stop hkl (by rw [← HC.out]; exact h))
      rw [hcl] at HNT HNF
      clear hcl
      cases b <;> cases da <;> cases dt <;> cases d45 <;> cases d46
      all_goals
        go_wp2_with fail
        first
          | (go_ret
             exact ⟨by rw [HNF.out rfl]; rfl, rfl⟩)
          | (have hkn := HNT.out rfl
             have HKN := Lib.hid hkn
             clear hkn
             go_roundg (s.size - (k + 1) + 1)
             case measure => omega
             case rel => exact ⟨k + 1, .inl (by omega), by go_num, HKN.out, by omega, rfl⟩)
    · have hle : l.length ≤ k := by have := HSZ.out; omega
      have HN := Lib.hid (show R = k from by rw [HRK.out]; exact wl_end hle)
      clear hk
      go_wp2_with fail
      go_ret
      exact ⟨by rw [HN.out]; rfl, rfl⟩
end Go.Proofs.YtmeoleacfkbilaaDoor
