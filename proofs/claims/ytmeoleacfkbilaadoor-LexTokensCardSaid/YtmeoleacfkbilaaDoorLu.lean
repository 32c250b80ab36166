/- Signs: triadref11's signs. -/
import Derived.Test.YtmeoleacfkbilaaDoorLt
namespace Go.Proofs.YtmeoleacfkbilaaDoor
open Go.RowKit Go.Shelf
set_option maxRecDepth 100000
set_option linter.unusedVariables false
set_option linter.unusedSimpArgs false
def signZ (l : List UInt8) : Nat := match signs11.find? (fun y => Lib.hasPrefix l y) with
  | some y => y.length
  | none => 0
theorem sign_ne : ∀ y ∈ signs11, y.length ≠ 0 := by decide
theorem sign_of (l : List UInt8) : signL l = if signZ l = 0 then none else some ((9, l.take (signZ l)), l.drop (signZ l)) := by
  unfold signL signZ
  cases h : signs11.find? (fun y => Lib.hasPrefix l y) with
  | none => simp
  | some y =>
    have h1 := sign_ne y (List.mem_of_find?_eq_some h)
    have h2 : Lib.hasPrefix l y = true := List.find?_some h
    rw [if_neg h1, (pre_take h2).1]
    rfl
theorem signZ_le (l : List UInt8) : signZ l ≤ l.length := by
  unfold signZ
  cases h : signs11.find? (fun y => Lib.hasPrefix l y) with
  | none => simp
  | some y => exact (pre_take (List.find?_some h : Lib.hasPrefix l y = true)).2
/-- None of the first k signs is at its front. -/
def FS (l : List UInt8) (k : Nat) : Prop := signs11.find? (fun y => Lib.hasPrefix l y) = (signs11.drop k).find? (fun y => Lib.hasPrefix l y)
theorem FS.hit {l : List UInt8} {k : Nat} (h : FS l k) {y : List UInt8} (hy : signs11[k]? = some y) (hp : Lib.hasPrefix l y = true) : signZ l = y.length := by
  obtain ⟨hk, rfl⟩ := List.getElem?_eq_some_iff.1 hy
  unfold signZ
  rw [h, List.drop_eq_getElem_cons hk, List.find?_cons, hp]
theorem FS.next {l : List UInt8} {k : Nat} (h : FS l k) {y : List UInt8} (hy : signs11[k]? = some y) (hp : Lib.hasPrefix l y = false) : FS l (k + 1) := by
  obtain ⟨hk, rfl⟩ := List.getElem?_eq_some_iff.1 hy
  unfold FS at h ⊢
  rw [h, List.drop_eq_getElem_cons hk, List.find?_cons, hp]
theorem FS.none {l : List UInt8} (h : FS l 26) : signZ l = 0 := by
  unfold signZ; rw [h]; rfl
theorem FS.short (c : UInt8) : FS [c] 6 := by
  have h : ∀ a b : UInt8, Lib.hasPrefix [c] [a, b] = false := fun a b => by rw [pre_two]; simp [headIs]
  unfold FS signs11
  simp only [List.find?_cons, h, List.drop_succ_cons, List.drop_zero]
def twoA : Array Value := #[.string ⟨#[38, 38]⟩, .string ⟨#[124, 124]⟩, .string ⟨#[33, 61]⟩, .string ⟨#[60, 61]⟩, .string ⟨#[62, 61]⟩, .string ⟨#[94, 94]⟩]
theorem two_at (k : Nat) (hk : k < 6) : ∃ a b : UInt8, signs11[k]? = some [a, b] ∧ twoA[k]? = some (.string ⟨#[a, b]⟩) := by
  rcases k with _ | _ | _ | _ | _ | _ | k
  · exact ⟨_, _, rfl, rfl⟩
  · exact ⟨_, _, rfl, rfl⟩
  · exact ⟨_, _, rfl, rfl⟩
  · exact ⟨_, _, rfl, rfl⟩
  · exact ⟨_, _, rfl, rfl⟩
  · exact ⟨_, _, rfl, rfl⟩
  · omega
theorem one_at (k : Nat) (hk : k < 20) : ∃ (a : UInt8) (h : k < (⟨#[123, 125, 40, 41, 91, 93, 46, 59, 44, 61, 60, 62, 33, 43, 45, 42, 47, 124, 94, 63]⟩ : ByteArray).size), signs11[6 + k]? = some [a] ∧ (⟨#[123, 125, 40, 41, 91, 93, 46, 59, 44, 61, 60, 62, 33, 43, 45, 42, 47, 124, 94, 63]⟩ : ByteArray)[k]'h = a := by
  rcases k with _ | _ | _ | _ | _ | _ | _ | _ | _ | _ | _ | _ | _ | _ | _ | _ | _ | _ | _ | _ | k
  all_goals first | exact ⟨_, hk, rfl, rfl⟩ | omega
theorem take_two {c : UInt8} {r : List UInt8} (h : r ≠ []) (a b : UInt8) : ((c :: r).take 2 == [a, b]) = Lib.hasPrefix (c :: r) [a, b] := by
  cases r with
  | nil => exact absurd rfl h
  | cons d t =>
    unfold Lib.hasPrefix
    simp [List.isPrefixOf]
    rw [Bool.eq_iff_iff]
    simp
    constructor
    · rintro ⟨rfl, rfl⟩; exact ⟨rfl, rfl⟩
    · rintro ⟨rfl, rfl⟩; exact ⟨rfl, rfl⟩
theorem blk_drewN {w : World} {b : Nat} {cs : Array Value} {t : TypeId} (h : Blk w b cs t) (n : Nat) : Blk (w.drewN n) b cs t := ((draws_t w n).block _ h.lt).trans h
set_option maxHeartbeats 8000000 in
theorem rsign11 (s : ByteArray) (hs : s.size ≤ 1000000) (c : UInt8) (r : List UInt8) (hl : s.data.toList = c :: r) (w : World) :
    Calls Tryd.prog 41 #[.string s] w fun e w' => e = .returned (.int .i64 (signZ (c :: r) : Nat)) ∧ Below w.heap.size w w' := by
  obtain ⟨Z, hZ⟩ : ∃ z, z = signZ (c :: r) := ⟨_, rfl⟩
  rw [← hZ]
  have h0 := size_pos hl
  have hg0 := get_zero hl h0
  have hsz : s.size = r.length + 1 := by rw [Lib.size_eq, hl]; rfl
  obtain ⟨q, hq⟩ : ∃ q, s.extract 0 2 = q := ⟨_, rfl⟩
  have hql : q.data.toList = (c :: r).take 2 := by rw [← hq, ext_to, hl, List.drop_zero]
  have HQL := Lib.hid hql
  have HSZ := Lib.hid hsz
  have h0i : (0 : Int) < s.size := by omega
  have hsi : (s.size : Int) ≤ 1000000 := by omega
  have hB : Blk (w.alloc (.cells twoA 9)) w.heap.size twoA 9 := Blk.new w twoA _
  have hbel : Below w.heap.size w (w.alloc (.cells twoA 9)) := (Below.refl _ _).alloc (Nat.le_refl _) _
  have HZ := Lib.hid hZ
  clear hl hsz hql hZ
  go_enter Tryd.func41, Tryd.ntmps41
  go_upto_block 0 with fail
  generalize hG : w.heap.size = G at hB hbel ⊢
  generalize hWW : World.alloc w _ = w1
  have hWW2 : w.alloc (.cells twoA 9) = w1 := hWW
  rw [hWW2] at hB hbel
  have HB := Lib.hid (And.intro hB hbel)
  clear hB hbel hWW hWW2
  go_cut [4] from 8 to 25 (fun _ wx => Blk wx G twoA 9 ∧ Below G w wx ∧ FS (c :: r) 6)
  case first =>
    go_wp2_with fail
    go_loopg [4] 7 (fun g v wx => ∃ k : Nat, k ≤ 6 ∧ v = .int .i64 k ∧ FS (c :: r) k ∧ 6 - k < g ∧ Blk wx G twoA 9 ∧ Below G w wx)
    case atStart => exact ⟨0, by omega, rfl, rfl, by omega, HB.out.1, HB.out.2⟩
    case round =>
      obtain ⟨k, hk, rfl, hfs, hg, hbk, hbe⟩ := hrel
      have HF := Lib.hid hfs
      have HBE := Lib.hid (And.intro hbk hbe)
      clear hfs
      by_cases hlt : (k : Int) < 6
      rotate_left
      · have hk6 : k = 6 := by omega
        subst hk6
        clear hbk hbe
        go_wp2_with fail
        go_meet
        exact ⟨HBE.out.1, HBE.out.2, HF.out⟩
      · by_cases hr1 : (1 : Int) < s.size
        rotate_left
        · have hrn : r = [] := List.eq_nil_of_length_eq_zero (by have := HSZ.out; omega)
          subst hrn
          clear hbk hbe
          go_wp2_with fail
          go_meet
          exact ⟨HBE.out.1, HBE.out.2, FS.short c⟩
        · obtain ⟨a, b, hs1, hs2⟩ := two_at k (by omega)
          have hca := hbk.cell k
          rw [hs2] at hca
          have hrne : r ≠ [] := fun e => by have := HSZ.out; rw [e] at this; simp at this; omega
          have heq : (q.toList == [a, b]) = Lib.hasPrefix (c :: r) [a, b] := by
            rw [Lib.toList_data, HQL.out]
            exact take_two hrne a b
          have h2s : (2 : Int) ≤ s.size := by omega
          have h2n : 2 ≤ s.size := by omega
          have HS1 := Lib.hid hs1
          clear hbk hbe hs1 hs2 hrne
          cases hp : Lib.hasPrefix (c :: r) [a, b] with
          | true =>
            rw [hp] at heq
            have HN := Lib.hid (show Z = 2 from by rw [HZ.out]; exact HF.out.hit HS1.out hp)
            clear hp
            go_wp2_with fail
            go_quiet (fail)
            go_wp2_with fail
            go_ret
            refine ⟨by rw [HN.out]; rfl, ?_⟩
            rw [hG]
            exact HBE.out.2.trans ((draws_t wr nq).mono (by have := HBE.out.2.size; omega))
          | false =>
            rw [hp] at heq
            have HN := Lib.hid (HF.out.next HS1.out hp)
            clear hp
            go_wp2_with fail
            go_quiet (fail)
            have HB2 := Lib.hid (And.intro (blk_drewN HBE.out.1 nq) (HBE.out.2.trans ((draws_t wr nq).mono (by have := HBE.out.2.size; omega))))
            go_wp2_with fail
            go_roundg (6 - (k + 1) + 1)
            case measure => omega
            case rel => exact ⟨k + 1, by omega, by go_num, HN.out, by omega, HB2.out.1, HB2.out.2⟩
  case rest =>
    obtain ⟨-, hbc, hfc⟩ := hcut
    go_wp2_with fail
    go_loopg [6] 21 (fun g v wx => ∃ k : Nat, k ≤ 20 ∧ v = .int .i64 k ∧ FS (c :: r) (6 + k) ∧ 20 - k < g ∧ Below G w wx)
    case atStart => exact ⟨0, by omega, rfl, hfc, by omega, hbc⟩
    case round =>
      obtain ⟨k, hk, rfl, hfs, hg, hbe⟩ := hrel
      have HF := Lib.hid hfs
      have HBE := Lib.hid hbe
      clear hfs hbe hfc hbc
      by_cases hlt : (k : Int) < 20
      rotate_left
      · have hk6 : k = 20 := by omega
        have HN := Lib.hid (show Z = 0 from by rw [HZ.out]; exact FS.none (by have := HF.out; rw [hk6] at this; exact this))
        clear hk6
        go_wp2_with fail
        go_ret
        exact ⟨by rw [HN.out]; rfl, by first | exact HBE.out | (rw [hG]; exact HBE.out)⟩
      · obtain ⟨a, hks, hs1, hga⟩ := one_at k (by omega)
        have HS1 := Lib.hid hs1
        clear hs1
        by_cases hca : c = a
        · have hbb : (((c.toNat : Nat) : Int) == ((a.toNat : Nat) : Int)) = true := by rw [hca]; exact beq_self_eq_true _
          have HN := Lib.hid (show Z = 1 from by rw [HZ.out]; exact HF.out.hit HS1.out (by rw [pre_one, hca]; exact beq_self_eq_true _))
          clear hca
          go_wp2_with fail
          go_quiet (fail)
          go_wp2_with fail
          go_ret
          exact ⟨by rw [HN.out]; rfl, by rw [hG]; exact HBE.out.trans ((draws_t wr nq).mono (by have := HBE.out.size; omega))⟩
        · have hbb : (((c.toNat : Nat) : Int) == ((a.toNat : Nat) : Int)) = false := beq_eq_false_iff_ne.2 (fun e => hca (UInt8.toNat_inj.1 (by omega)))
          have HN := Lib.hid (HF.out.next HS1.out (by rw [pre_one]; exact beq_eq_false_iff_ne.2 (Ne.symm hca)))
          clear hca
          go_wp2_with fail
          go_quiet (fail)
          have HB2 := Lib.hid (HBE.out.trans ((draws_t wr nq).mono (by have := HBE.out.size; omega)))
          go_wp2_with fail
          go_roundg (20 - (k + 1) + 1)
          case measure => omega
          case rel => exact ⟨k + 1, by omega, by go_num, HN.out, by omega, HB2.out⟩
end Go.Proofs.YtmeoleacfkbilaaDoor
