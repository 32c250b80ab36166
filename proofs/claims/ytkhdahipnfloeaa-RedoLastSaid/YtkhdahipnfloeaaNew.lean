/- Package disk: New. -/
import Derived.Test.YtkhdahipnfloeaaStep
import Derived.RegionTactic
import Derived.BigRegion
import Derived.ChangeAlike
namespace Go.Proofs.Ytkhdahipnfloeaa
open Go.RowKit
set_option maxRecDepth 100000

theorem Try.infoStr : (Try.prog.info? 9).map (fun i => (i.zero, i.size, i.bytes)) = some (some (.string ByteArray.empty), 1, 16) := by kernel_rfl

def Dsk.new (n : Nat) : Dsk := ⟨List.replicate n ByteArray.empty, List.replicate n ByteArray.empty, [], 0, 0, false⟩
def sizeOf' (x : Int) : Nat := (min (max x 1) 3000).toNat

theorem made_strs (n : Nat) : madeCells #[.string ByteArray.empty] (n * 1) = (strs (List.replicate n ByteArray.empty)).toArray := by
  apply Array.ext'
  rw [Nat.mul_one, toList_madeCells_one]
  simp [strs]

theorem run_make_strs (n : Nat) (m : Int) (hm : m = n) (hn : n ≤ 3000) (w : World) :
    (Instr.makeSlice 53 (.int .i64 m) (.int .i64 m)).run Try.prog w = .ok (.slice (some ⟨w.heap.size, 0, none⟩) n n) (w.alloc (.cells (strs (List.replicate n ByteArray.empty)).toArray 9)) := by
  subst hm
  obtain ⟨i0, hi, hz0, hz1, hz2⟩ := info_parts Try.infoStr
  have h := run_make (P := Try.prog) w 53 9 i0 (.string ByteArray.empty) Try.underlying53 hi hz0 .i64 .i64 n n (by omega) (Int.le_refl _) (by rw [hz2]; omega) (by omega)
  simp only [Int.toNat_natCast, hz1] at h
  rw [h, ← made_strs]
  rfl

/-- A new disk, its two rows in either order. -/
theorem new_at (w : World) (n b1 b2 : Nat) (hn : n ≤ 3000) (hb : (b1 = w.heap.size ∧ b2 = w.heap.size + 1) ∨ (b1 = w.heap.size + 1 ∧ b2 = w.heap.size)) (sd : Value) (hsd : sd = .slice none 0 0) (z1 z2 : Int) (h1 : z1 = 0) (h2 : z2 = 0) (cs : Array Value) (hcs : cs = (strs (List.replicate n ByteArray.empty)).toArray) :
    Dk (((w.alloc (.cells cs 9)).alloc (.cells cs 9)).alloc (.cells #[.slice (some ⟨b1, 0, none⟩) n n, .slice (some ⟨b2, 0, none⟩) n n, sd, .int .i64 z1, .int .i64 z2, .bool false] 67))
      (fun k => w.heap.size ≤ k) (w.heap.size + 2) (Dsk.new n) := by
  subst hcs h1 h2 hsd
  obtain ⟨cs, hcs⟩ : ∃ cs, cs = (strs (List.replicate n ByteArray.empty)).toArray := ⟨_, rfl⟩
  have hl : (List.replicate n ByteArray.empty).length = n := by simp
  have B0 : Blk (((w.alloc (.cells cs 9)).alloc (.cells cs 9)).alloc (.cells #[.slice (some ⟨b1, 0, none⟩) n n, .slice (some ⟨b2, 0, none⟩) n n, .slice none 0 0, .int .i64 0, .int .i64 0, .bool false] 67)) w.heap.size cs 9 :=
    ((Blk.new w cs _).alloc _).alloc _
  have B1 : Blk (((w.alloc (.cells cs 9)).alloc (.cells cs 9)).alloc (.cells #[.slice (some ⟨b1, 0, none⟩) n n, .slice (some ⟨b2, 0, none⟩) n n, .slice none 0 0, .int .i64 0, .int .i64 0, .bool false] 67)) (w.heap.size + 1) cs 9 := by
    have := (Blk.new (w.alloc (.cells cs 9)) cs 9).alloc (.cells #[.slice (some ⟨b1, 0, none⟩) n n, .slice (some ⟨b2, 0, none⟩) n n, .slice none 0 0, .int .i64 0, .int .i64 0, .bool false] 67)
    simpa using this
  have B2 : Blk (((w.alloc (.cells cs 9)).alloc (.cells cs 9)).alloc (.cells #[.slice (some ⟨b1, 0, none⟩) n n, .slice (some ⟨b2, 0, none⟩) n n, .slice none 0 0, .int .i64 0, .int .i64 0, .bool false] 67)) (w.heap.size + 2) #[.slice (some ⟨b1, 0, none⟩) n n, .slice (some ⟨b2, 0, none⟩) n n, .slice none 0 0, .int .i64 0, .int .i64 0, .bool false] 67 := by
    have := Blk.new ((w.alloc (.cells cs 9)).alloc (.cells cs 9)) #[.slice (some ⟨b1, 0, none⟩) n n, .slice (some ⟨b2, 0, none⟩) n n, .slice none 0 0, .int .i64 0, .int .i64 0, .bool false] 67
    simpa using this
  rw [← hcs]
  refine ⟨b1, b2, .slice none 0 0, by omega, by omega, by omega, by simp [Value.ownBlock], by simp [Value.ownBlock], by simp [Value.ownBlock], by show _ ≤ _; omega, by show _ ≤ _; omega, by show _ ≤ _; omega, by simp [Value.ownBlock], ?_, ?_, ?_, ?_, ?_, ?_, ?_, ?_⟩
  · unfold Top sl Dsk.new
    simp only [hl]
    exact B2
  · show Blk _ _ (strs (List.replicate n ByteArray.empty)).toArray _
    rw [← hcs]
    rcases hb with ⟨rfl, rfl⟩ | ⟨rfl, rfl⟩
    · exact B0
    · exact B1
  · show Blk _ _ (strs (List.replicate n ByteArray.empty)).toArray _
    rw [← hcs]
    rcases hb with ⟨rfl, rfl⟩ | ⟨rfl, rfl⟩
    · exact B1
    · exact B0
  · simp [Dsk.new]
  · simp [Dsk.new]; omega
  · exact World.ownsRow_nil _ _ _ _
  · simp [Dsk.new]
  · refine ⟨fun x hx => ?_, fun x hx => ?_, by simp [Dsk.new]⟩
    · rw [(List.mem_replicate.1 hx).2]; decide
    · rw [(List.mem_replicate.1 hx).2]; decide

theorem dnew_any (x : Int) (w : World) :
    Calls Try.prog 12 #[.int .i64 x] w fun e w' => ∃ r P, e = .returned (.pointer (some ⟨r, 0, none⟩)) ∧ Dk w' P r (Dsk.new (sizeOf' x)) ∧ Below w.heap.size w w' ∧ ∀ k, P k → w.heap.size ≤ k := by
  obtain ⟨n, hn⟩ : ∃ n, n = sizeOf' x := ⟨_, rfl⟩
  have hn1 : (n : Int) = min (max x 1) 3000 := by rw [hn]; unfold sizeOf'; omega
  rw [← hn]
  clear hn
  have hle : n ≤ 3000 := by omega
  have HB := fun b1 b2 hb => Lib.hid (new_at w n b1 b2 hle hb _ rfl 0 0 rfl rfl _ rfl)
  have hbel : ∀ o1 o2 o3, Below w.heap.size w (((w.alloc o1).alloc o2).alloc o3) := fun o1 o2 o3 => (((Below.refl _ w).alloc (Nat.le_refl _) o1).alloc (by simp) o2).alloc (by simp; omega) o3
  have HL := Lib.hid hbel
  obtain h | h | h : x < 1 ∨ 3000 < x ∨ (1 ≤ x ∧ x ≤ 3000) := by omega
  · have hmk := run_make_strs n 1 (by omega) hle
    clear hn1 hbel
    go_enter Try.func12, Try.ntmps12
    go_wp2_with fail
    go_region
    all_goals go_wp2
    all_goals go_ret
    · exact ⟨_, _, rfl, (HB _ _ (.inl ⟨rfl, rfl⟩)).out.drew, (HL.out _ _ _).drew, fun _ h => h⟩
    · exact ⟨_, _, rfl, (HB _ _ (.inr ⟨rfl, rfl⟩)).out.drew, (HL.out _ _ _).drew, fun _ h => h⟩
  · have hmk := run_make_strs n 3000 (by omega) hle
    clear hn1 hbel
    go_enter Try.func12, Try.ntmps12
    go_wp2_with fail
    go_region
    all_goals go_wp2
    all_goals go_ret
    · exact ⟨_, _, rfl, (HB _ _ (.inl ⟨rfl, rfl⟩)).out.drew, (HL.out _ _ _).drew, fun _ h => h⟩
    · exact ⟨_, _, rfl, (HB _ _ (.inr ⟨rfl, rfl⟩)).out.drew, (HL.out _ _ _).drew, fun _ h => h⟩
  · have hmk := run_make_strs n x (by omega) hle
    obtain ⟨h1, h2⟩ := h
    clear hn1 hbel
    go_enter Try.func12, Try.ntmps12
    go_wp2_with fail
    go_region
    all_goals go_wp2
    all_goals go_ret
    · exact ⟨_, _, rfl, (HB _ _ (.inl ⟨rfl, rfl⟩)).out.drew, (HL.out _ _ _).drew, fun _ h => h⟩
    · exact ⟨_, _, rfl, (HB _ _ (.inr ⟨rfl, rfl⟩)).out.drew, (HL.out _ _ _).drew, fun _ h => h⟩
end Go.Proofs.Ytkhdahipnfloeaa
