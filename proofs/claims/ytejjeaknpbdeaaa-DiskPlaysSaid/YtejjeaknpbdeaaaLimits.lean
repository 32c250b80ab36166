/- The walk of the law DiskRows. -/
import Derived.Test.YtejjeaknpbdeaaaKnown
namespace Go.Proofs.Ytejjeaknpbdeaaa
open Go.RowKit

theorem Bs.made (w : World) (k : Nat) (hk : k ≤ 1099511627776) : Bs (w.alloc (.cells (vbs (zeros k)).toArray 5)) (.slice (some ⟨w.heap.size, 0, none⟩) k k) (zeros k) := by
  have h := ((Blk.new w (vbs (zeros k)).toArray 5).own (base := 0) (Nat.zero_le _) (by rw [zeros_length]; simp [maxLen]; omega)).bs
  rwa [zeros_length] at h


theorem rows_walk (x y z : Int) (w : World) :
    Calls Try.prog 6 #[.int .i64 x, .int .i64 y, .int .i64 z] w fun e w' => e = .returned (.bool true) ∧ Below w.heap.size w w' := by
  obtain ⟨m, hm, hm9⟩ : ∃ m : Nat, withinOf x 9 = m ∧ m < 9 := ⟨(withinOf x 9).toNat, by have := within_range x 9 (by decide); omega, by have := within_range x 9 (by decide); omega⟩
  obtain ⟨a, ha, ha20⟩ : ∃ a : Nat, withinOf y 20 = a ∧ a < 20 := ⟨(withinOf y 20).toNat, by have := within_range y 20 (by decide); omega, by have := within_range y 20 (by decide); omega⟩
  obtain ⟨n, hn, hn9⟩ : ∃ n : Nat, withinOf z 9 = n ∧ n < 9 := ⟨(withinOf z 9).toNat, by have := within_range z 9 (by decide); omega, by have := within_range z 9 (by decide); omega⟩
  have wx := within_any x 9 (by decide) (by decide)
  have wy := within_any y 20 (by decide) (by decide)
  have wz := within_any z 9 (by decide) (by decide)
  rw [hm] at wx
  rw [ha] at wy
  rw [hn] at wz
  have hsz : sizeOf' (1 + m) = m + 1 := by unfold sizeOf'; omega
  have HX := Lib.hid wx
  have HY := Lib.hid wy
  have HZ := Lib.hid wz
  clear wx wy wz hm ha hn
  go_enter Try.func6, Try.ntmps6
  go_wp2_with fail
  refine (known_any _).mono ?_
  rintro e w1 ⟨rfl, hb1⟩
  go_wp2_with fail
  refine (HX.out _).mono ?_
  rintro e _ ⟨rfl, rfl⟩
  go_wp2_with fail
  refine (HY.out _).mono ?_
  rintro e _ ⟨rfl, rfl⟩
  go_wp2_with fail
  refine (HZ.out _).mono ?_
  rintro e _ ⟨rfl, rfl⟩
  go_wp2_with fail
  refine (st_new _ w _ hb1).mono ?_
  rintro e w2 ⟨r, rfl, h2⟩
  rw [hsz] at h2
  obtain ⟨k, hk⟩ : ∃ k, k = m + 1 := ⟨_, rfl⟩
  rw [← hk] at h2
  have hk' : (1 : Int) + m = k := by omega
  rw [hk']
  have hk9 : k ≤ 9 ∧ 1 ≤ k := by omega
  obtain ⟨hk1, hk2⟩ := hk9
  clear hk hk' hsz hm9 HX HY HZ
  go_wp2_with fail
  have f1 : faultOf (Dsk.new k) (k + a) = 1 := new_bad k _ (by omega)
  obtain ⟨e1, e2⟩ := write_bad [1] (show faultOf (Dsk.new k) (k + a) ≠ 0 by rw [f1]; decide)
  refine (st_write r (Dsk.new k) (k + a) _ [1] w _ (h2.alloc _) (Bs.one _ 1 _ rfl) (Nat.zero_le _) (Nat.zero_le _) (Nat.zero_le _)).mono ?_
  rw [e1, e2, f1]
  rintro e w3 ⟨rfl, h3⟩
  clear e1 e2 f1
  go_wp2_with fail
  have f1 : faultOf (Dsk.new k) (-1 - a) = 1 := new_bad k _ (by omega)
  obtain ⟨e1, e2⟩ := write_bad [1] (show faultOf (Dsk.new k) (-1 - a) ≠ 0 by rw [f1]; decide)
  refine (st_write r (Dsk.new k) (-1 - a) _ [1] w _ (h3.alloc _) (Bs.one _ 1 _ rfl) (Nat.zero_le _) (Nat.zero_le _) (Nat.zero_le _)).mono ?_
  rw [e1, e2, f1]
  rintro e w4 ⟨rfl, h4⟩
  clear e1 e2 f1
  have hmk := run_make_bytes (513 + n) (513 + n) (by omega) (by omega)
  go_wp2_with fail
  obtain ⟨e1, e2⟩ := write_long (new_good k 0 (by omega)) (show 512 < (zeros (513 + n)).length by rw [zeros_length]; omega)
  refine (st_write r (Dsk.new k) 0 _ (zeros (513 + n)) w _ (h4.alloc _) (Bs.made _ _ (by omega)) (Nat.zero_le _) (Nat.zero_le _) (Nat.zero_le _)).mono ?_
  rw [e1, e2]
  rintro e w5 ⟨rfl, h5⟩
  clear e1 e2 hmk
  go_wp2_with fail
  refine (st_read r (Dsk.new k) (k + a) w _ h5).mono ?_
  rw [new_bad k _ (by omega)]
  rintro e w6 ⟨v6, rfl, -, h6⟩
  go_wp2_with fail
  refine (st_read r (Dsk.new k) (-1 - a) w _ h6).mono ?_
  rw [new_bad k _ (by omega)]
  rintro e w7 ⟨v7, rfl, -, h7⟩
  have hmk := run_make_bytes (512 - n) (512 - n) (by omega) (by omega)
  go_wp2_with fail
  obtain ⟨e1, e2'⟩ := write_ok (new_good k (k - 1) (by omega)) (show (zeros (512 - n)).length ≤ 512 by rw [zeros_length]; omega)
  have e1 : writeErr (Dsk.new k) (k - 1) (zeros (512 - n)) = 0 := e1
  have e2 : ((Dsk.new k).write (k - 1) (zeros (512 - n))).ops = 1 := by rw [e2']; rfl
  clear e2'
  refine (st_write r (Dsk.new k) (k - 1) _ (zeros (512 - n)) w _ (h7.alloc _) (Bs.made _ _ (by omega)) (Nat.zero_le _) (Nat.zero_le _) (Nat.zero_le _)).mono ?_
  rw [e1]
  rintro e w8 ⟨rfl, h8⟩
  generalize (Dsk.new k).write (k - 1) (zeros (512 - n)) = s8 at h8 e2
  clear e1 hmk
  go_wp2_with (go_at_call 23; refine (st_ops r s8 w _ h8).mono ?_; rw [e2]; rintro e _ ⟨rfl, rfl⟩)
  go_ret
  exact ⟨rfl, h8.below⟩
end Go.Proofs.Ytejjeaknpbdeaaa
