/- Rk -/
import Derived.Test.YtpfjbcfnpfgidaaGreatKRj
namespace Go.Proofs.YtpfjbcfnpfgidaaGreat
open Go.RowKit Go.Maps
set_option maxRecDepth 100000
set_option linter.unusedVariables false
/-- What a range answers, at both. -/
def RgTo (a0 : World) (A V : List ByteArray) (ee : Int) (e : Ending) (w' : World) : Prop := ∃ a b, e = .returned (.tuple #[a, b, .int .i64 ee]) ∧ Ss w' a A ∧ Ss w' b V ∧ Below a0.heap.size a0 w'
theorem Ss.nil9 (w : World) : Ss w (.slice none 0 0) [] := ⟨none, 0, rfl, Nat.le_refl _, by simp [maxLen], fun _ => rfl, fun ad h => by cases h⟩
theorem both_range {w0 w : World} {X : Nat → Prop} {r p N M c : Nat} {G H : Lg} {n : Nat} {t : BT Ent n} {tot B x : Nat} {kv vv : Value} (h : Bo w0 w X r p N M c G H t tot B x kv vv) (fr to : ByteArray) (mm : Int) (hl : t.flat.length ≤ 1000) :
 ∃ A V ee, A.length ≤ 1000 ∧ V.length ≤ 1000 ∧ (∀ u, Below w.heap.size w u → Calls Tryz.prog 44 #[.pointer (some ⟨p, 0, none⟩), .int .i64 (t.page : Int), .string fr, .string to, .int .i64 mm] u (RgTo u A V ee)) ∧
  (∀ u, Below w.heap.size w u → Calls Tryz.prog 45 #[.pointer (some ⟨x, 0, none⟩), .string fr, .string to, .int .i64 mm] u (RgTo u A V ee)) ∧ (0 ≤ mm → ee = 0 ∧ A = (rangeL fr to mm.toNat t.flat).map Ent.key ∧ V = (rangeL fr to mm.toNat t.flat).map Ent.val) := by
 by_cases hm : mm < 0
 ·refine ⟨[], [], 1, by simp, by simp, fun u hu => (range_neg p _ fr to mm hm u).mono ?_, fun u hu => (rrange_neg x fr to mm hm u).mono ?_, fun h => by omega⟩
  ·rintro e w' ⟨rfl, hb⟩
   exact ⟨_, _, rfl, Ss.nil9 _, Ss.nil9 _, hb⟩
  ·rintro e w' ⟨rfl, rfl⟩
   exact ⟨_, _, rfl, Ss.nil9 _, Ss.nil9 _, Below.refl _ _⟩
 ·obtain ⟨m, rfl⟩ : ∃ m : Nat, mm = m := ⟨mm.toNat, by omega⟩
  have hle := rangeL_length fr to m t.flat
  have hlk : (valsL t.flat).length = (keysL t.flat).length := by unfold valsL keysL; rw [List.length_map, List.length_map]
  have hll : (keysL t.flat).length ≤ 90000 := by unfold keysL; rw [List.length_map]; omega
  have hkk := range_keys fr to m h.tree.sorted
  refine ⟨(rangeL fr to m t.flat).map Ent.key, (rangeL fr to m t.flat).map Ent.val, 0, by rw [List.length_map]; omega, by rw [List.length_map]; omega, fun u hu => (range_tree (h.read hu).pb (H := some H) h.tree (by omega) fr to m).mono ?_, fun u hu => (rrange_any (h.read hu).map hlk fr to m hll).mono ?_, fun _ => ⟨rfl, rfl, rfl⟩⟩
  ·rintro e w' ⟨a, b, rfl, h1, h2, -, h4⟩
   exact ⟨a, b, rfl, h1.ss, h2.ss, h4⟩
  ·rintro e w' ⟨a, b, rfl, h1, h2, h4⟩
   rw [← hkk.1] at h1
   rw [← hkk.2] at h2
   exact ⟨a, b, rfl, h1.ss, h2.ss, h4⟩
set_option maxHeartbeats 8000000 in
theorem do5_range {w0 w : World} {X : Nat → Prop} {r p N M c : Nat} {G H : Lg} {n : Nat} {t : BT Ent n} {tot B x : Nat} {kv vv : Value} (h : Bo w0 w X r p N M c G H t tot B x kv vv) (kind num : Int) (key val : ByteArray) (hl : t.flat.length ≤ 1000) (hkk : kind % 11 = 10) :
 Calls Tryz.prog 13 #[.agg #[.int .i64 kind, .int .i64 num, .string key, .string val], .pointer (some ⟨p, 0, none⟩), .int .i64 (t.page : Int), .pointer (some ⟨x, 0, none⟩)] w (DoTo5 w0 r p N M c G t.flat.length tot B x) := by
 have hb := Blk.new w #[.int .i64 kind, .int .i64 num, .string key, .string val] 36
 have hal : Below w.heap.size w (w.alloc (.cells #[.int .i64 kind, .int .i64 num, .string key, .string val] 36)) := (Below.refl _ w).alloc (Nat.le_refl _) _
 have h1 := h.take hal
 have hxb : w.heap.size < (w.alloc (.cells #[.int .i64 kind, .int .i64 num, .string key, .string val] 36)).heap.size := hb.lt
 obtain ⟨w1, hw1⟩ : ∃ w1, w1 = w.alloc (.cells #[.int .i64 kind, .int .i64 num, .string key, .string val] 36) := ⟨_, rfl⟩
 obtain ⟨b0, hb0⟩ : ∃ b0, b0 = w.heap.size := ⟨_, rfl⟩
 rw [← hw1] at hb hxb h1
 rw [← hb0] at hb hxb h1
 have HW := Lib.hid (And.intro hw1 hb0)
 have c0 : (w.alloc (.cells #[.int .i64 kind, .int .i64 num, .string key, .string val] 36)).cell? ⟨w.heap.size, 0, none⟩ = some (.int .i64 kind) := by rw [← hw1, ← hb0, hb.cell]; rfl
 have hX0 : (fun k => X k ∨ (b0 ≤ k ∧ k < w1.heap.size)) b0 := .inr ⟨Nat.le_refl _, hxb⟩
 have hw0 := h1.low b0 hX0
 have hwi := fun w => within5_eq kind 11 (by omega) (by omega) w
 rw [hkk] at hwi
 have hwn := fun w => within5_eq num 20 (by omega) (by omega) w
 obtain ⟨nm, hnm⟩ : ∃ nm, nm = num % 20 := ⟨_, rfl⟩
 have hn0 : 0 ≤ nm ∧ nm < 20 := by omega
 rw [← hnm] at hwn
 obtain ⟨mm, hmm⟩ : ∃ mm, mm = nm - 1 := ⟨_, rfl⟩
 have je : IntKind.i64.wrap (nm - 1) = mm := by rw [IntWalk.i64_in _ (by omega), hmm]
 obtain ⟨A, V, ee, hA, hV, hrg, hrr, -⟩ := both_range h1 key val mm hl
 obtain ⟨pg, hpg⟩ : ∃ pg : Int, pg = (t.page : Int) := ⟨_, rfl⟩
 rw [← hpg] at hrg ⊢
 have HB := Lib.hid hb
 have HWI := Lib.hid hwi
 have HWN := Lib.hid hwn
 have HRG := Lib.hid hrg
 have HRR := Lib.hid hrr
 have H1 := Lib.hid h1
 have HPG := Lib.hid hpg
 have HAV := Lib.hid (And.intro hA hV)
 have JE := Lib.hid je
 clear h hb hal h1 hw1 hb0 hwi hpg hkk hX0 hw0 hxb hl hwn hnm hmm hA hV hrg hrr je hn0
 go_enter Tryz.func13, Tryz.ntmps13
 go_wp2_with fail
 refine (HWI.out _).mono ?_
 rintro en wz ⟨rfl, rfl⟩
 clear c0
 rw [← HW.out.2, ← HW.out.1]
 go_wp2_with fail
 have HC := Lib.hid (show ∀ u, Below w1.heap.size w1 u → u.cell? ⟨b0, 1, none⟩ = some (.int .i64 num) ∧ u.cell? ⟨b0, 2, none⟩ = some (.string key) ∧ u.cell? ⟨b0, 3, none⟩ = some (.string val) from fun u hu => by
  have hbu := HB.out.moved (Moved.of_below hu (fun _ => False)) (fun h => h)
  exact ⟨by rw [hbu.cell]; rfl, by rw [hbu.cell]; rfl, by rw [hbu.cell]; rfl⟩)
 have je := JE.out
 refine wp_region_any (by kernel_rfl) ?_
 change wpAny _ _ _ _ _ _ _ (World.drew _)
 refine wpAny_of_held (S := fun (w' : World) => w'.cell? ⟨b0, 1, none⟩ = some (.int .i64 num) ∧ w'.cell? ⟨b0, 2, none⟩ = some (.string key) ∧ w'.cell? ⟨b0, 3, none⟩ = some (.string val)) _ _ _ _ ?_
 have hS : (fun (w' : World) => w'.cell? ⟨b0, 1, none⟩ = some (.int .i64 num) ∧ w'.cell? ⟨b0, 2, none⟩ = some (.string key) ∧ w'.cell? ⟨b0, 3, none⟩ = some (.string val)) _ := HC.out _ ((Below.refl _ w1).drew)
 have hu0 : Below w1.heap.size w1 w1.drew := (Below.refl _ w1).drew
 generalize World.drew w1 = u0 at hu0 hS ⊢
 try simp only [Act.put, List.setIfInBounds_toArray, List.set_cons_zero, List.set_cons_succ]
 refine wpAnyH_take (i := 0) (oi := ⟨some 118, _, _, _, _, _⟩) (v := ?_) rfl (by kernel_rfl) (by kernel_rfl) (by kernel_rfl) (fun _ _ _ h => h) (Or.inl ⟨by simp only [Region.wanted], ?_⟩) hS ?_
 rotate_left
 ·intro wz hSw
  clear hSw
  go_simp
  first | done | with_reducible rfl
 try simp only [Act.put, List.setIfInBounds_toArray, List.set_cons_zero, List.set_cons_succ]
 refine wpAnyH_take (i := 1) (oi := ⟨some 119, _, _, _, _, _⟩) (v := ?_) rfl (by kernel_rfl) (by kernel_rfl) (by kernel_rfl) (fun _ _ _ h => h) (Or.inl ⟨by simp only [Region.wanted], ?_⟩) hS ?_
 rotate_left
 ·intro wz hSw
  clear hSw
  go_simp
  first | done | with_reducible rfl
 try simp only [Act.put, List.setIfInBounds_toArray, List.set_cons_zero, List.set_cons_succ]
 refine wpAnyH_take (i := 2) (oi := ⟨some 120, _, _, _, _, _⟩) (v := ?_) rfl (by kernel_rfl) (by kernel_rfl) (by kernel_rfl) (fun _ _ _ h => h) (Or.inl ⟨by simp only [Region.wanted], ?_⟩) hS ?_
 rotate_left
 ·intro wz hSw
  clear hSw
  go_simp
  first | done | with_reducible rfl
 try simp only [Act.put, List.setIfInBounds_toArray, List.set_cons_zero, List.set_cons_succ]
 refine wpAnyH_take (i := 3) (oi := ⟨some 121, _, _, _, _, _⟩) (v := ?_) rfl (by kernel_rfl) (by kernel_rfl) (by kernel_rfl) (fun _ _ _ h => h) (Or.inl ⟨by simp only [Region.wanted], ?_⟩) hS ?_
 rotate_left
 ·intro wz hSw
  (try dsimp only at hSw)
  (try go_split_ands)
  go_simp
  first | done | with_reducible rfl
 try simp only [Act.put, List.setIfInBounds_toArray, List.set_cons_zero, List.set_cons_succ]
 refine wpAnyH_take (i := 4) (oi := ⟨some 122, _, _, _, _, _⟩) (v := ?_) rfl (by kernel_rfl) (by kernel_rfl) (by kernel_rfl) (fun _ _ _ h => h) (Or.inl ⟨by simp only [Region.wanted], ?_⟩) hS ?_
 rotate_left
 ·intro wz hSw
  clear hSw
  go_simp
  first | done | with_reducible rfl
 try simp only [Act.put, List.setIfInBounds_toArray, List.set_cons_zero, List.set_cons_succ]
 refine wpAnyH_take (i := 5) (oi := ⟨some 123, _, _, _, _, _⟩) (v := ?_) rfl (by kernel_rfl) (by kernel_rfl) (by kernel_rfl) (fun _ _ _ h => h) (Or.inl ⟨by simp only [Region.wanted], ?_⟩) hS ?_
 rotate_left
 ·intro wz hSw
  (try dsimp only at hSw)
  (try go_split_ands)
  go_simp
  first | done | with_reducible rfl
 try simp only [Act.put, List.setIfInBounds_toArray, List.set_cons_zero, List.set_cons_succ]
 refine wpAnyH_take (i := 6) (oi := ⟨some 124, _, _, _, _, _⟩) (v := ?_) rfl (by kernel_rfl) (by kernel_rfl) (by kernel_rfl) (fun _ _ _ h => h) (Or.inl ⟨by simp only [Region.wanted], ?_⟩) hS ?_
 rotate_left
 ·intro wz hSw
  clear hSw
  go_simp
  first | done | with_reducible rfl
 try simp only [Act.put, List.setIfInBounds_toArray, List.set_cons_zero, List.set_cons_succ]
 refine wpAnyH_take (i := 7) (oi := ⟨some 125, _, _, _, _, _⟩) (v := ?_) rfl (by kernel_rfl) (by kernel_rfl) (by kernel_rfl) (fun _ _ _ h => h) (Or.inl ⟨by simp only [Region.wanted], ?_⟩) hS ?_
 rotate_left
 ·intro wz hSw
  (try dsimp only at hSw)
  (try go_split_ands)
  go_simp
  first | done | with_reducible rfl
 try simp only [Act.put, List.setIfInBounds_toArray, List.set_cons_zero, List.set_cons_succ]
 refine wpAnyH_ready (rs := [8]) (by kernel_rfl) (by simp) ?_
 refine AllReadyH.cons (o := ⟨some 126, _, _, _, _, _⟩) rfl (fun K hK => ?_) AllReadyH.nil
 go_simp
 refine (HWN.out _).mono ?_
 rintro en u1 ⟨rfl, hu1⟩
 obtain rfl := hu1
 refine hK.out _ _ (hS) (fun hS => ?_)
 clear hK K
 try simp only [Act.put, List.setIfInBounds_toArray, List.set_cons_zero, List.set_cons_succ]
 refine wpAnyH_take (i := 9) (oi := ⟨some 127, _, _, _, _, _⟩) (v := ?_) rfl (by kernel_rfl) (by kernel_rfl) (by kernel_rfl) (fun _ _ _ h => h) (Or.inl ⟨by simp only [Region.wanted], ?_⟩) hS ?_
 rotate_left
 ·intro wz hSw
  clear hSw
  go_simp
  first | done | with_reducible rfl
 try simp only [Act.put, List.setIfInBounds_toArray, List.set_cons_zero, List.set_cons_succ]
 refine wpAnyH_ready (rs := [10]) (by kernel_rfl) (by simp) ?_
 refine AllReadyH.cons (o := ⟨some 128, _, _, _, _, _⟩) rfl (fun K hK => ?_) AllReadyH.nil
 go_simp
 refine (HRG.out _ hu0).mono ?_
 rintro en u2 ⟨a2, b2, rfl, ha2, hb2, hb02⟩
 have hu2 := hu0.trans (hb02.mono hu0.size)
 clear hb02
 refine hK.out _ _ (HC.out _ hu2) (fun hS => ?_)
 clear hK K
 try simp only [Act.put, List.setIfInBounds_toArray, List.set_cons_zero, List.set_cons_succ]
 refine wpAnyH_take (i := 11) (oi := ⟨some 117, _, _, _, _, _⟩) (v := ?_) rfl (by kernel_rfl) (by kernel_rfl) (by kernel_rfl) (fun _ _ _ h => h) (Or.inl ⟨by simp only [Region.wanted], ?_⟩) hS ?_
 rotate_left
 ·intro wz hSw
  clear hSw
  go_simp
  first | done | with_reducible rfl
 try simp only [Act.put, List.setIfInBounds_toArray, List.set_cons_zero, List.set_cons_succ]
 refine wpAnyH_take (i := 12) (oi := ⟨some 129, _, _, _, _, _⟩) (v := ?_) rfl (by kernel_rfl) (by kernel_rfl) (by kernel_rfl) (fun _ _ _ h => h) (Or.inl ⟨by simp only [Region.wanted], ?_⟩) hS ?_
 rotate_left
 ·intro wz hSw
  clear hSw
  go_simp
  first | done | with_reducible rfl
 try simp only [Act.put, List.setIfInBounds_toArray, List.set_cons_zero, List.set_cons_succ]
 refine wpAnyH_take (i := 13) (oi := ⟨some 130, _, _, _, _, _⟩) (v := ?_) rfl (by kernel_rfl) (by kernel_rfl) (by kernel_rfl) (fun _ _ _ h => h) (Or.inl ⟨by simp only [Region.wanted], ?_⟩) hS ?_
 rotate_left
 ·intro wz hSw
  clear hSw
  go_simp
  first | done | with_reducible rfl
 try simp only [Act.put, List.setIfInBounds_toArray, List.set_cons_zero, List.set_cons_succ]
 refine wpAnyH_take (i := 14) (oi := ⟨some 131, _, _, _, _, _⟩) (v := ?_) rfl (by kernel_rfl) (by kernel_rfl) (by kernel_rfl) (fun _ _ _ h => h) (Or.inl ⟨by simp only [Region.wanted], ?_⟩) hS ?_
 rotate_left
 ·intro wz hSw
  clear hSw
  go_simp
  first | done | with_reducible rfl
 try simp only [Act.put, List.setIfInBounds_toArray, List.set_cons_zero, List.set_cons_succ]
 refine wpAnyH_take (i := 15) (oi := ⟨some 21, _, _, _, _, _⟩) (v := ?_) rfl (by kernel_rfl) (by kernel_rfl) (by kernel_rfl) (fun _ _ _ h => h) (Or.inl ⟨by simp only [Region.wanted], ?_⟩) hS ?_
 rotate_left
 ·intro wz hSw
  clear hSw
  go_simp
  first | done | with_reducible rfl
 try simp only [Act.put, List.setIfInBounds_toArray, List.set_cons_zero, List.set_cons_succ]
 refine wpAnyH_take (i := 16) (oi := ⟨some 22, _, _, _, _, _⟩) (v := ?_) rfl (by kernel_rfl) (by kernel_rfl) (by kernel_rfl) (fun _ _ _ h => h) (Or.inl ⟨by simp only [Region.wanted], ?_⟩) hS ?_
 rotate_left
 ·intro wz hSw
  clear hSw
  go_simp
  first | done | with_reducible rfl
 try simp only [Act.put, List.setIfInBounds_toArray, List.set_cons_zero, List.set_cons_succ]
 refine wpAnyH_take (i := 17) (oi := ⟨some 23, _, _, _, _, _⟩) (v := ?_) rfl (by kernel_rfl) (by kernel_rfl) (by kernel_rfl) (fun _ _ _ h => h) (Or.inl ⟨by simp only [Region.wanted], ?_⟩) hS ?_
 rotate_left
 ·intro wz hSw
  clear hSw
  go_simp
  first | done | with_reducible rfl
 try simp only [Act.put, List.setIfInBounds_toArray, List.set_cons_zero, List.set_cons_succ]
 refine wpAnyH_done (by kernel_rfl) ?_ _
 have HU2 := Lib.hid hu2
 have HA2 := Lib.hid (And.intro ha2 hb2)
 clear hS je hu2 ha2 hb2 hu0
 go_wp2_with fail
 have je := JE.out
 refine wp_region_any (by kernel_rfl) ?_
 change wpAny _ _ _ _ _ _ _ (World.drew _)
 refine wpAny_of_held (S := fun (w' : World) => w'.cell? ⟨b0, 1, none⟩ = some (.int .i64 num) ∧ w'.cell? ⟨b0, 2, none⟩ = some (.string key) ∧ w'.cell? ⟨b0, 3, none⟩ = some (.string val)) _ _ _ _ ?_
 have hS : (fun (w' : World) => w'.cell? ⟨b0, 1, none⟩ = some (.int .i64 num) ∧ w'.cell? ⟨b0, 2, none⟩ = some (.string key) ∧ w'.cell? ⟨b0, 3, none⟩ = some (.string val)) _ := HC.out _ (HU2.out.drew)
 have hu3 : Below u2.heap.size u2 u2.drew := (Below.refl _ u2).drew
 have HU2D := Lib.hid (HU2.out.drew)
 generalize World.drew u2 = u3 at hu3 hS HU2D ⊢
 try simp only [Act.put, List.setIfInBounds_toArray, List.set_cons_zero, List.set_cons_succ]
 refine wpAnyH_take (i := 0) (oi := ⟨some 133, _, _, _, _, _⟩) (v := ?_) rfl (by kernel_rfl) (by kernel_rfl) (by kernel_rfl) (fun _ _ _ h => h) (Or.inl ⟨by simp only [Region.wanted], ?_⟩) hS ?_
 rotate_left
 ·intro wz hSw
  clear hSw
  go_simp
  first | done | with_reducible rfl
 try simp only [Act.put, List.setIfInBounds_toArray, List.set_cons_zero, List.set_cons_succ]
 refine wpAnyH_take (i := 1) (oi := ⟨some 134, _, _, _, _, _⟩) (v := ?_) rfl (by kernel_rfl) (by kernel_rfl) (by kernel_rfl) (fun _ _ _ h => h) (Or.inl ⟨by simp only [Region.wanted], ?_⟩) hS ?_
 rotate_left
 ·intro wz hSw
  clear hSw
  go_simp
  first | done | with_reducible rfl
 try simp only [Act.put, List.setIfInBounds_toArray, List.set_cons_zero, List.set_cons_succ]
 refine wpAnyH_take (i := 2) (oi := ⟨some 135, _, _, _, _, _⟩) (v := ?_) rfl (by kernel_rfl) (by kernel_rfl) (by kernel_rfl) (fun _ _ _ h => h) (Or.inl ⟨by simp only [Region.wanted], ?_⟩) hS ?_
 rotate_left
 ·intro wz hSw
  (try dsimp only at hSw)
  (try go_split_ands)
  go_simp
  first | done | with_reducible rfl
 try simp only [Act.put, List.setIfInBounds_toArray, List.set_cons_zero, List.set_cons_succ]
 refine wpAnyH_take (i := 3) (oi := ⟨some 136, _, _, _, _, _⟩) (v := ?_) rfl (by kernel_rfl) (by kernel_rfl) (by kernel_rfl) (fun _ _ _ h => h) (Or.inl ⟨by simp only [Region.wanted], ?_⟩) hS ?_
 rotate_left
 ·intro wz hSw
  clear hSw
  go_simp
  first | done | with_reducible rfl
 try simp only [Act.put, List.setIfInBounds_toArray, List.set_cons_zero, List.set_cons_succ]
 refine wpAnyH_take (i := 4) (oi := ⟨some 137, _, _, _, _, _⟩) (v := ?_) rfl (by kernel_rfl) (by kernel_rfl) (by kernel_rfl) (fun _ _ _ h => h) (Or.inl ⟨by simp only [Region.wanted], ?_⟩) hS ?_
 rotate_left
 ·intro wz hSw
  (try dsimp only at hSw)
  (try go_split_ands)
  go_simp
  first | done | with_reducible rfl
 try simp only [Act.put, List.setIfInBounds_toArray, List.set_cons_zero, List.set_cons_succ]
 refine wpAnyH_take (i := 5) (oi := ⟨some 138, _, _, _, _, _⟩) (v := ?_) rfl (by kernel_rfl) (by kernel_rfl) (by kernel_rfl) (fun _ _ _ h => h) (Or.inl ⟨by simp only [Region.wanted], ?_⟩) hS ?_
 rotate_left
 ·intro wz hSw
  clear hSw
  go_simp
  first | done | with_reducible rfl
 try simp only [Act.put, List.setIfInBounds_toArray, List.set_cons_zero, List.set_cons_succ]
 refine wpAnyH_take (i := 6) (oi := ⟨some 139, _, _, _, _, _⟩) (v := ?_) rfl (by kernel_rfl) (by kernel_rfl) (by kernel_rfl) (fun _ _ _ h => h) (Or.inl ⟨by simp only [Region.wanted], ?_⟩) hS ?_
 rotate_left
 ·intro wz hSw
  (try dsimp only at hSw)
  (try go_split_ands)
  go_simp
  first | done | with_reducible rfl
 try simp only [Act.put, List.setIfInBounds_toArray, List.set_cons_zero, List.set_cons_succ]
 refine wpAnyH_ready (rs := [7]) (by kernel_rfl) (by simp) ?_
 refine AllReadyH.cons (o := ⟨some 140, _, _, _, _, _⟩) rfl (fun K hK => ?_) AllReadyH.nil
 go_simp
 refine (HWN.out _).mono ?_
 rintro en u1 ⟨rfl, hu1⟩
 obtain rfl := hu1
 refine hK.out _ _ (hS) (fun hS => ?_)
 clear hK K
 try simp only [Act.put, List.setIfInBounds_toArray, List.set_cons_zero, List.set_cons_succ]
 refine wpAnyH_take (i := 8) (oi := ⟨some 141, _, _, _, _, _⟩) (v := ?_) rfl (by kernel_rfl) (by kernel_rfl) (by kernel_rfl) (fun _ _ _ h => h) (Or.inl ⟨by simp only [Region.wanted], ?_⟩) hS ?_
 rotate_left
 ·intro wz hSw
  clear hSw
  go_simp
  first | done | with_reducible rfl
 try simp only [Act.put, List.setIfInBounds_toArray, List.set_cons_zero, List.set_cons_succ]
 refine wpAnyH_ready (rs := [9]) (by kernel_rfl) (by simp) ?_
 refine AllReadyH.cons (o := ⟨some 142, _, _, _, _, _⟩) rfl (fun K hK => ?_) AllReadyH.nil
 go_simp
 refine (HRR.out _ HU2D.out).mono ?_
 rintro en u4 ⟨a4, b4, rfl, ha4, hb4, hb04⟩
 have hu4 := HU2D.out.trans (hb04.mono HU2D.out.size)
 have HU24 := Lib.hid (hu3.trans (hb04.mono hu3.size))
 clear hb04 hu3
 refine hK.out _ _ (HC.out _ hu4) (fun hS => ?_)
 clear hK K
 try simp only [Act.put, List.setIfInBounds_toArray, List.set_cons_zero, List.set_cons_succ]
 refine wpAnyH_take (i := 10) (oi := ⟨some 132, _, _, _, _, _⟩) (v := ?_) rfl (by kernel_rfl) (by kernel_rfl) (by kernel_rfl) (fun _ _ _ h => h) (Or.inl ⟨by simp only [Region.wanted], ?_⟩) hS ?_
 rotate_left
 ·intro wz hSw
  clear hSw
  go_simp
  first | done | with_reducible rfl
 try simp only [Act.put, List.setIfInBounds_toArray, List.set_cons_zero, List.set_cons_succ]
 refine wpAnyH_take (i := 11) (oi := ⟨some 143, _, _, _, _, _⟩) (v := ?_) rfl (by kernel_rfl) (by kernel_rfl) (by kernel_rfl) (fun _ _ _ h => h) (Or.inl ⟨by simp only [Region.wanted], ?_⟩) hS ?_
 rotate_left
 ·intro wz hSw
  clear hSw
  go_simp
  first | done | with_reducible rfl
 try simp only [Act.put, List.setIfInBounds_toArray, List.set_cons_zero, List.set_cons_succ]
 refine wpAnyH_take (i := 12) (oi := ⟨some 144, _, _, _, _, _⟩) (v := ?_) rfl (by kernel_rfl) (by kernel_rfl) (by kernel_rfl) (fun _ _ _ h => h) (Or.inl ⟨by simp only [Region.wanted], ?_⟩) hS ?_
 rotate_left
 ·intro wz hSw
  clear hSw
  go_simp
  first | done | with_reducible rfl
 try simp only [Act.put, List.setIfInBounds_toArray, List.set_cons_zero, List.set_cons_succ]
 refine wpAnyH_take (i := 13) (oi := ⟨some 145, _, _, _, _, _⟩) (v := ?_) rfl (by kernel_rfl) (by kernel_rfl) (by kernel_rfl) (fun _ _ _ h => h) (Or.inl ⟨by simp only [Region.wanted], ?_⟩) hS ?_
 rotate_left
 ·intro wz hSw
  clear hSw
  go_simp
  first | done | with_reducible rfl
 try simp only [Act.put, List.setIfInBounds_toArray, List.set_cons_zero, List.set_cons_succ]
 refine wpAnyH_take (i := 14) (oi := ⟨some 24, _, _, _, _, _⟩) (v := ?_) rfl (by kernel_rfl) (by kernel_rfl) (by kernel_rfl) (fun _ _ _ h => h) (Or.inl ⟨by simp only [Region.wanted], ?_⟩) hS ?_
 rotate_left
 ·intro wz hSw
  clear hSw
  go_simp
  first | done | with_reducible rfl
 try simp only [Act.put, List.setIfInBounds_toArray, List.set_cons_zero, List.set_cons_succ]
 refine wpAnyH_take (i := 15) (oi := ⟨some 25, _, _, _, _, _⟩) (v := ?_) rfl (by kernel_rfl) (by kernel_rfl) (by kernel_rfl) (fun _ _ _ h => h) (Or.inl ⟨by simp only [Region.wanted], ?_⟩) hS ?_
 rotate_left
 ·intro wz hSw
  clear hSw
  go_simp
  first | done | with_reducible rfl
 try simp only [Act.put, List.setIfInBounds_toArray, List.set_cons_zero, List.set_cons_succ]
 refine wpAnyH_take (i := 16) (oi := ⟨some 26, _, _, _, _, _⟩) (v := ?_) rfl (by kernel_rfl) (by kernel_rfl) (by kernel_rfl) (fun _ _ _ h => h) (Or.inl ⟨by simp only [Region.wanted], ?_⟩) hS ?_
 rotate_left
 ·intro wz hSw
  clear hSw
  go_simp
  first | done | with_reducible rfl
 try simp only [Act.put, List.setIfInBounds_toArray, List.set_cons_zero, List.set_cons_succ]
 refine wpAnyH_done (by kernel_rfl) ?_ _
 have HU4 := Lib.hid hu4
 have HA4 := Lib.hid (And.intro ha4 hb4)
 clear hS je hu4 ha4 hb4
 have hr1 := rows_any (HA2.out.1.below HU24.out) HA4.out.1 (by have := HAV.out.1; omega) (by have := HAV.out.1; omega)
 rw [decide_eq_true rfl] at hr1
 have HR1 := Lib.hid hr1
 clear hr1
 go_wp2_with fail
 refine HR1.out.mono ?_
 rintro en w5 ⟨rfl, hb5⟩
 have hr2 := rows_any ((HA2.out.2.below HU24.out).below hb5) (HA4.out.2.below hb5) (by have := HAV.out.2; omega) (by have := HAV.out.2; omega)
 rw [decide_eq_true rfl] at hr2
 have HR2 := Lib.hid hr2
 have HB5 := Lib.hid hb5
 clear hr2 hb5 HR1
 go_wp2_with fail
 refine HR2.out.mono ?_
 rintro en w6 ⟨rfl, hb6⟩
 have HB6 := Lib.hid hb6
 clear hb6 HR2
 go_wp2_with fail
 go_ret2
 rw [HPG.out]
 refine ⟨_, n, t, H, c, kv, vv, rfl, Nat.le_add_right _ _, Nat.le_succ _, ((H1.out.read HU4.out).read HB5.out).read HB6.out⟩
end Go.Proofs.YtpfjbcfnpfgidaaGreat
