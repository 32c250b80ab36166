/- The pager: own, differs. -/
import Derived.Test.YtcnfnpccbnnplaaPgGet
namespace Go.Proofs.Ytcnfnpccbnnplaa
open Go.RowKit Go.Maps
set_option maxRecDepth 100000

/-- What 'own' answers. -/
def ownOf (S : Stt) (k : Nat) : List UInt8 := pageOf (le (S.next.getD k 0 - k - 1) 8 ++ if k = 0 then le S.root 8 else [])
theorem ownOf_length (S : Stt) (k : Nat) : (ownOf S k).length = 504 := pageOf_length _

set_option maxHeartbeats 400000 in
theorem own_any (S : Stt) (w : World) (gn cn k : Nat) (h : IRow w gn S.next) (hk : k < S.next.length) (hN : S.next.length ≤ 1000000) (hb : 0 ≤ S.next.getD k 0 ∧ S.next.getD k 0 ≤ 1000000) :
    Calls Try.prog 82 #[.agg #[.int .i64 S.root, .slice (some ⟨gn, 0, none⟩) S.next.length cn], .int .i64 k] w fun e w' => e = .returned (pg (ownOf S k)) ∧ Below w.heap.size w w' := by
  have hz := pg_zero
  obtain ⟨Z, hZ⟩ : ∃ Z, Z = (vbs (zeros 504)).toArray := ⟨_, rfl⟩
  rw [← hZ] at hz
  obtain ⟨n, hn⟩ : ∃ n, n = S.next.length := ⟨_, rfl⟩
  obtain ⟨o, ho⟩ : ∃ o : Obj, o = .cells #[.int .i64 S.root, .slice (some ⟨gn, 0, none⟩) n cn] 80 := ⟨_, rfl⟩
  have hal1 : Below w.heap.size w (w.alloc o) := (Below.refl _ w).alloc (Nat.le_refl _) _
  have hal : Below w.heap.size w ((w.alloc o).alloc (.cells Z 103)) := hal1.alloc hal1.size _
  have hb0 : Blk ((w.alloc o).alloc (.cells Z 103)) (w.heap.size + 1) (vbs (zeros 504)).toArray 103 := by
    rw [hZ]; exact heap_alloc2_new w _ _
  have hbs : Blk ((w.alloc o).alloc (.cells Z 103)) w.heap.size #[.int .i64 S.root, .slice (some ⟨gn, 0, none⟩) n cn] 80 := by
    rw [ho]; exact heap_alloc2_old w _ _
  have hr : IRow ((w.alloc o).alloc (.cells Z 103)) gn S.next := h.moved (Moved.of_below hal (fun _ => False)) (fun h => h)
  have ck := hr.cell k hk
  obtain ⟨x, hx⟩ : ∃ x, x = S.next[k] := ⟨_, rfl⟩
  have ex : S.next.getD k 0 = x := by rw [hx]; simp [List.getD, hk]
  have e : ownOf S k = pageOf (le (x - k - 1) 8 ++ if k = 0 then le S.root 8 else []) := by unfold ownOf; rw [ex]
  rw [ex] at hb
  rw [← hx] at ck
  rw [e]
  obtain ⟨y, hy⟩ : ∃ y, y = x - k - 1 := ⟨_, rfl⟩
  rw [← hy]
  have hint := int_any (.slice none 0 0) [] y (by simp) ((w.alloc o).alloc (.cells Z 103)) (Bs.nil _)
  rw [List.nil_append] at hint
  have HI := Lib.hid hint
  have HA := Lib.hid hal
  have H0 := Lib.hid hb0
  have HS := Lib.hid hbs
  rw [← hn] at hk hN ⊢
  have hkn : (k : Int) < n := by omega
  subst ho
  clear hint hal hal1 hb0 hbs hr h e ex hx hn hZ
  by_cases hk0 : k = 0
  · subst hk0
    obtain rfl : y = x - 1 := by simpa using hy
    rw [if_pos rfl]
    obtain ⟨L, hL⟩ : ∃ L, L = pageOf (le (x - 1) 8 ++ le S.root 8) := ⟨_, rfl⟩
    have hpl : L.length = 504 := by rw [hL]; exact pageOf_length _
    rw [← hL]
    have HL := Lib.hid hL
    clear hy hL
    go_enter Try.func82, Try.ntmps82
    go_wp2_with fail
    refine HI.out.mono ?_
    rintro e w1 ⟨v1, rfl, hv1, hb1⟩
    have cs1 : w1.cell? ⟨w.heap.size, 0, none⟩ = some (.int .i64 S.root) := by
      rw [(HS.out.moved (Moved.of_below hb1 (fun _ => False)) (fun h => h)).cell]; rfl
    have hint2 := int_any v1 (le (x - 1) 8) S.root (by rw [le_length]; omega) w1 hv1.bs
    have HB1 := Lib.hid hb1
    have HI2 := Lib.hid hint2
    clear hb1 hint2 hv1 HI
    go_wp2_with fail
    refine HI2.out.mono ?_
    rintro e w2 ⟨v2, rfl, hv2, hb2⟩
    have hp := paged_any v2 _ w2 hv2.bs
    have HB2 := Lib.hid hb2
    rw [← HL.out] at hp
    clear hb2 hv2 HI2 cs1
    have HP := Lib.hid hp
    clear hp
    go_wp2_with fail
    refine HP.out.mono ?_
    rintro e w3 ⟨rfl, hb3⟩
    have HB3 := Lib.hid hb3
    have hw : Below w.heap.size w w3 := by
      have q1 := HA.out.trans (HB1.out.mono HA.out.size)
      have q2 := q1.trans (HB2.out.mono q1.size)
      exact q2.trans (HB3.out.mono q2.size)
    have hb03 := H0.out.moved ((Moved.of_below HB1.out (fun _ => False)).trans ((Moved.of_below HB2.out (fun _ => False)).trans (Moved.of_below HB3.out (fun _ => False)) (fun _ h => .inl h)) (fun _ h => .inl h)) (fun h => h)
    have HW := Lib.hid hw
    clear hb3 HP hw
    go_wp2_with (first | (with_reducible refine wpList_pstore rfl _ _ rfl (w.heap.size + 1) L (zeros 504) rfl rfl 103 hb03 (zeros_length _) hpl ?_; intro w4 hb4 hg4) | fail)
    refine bodyPost_ret (pg_results rfl _ _ (w.heap.size + 1) 103 L rfl hb4 hpl) rfl ?_
    exact ⟨rfl, HW.out.grown hg4 HW.out.size (fun q hq => by have := Option.some.inj hq; omega)⟩
  · rw [if_neg hk0]
    have hk0' : ((k : Int) == 0) = false := by simp; omega
    rw [List.append_nil]
    obtain ⟨L, hL⟩ : ∃ L, L = pageOf (le y 8) := ⟨_, rfl⟩
    have hpl : L.length = 504 := by rw [hL]; exact pageOf_length _
    rw [← hL]
    have HL := Lib.hid hL
    clear hL
    go_enter Try.func82, Try.ntmps82
    subst hy
    go_wp2_with fail
    refine HI.out.mono ?_
    rintro e w1 ⟨v1, rfl, hv1, hb1⟩
    have hp := paged_any v1 _ w1 hv1.bs
    have HB1 := Lib.hid hb1
    rw [← HL.out] at hp
    clear hb1 hv1 HI
    have HP := Lib.hid hp
    clear hp
    go_wp2_with fail
    refine HP.out.mono ?_
    rintro e w3 ⟨rfl, hb3⟩
    have HB3 := Lib.hid hb3
    have hw : Below w.heap.size w w3 := by
      have q1 := HA.out.trans (HB1.out.mono HA.out.size)
      exact q1.trans (HB3.out.mono q1.size)
    have hb03 := H0.out.moved ((Moved.of_below HB1.out (fun _ => False)).trans (Moved.of_below HB3.out (fun _ => False)) (fun _ h => .inl h)) (fun h => h)
    have HW := Lib.hid hw
    clear hb3 HP hw
    go_wp2_with (first | (with_reducible refine wpList_pstore rfl _ _ rfl (w.heap.size + 1) L (zeros 504) rfl rfl 103 hb03 (zeros_length _) hpl ?_; intro w4 hb4 hg4) | fail)
    refine bodyPost_ret (pg_results rfl _ _ (w.heap.size + 1) 103 L rfl hb4 hpl) rfl ?_
    exact ⟨rfl, HW.out.grown hg4 HW.out.size (fun q hq => by have := Option.some.inj hq; omega)⟩
end Go.Proofs.Ytcnfnpccbnnplaa
