/- Triples as text: all of the reader's calls together. -/
import Derived.Test.YtefkppeicmipbaaGreatDoorUs
import Derived.Test.YtefkppeicmipbaaGreatDoorRows
import Derived.Lib.LaidU8
import Derived.LaidMore
import Derived.LaidLaws
import Derived.MakeChecks
import Derived.WalkKit
import Derived.ProofKit
import Derived.OpenShut
import Derived.ShutString
import Derived.ChangeOld
namespace Go.Proofs.YtefkppeicmipbaaGreatDoor
open Go.RowKit Go.Shelf Go.Maps
set_option maxRecDepth 100000
set_option linter.unusedVariables false
set_option linter.unusedSimpArgs false
theorem c12 (n : Nat) : C12 n := by
  induction n using Nat.strongRecOn with
  | _ n ih =>
    refine ⟨fun w P tv s h hn => ?_, fun w P tv s t h ht hn hn2 => ?_, fun w P tv s h hn => ?_, fun w P tv s b h hb hn => ?_, fun w P tv s h hn => ?_⟩
    · obtain ⟨k, rfl⟩ : ∃ k, n = k + 1 := ⟨n - 1, by omega⟩
      exact tobject (ih k (Nat.lt_succ_self k)) h hn
    · obtain ⟨k, rfl⟩ : ∃ k, n = k + 1 := ⟨n - 1, by omega⟩
      exact tnode (ih k (Nat.lt_succ_self k)).col h t ht hn2
    · obtain ⟨k, rfl⟩ : ∃ k, n = k + 1 := ⟨n - 1, by omega⟩
      exact tbracket (ih k (Nat.lt_succ_self k)).verb h hn
    · exact tverbs (fun m hm => ih m hm) h b hb hn
    · exact tcollection (fun m hm => ih m hm) h hn
end Go.Proofs.YtefkppeicmipbaaGreatDoor
/- Triples as text: statement. -/
namespace Go.Proofs.YtefkppeicmipbaaGreatDoor
open Go.RowKit Go.Shelf Go.Maps
set_option maxRecDepth 100000
set_option linter.unusedVariables false
set_option linter.unusedSimpArgs false
theorem pop_ne {s : St} (h : Inv s) (hr : s.rest ≠ []) : s.base.size + s.peek.2.length + 8 + msr s.next.rest ≤ 90000 ∧ s.pre.length + 1 + s.next.rest.length ≤ 90000 := by
  have h1 := h.size
  have h2 := h.cnt
  unfold St.peek St.next
  cases he : s.rest with
  | nil => exact absurd he hr
  | cons t r => rw [he] at h1 h2; simp [msr] at h1 h2 ⊢; omega
theorem len_ne {s : St} (hr : s.rest ≠ []) : s.next.len + 1 ≤ s.len := by
  unfold St.next St.len
  cases he : s.rest with
  | nil => exact absurd he hr
  | cons a r => simp
def lgPre : Tok := lg [112, 114, 101, 102, 105, 120]
def lgBase : Tok := lg [98, 97, 115, 101]
theorem st_pre (lab : ByteArray) (n : Nat) {s : St} (h : s.peek = lgPre) : stmtP lab n s = bindP s.next := if_pos h
theorem st_base (lab : ByteArray) (n : Nat) {s : St} (h : s.peek = lgBase) : stmtP lab n s = { resdE s.next with base := resdT s.next } := by
  unfold stmtP
  rw [if_neg (by rw [h]; decide), if_pos (show s.peek = lg [98, 97, 115, 101] from h)]
theorem st_brk (lab : ByteArray) (n : Nat) {s : St} (h : s.peek = sg [91]) : stmtP lab n s = if (brkP lab n s.next.down).2.up.peek = sg [46] then (brkP lab n s.next.down).2.up else verbP lab n (brkP lab n s.next.down).1 (brkP lab n s.next.down).2.up := by
  unfold stmtP
  rw [if_neg (by rw [h]; decide), if_neg (by rw [h]; decide), if_pos h]
theorem st_node (lab : ByteArray) (n : Nat) {s : St} (h1 : ¬ s.peek = lgPre) (h2 : ¬ s.peek = lgBase) (h3 : ¬ s.peek = sg [91]) : stmtP lab n s = verbP lab n (nodeP lab n s.peek s.next).1 (nodeP lab n s.peek s.next).2 := by
  unfold stmtP
  rw [if_neg (show ¬ s.peek = lg [112, 114, 101, 102, 105, 120] from h1), if_neg (show ¬ s.peek = lg [98, 97, 115, 101] from h2), if_neg h3]
theorem brk_ok {lab : ByteArray} (h : lab.size ≤ 1000) (n : Nat) (s : St) : (brkP lab n s).1.Ok := by
  cases n with
  | zero => rw [brkP]; exact zero_ok
  | succ n => rw [brkP]; split <;> exact blank_ok h _
set_option maxHeartbeats 16000000 in
theorem tstatement {w : World} {P : Pl} {tv : Value} {s : St} (h : RdT w P tv s) (n : Nat) (hn : 4 * s.len + 5 ≤ n) (hr : s.rest ≠ []) :
    Calls Tryz.prog 11 #[.pointer (some ⟨P.r, 0, none⟩)] w (ToV12 P w tv ((stmtP P.lab n s).need [46])) := by
  obtain ⟨Q, hQ⟩ : ∃ Q, Q = stmtP P.lab n s := ⟨_, rfl⟩
  rw [← hQ]
  have hst := h.start
  have hnx := tnext hst.1.rd
  have hpop := pop_ne h.inv hr
  have hl1 := len_ne hr
  have HPK := Lib.hid h.inv.peek
  obtain ⟨q1, q2, hq⟩ : ∃ q1 q2, s.peek = (q1, q2) := ⟨_, _, rfl⟩
  rw [hq] at hnx
  unfold tokV at hnx
  dsimp only at hnx
  have HNX := Lib.hid hnx
  have HG0 := Lib.hid hst.1
  have HT0 := Lib.hid hst.2
  have HQS := Lib.hid hQ
  have HQ := Lib.hid hq
  have HN := Lib.hid (And.intro hn hl1)
  have HPOP := Lib.hid hpop
  have HLAB := Lib.hid h.lab
  have HI := Lib.hid h.inv
  have HND := Lib.hid (fun w1 tv1 s1 (r : RdT w1 P tv1 s1) => tneed r ⟨#[46]⟩)
  have HLP := Lib.hid (fun w => tlang ⟨#[112, 114, 101, 102, 105, 120]⟩ w)
  have HLB := Lib.hid (fun w => tlang ⟨#[98, 97, 115, 101]⟩ w)
  have HSB := Lib.hid (fun w => tsign ⟨#[91]⟩ w)
  have HSD := Lib.hid (fun w => tsign ⟨#[46]⟩ w)
  have HBI := Lib.hid (fun w1 tv1 (r : RdT w1 P tv1 s.next) => tbind r (by have := hpop.2; exact this))
  have HRE := Lib.hid (fun w1 tv1 (r : RdT w1 P tv1 s.next) => tresolved r)
  have hmf : ∀ (f : Nat) (a b : Array Value) (w : World), (Instr.makeFunc (.func f) a b).run Tryz.prog w = .ok (.func (.func f) a b) w := fun f a b w => rfl
  obtain ⟨d1, hd1⟩ : ∃ d, d = decide ((q1, q2) = ((6 : Int), ([112, 114, 101, 102, 105, 120] : List UInt8))) := ⟨_, rfl⟩
  obtain ⟨d2, hd2⟩ : ∃ d, d = decide ((q1, q2) = ((6 : Int), ([98, 97, 115, 101] : List UInt8))) := ⟨_, rfl⟩
  obtain ⟨d3, hd3⟩ : ∃ d, d = decide ((q1, q2) = ((9 : Int), ([91] : List UInt8))) := ⟨_, rfl⟩
  have HIF1 := Lib.hid (fun wz : World => show (if q1 = 6 then if q2 = [112, 114, 101, 102, 105, 120] then Result.ok (Next.value (Value.bool true)) wz else Result.ok (Next.value (Value.bool false)) wz else Result.ok (Next.value (Value.bool false)) wz) = Result.ok (Next.value (Value.bool d1)) wz from by
    rw [hd1]
    by_cases h1 : q1 = 6 <;> by_cases h2 : q2 = [112, 114, 101, 102, 105, 120] <;> simp [h1, h2])
  have HIF2 := Lib.hid (fun wz : World => show (if q1 = 6 then if q2 = [98, 97, 115, 101] then Result.ok (Next.value (Value.bool true)) wz else Result.ok (Next.value (Value.bool false)) wz else Result.ok (Next.value (Value.bool false)) wz) = Result.ok (Next.value (Value.bool d2)) wz from by
    rw [hd2]
    by_cases h1 : q1 = 6 <;> by_cases h2 : q2 = [98, 97, 115, 101] <;> simp [h1, h2])
  have HIF3 := Lib.hid (fun wz : World => show (if q1 = 9 then if q2 = [91] then Result.ok (Next.value (Value.bool true)) wz else Result.ok (Next.value (Value.bool false)) wz else Result.ok (Next.value (Value.bool false)) wz) = Result.ok (Next.value (Value.bool d3)) wz from by
    rw [hd3]
    by_cases h1 : q1 = 9 <;> by_cases h2 : q2 = [91] <;> simp [h1, h2])
  have HD1 := Lib.hid hd1
  have HD2 := Lib.hid hd2
  have HD3 := Lib.hid hd3
  clear h hst hnx hpop hl1 hq hQ hn hr hd1 hd2 hd3
  go_enter Tryz.func11, Tryz.ntmps11
  go_wp2_with fail
  refine wp_scope_jumps 0 (fun a' w' => ∃ (tvx : Value), ∃ u : Nat → Value, a' = { tmps := #[.pointer (some ⟨P.r, 0, none⟩), u 1, u 2, u 3, u 4, u 5, u 6, u 7, u 8, u 9, u 10, u 11, u 12, u 13, u 14, u 15, u 16, u 17, u 18, u 19, u 20, u 21, u 22, u 23, u 24, u 25, u 26, u 27, u 28, u 29, u 30, u 31, u 32, u 33, u 34, u 35, u 36, u 37, u 38, u 39, u 40], defers := [] } ∧ Go12 P w tv w' tvx Q) (fun _ _ => 0) rfl ?_ ?_
  · skip
    go_wp2_with fail
    generalize World.alloc w _ = w0 at HNX HG0 HT0 ⊢
    refine HNX.out.mono ?_
    rintro e w1 ⟨rfl, tv1, hg1⟩
    have HG := Lib.hid ((HG0.out.trans hg1).alloc (.cells #[.int .i64 q1, .string ⟨q2.toArray⟩] 47))
    have HT := Lib.hid ((HT0.out.go hg1).alloc (.cells #[.int .i64 q1, .string ⟨q2.toArray⟩] 47))
    have HK := Lib.hid (Tp.new hg1.rd #[.int .i64 q1, .string ⟨q2.toArray⟩] 47)
    clear hg1
    go_wp2_with fail
    generalize World.alloc w1 _ = W at HG HT HK ⊢
    generalize w1.heap.size = K at HK ⊢
    refine wp_region_any (by kernel_rfl) ?_
    change wpAny _ _ _ _ _ _ _ (World.drew _)
    refine wpAny_of_held (S := fun w' => Go12 P w tv w' tv1 (s.next) ∧ Tp w' P tv1 (w.heap.size) #[.int .i64 0, .string ⟨#[]⟩, .string ⟨#[]⟩, .string ⟨#[]⟩] 33 ∧ Tp w' P tv1 (K) #[.int .i64 q1, .string ⟨q2.toArray⟩] 47) _ _ _ _ ?_
    have hS : (fun w' => Go12 P w tv w' tv1 (s.next) ∧ Tp w' P tv1 (w.heap.size) #[.int .i64 0, .string ⟨#[]⟩, .string ⟨#[]⟩, .string ⟨#[]⟩] 33 ∧ Tp w' P tv1 (K) #[.int .i64 q1, .string ⟨q2.toArray⟩] 47) _ := ⟨HG.out.below (below_drew1 _), HT.out.go ((Go12.refl HG.out.rd).below (below_drew1 _)), HK.out.go ((Go12.refl HG.out.rd).below (below_drew1 _))⟩
    refine wpAnyH_take (i := 0) (oi := ⟨some 10, _, _, _, _, _⟩) (v := ?_) rfl (by kernel_rfl) (by kernel_rfl) (by kernel_rfl) (fun _ _ _ h => h) (Or.inl ⟨by simp only [Region.wanted], ?_⟩) hS ?_
    rotate_left
    · intro wz hSw; obtain ⟨-, k0, k1, -, -⟩ := hSw.2.2.two
      clear hSw
      go_simp
      first | done | with_reducible rfl
    try simp only [Act.put, List.setIfInBounds_toArray, List.set_cons_zero, List.set_cons_succ]
    refine wpAnyH_ready (rs := [1]) (by kernel_rfl) (by simp) ?_
    refine AllReadyH.cons (o := ⟨some 11, _, _, _, _, _⟩) rfl (fun K hK => ?_) AllReadyH.nil
    go_simp
    refine (HLP.out _).mono ?_
    rintro e wq ⟨rfl, hbq⟩
    have HG2 := Lib.hid ((HG.out.below (below_drew1 _)).below hbq)
    have HR2 := Lib.hid (HT.out.go (((Go12.refl HG.out.rd).below (below_drew1 _)).below hbq))
    have HK2 := Lib.hid (HK.out.go (((Go12.refl HG.out.rd).below (below_drew1 _)).below hbq))
    clear hbq
    refine hK.out _ _ (⟨HG2.out, HR2.out, HK2.out⟩) (fun hS => ?_)
    clear hK K
    try simp only [Act.put, List.setIfInBounds_toArray, List.set_cons_zero, List.set_cons_succ]
    refine wpAnyH_take (i := 2) (oi := ⟨some 12, _, _, _, _, _⟩) (v := ?_) rfl (by kernel_rfl) (by kernel_rfl) (by kernel_rfl) (fun _ _ _ h => h) (Or.inl ⟨by simp only [Region.wanted], ?_⟩) hS ?_
    rotate_left
    · intro wz hSw
      clear hSw
      go_simp
      first | done | with_reducible rfl | exact HIF1.out wz
    try simp only [Act.put, List.setIfInBounds_toArray, List.set_cons_zero, List.set_cons_succ]
    refine wpAnyH_take (i := 3) (oi := ⟨some 9, _, _, _, _, _⟩) (v := ?_) rfl (by kernel_rfl) (by kernel_rfl) (by kernel_rfl) (fun _ _ _ h => h) (Or.inl ⟨by simp only [Region.wanted], ?_⟩) hS ?_
    rotate_left
    · intro wz hSw
      clear hSw
      go_simp
      first | done | with_reducible rfl
    try simp only [Act.put, List.setIfInBounds_toArray, List.set_cons_zero, List.set_cons_succ]
    refine wpAnyH_done (by kernel_rfl) ?_ _
    clear hS
    clear HG HT HK
    cases d1 with
    | true =>
      have hqs : s.peek = lgPre := HQ.out.trans (of_decide_eq_true HD1.out.symm)
      have hq : Q = bindP s.next := HQS.out.trans (st_pre _ _ hqs)
      have HB := Lib.hid (fun w1 tv1 (r : RdT w1 P tv1 s.next) => show Calls _ _ _ _ (ToV12 P w1 tv1 Q) from by rw [hq]; exact HBI.out w1 tv1 r)
      clear hqs hq
      go_wp2_with fail
      refine (HB.out _ _ HG2.out.rd).mono ?_
      rintro e w3 ⟨⟨v3, rfl⟩, tv3, hg3⟩
      have HG3 := Lib.hid (HG2.out.trans hg3)
      clear hg3
      go_wp2_with fail
      refine wp_goto ?_
      exact ⟨rfl, tv3, ex_u11 _ _ (by kernel_rfl) _ HG3.out⟩
    | false =>
      have HN1 := Lib.hid (show ¬ s.peek = lgPre from fun h => of_decide_eq_false HD1.out.symm (HQ.out.symm.trans h))
      go_wp2_with fail
      refine wp_region_any (by kernel_rfl) ?_
      change wpAny _ _ _ _ _ _ _ (World.drew _)
      refine wpAny_of_held (S := fun w' => Go12 P w tv w' tv1 (s.next) ∧ Tp w' P tv1 (w.heap.size) #[.int .i64 0, .string ⟨#[]⟩, .string ⟨#[]⟩, .string ⟨#[]⟩] 33 ∧ Tp w' P tv1 (K) #[.int .i64 q1, .string ⟨q2.toArray⟩] 47) _ _ _ _ ?_
      have hS : (fun w' => Go12 P w tv w' tv1 (s.next) ∧ Tp w' P tv1 (w.heap.size) #[.int .i64 0, .string ⟨#[]⟩, .string ⟨#[]⟩, .string ⟨#[]⟩] 33 ∧ Tp w' P tv1 (K) #[.int .i64 q1, .string ⟨q2.toArray⟩] 47) _ := ⟨HG2.out.below (below_drew1 _), HR2.out.go ((Go12.refl HG2.out.rd).below (below_drew1 _)), HK2.out.go ((Go12.refl HG2.out.rd).below (below_drew1 _))⟩
      refine wpAnyH_take (i := 0) (oi := ⟨some 16, _, _, _, _, _⟩) (v := ?_) rfl (by kernel_rfl) (by kernel_rfl) (by kernel_rfl) (fun _ _ _ h => h) (Or.inl ⟨by simp only [Region.wanted], ?_⟩) hS ?_
      rotate_left
      · intro wz hSw; obtain ⟨-, k0, k1, -, -⟩ := hSw.2.2.two
        clear hSw
        go_simp
        first | done | with_reducible rfl
      try simp only [Act.put, List.setIfInBounds_toArray, List.set_cons_zero, List.set_cons_succ]
      refine wpAnyH_ready (rs := [1]) (by kernel_rfl) (by simp) ?_
      refine AllReadyH.cons (o := ⟨some 17, _, _, _, _, _⟩) rfl (fun K hK => ?_) AllReadyH.nil
      go_simp
      refine (HLB.out _).mono ?_
      rintro e wq ⟨rfl, hbq⟩
      have HG3 := Lib.hid ((HG2.out.below (below_drew1 _)).below hbq)
      have HR3 := Lib.hid (HR2.out.go (((Go12.refl HG2.out.rd).below (below_drew1 _)).below hbq))
      have HK3 := Lib.hid (HK2.out.go (((Go12.refl HG2.out.rd).below (below_drew1 _)).below hbq))
      clear hbq
      refine hK.out _ _ (⟨HG3.out, HR3.out, HK3.out⟩) (fun hS => ?_)
      clear hK K
      try simp only [Act.put, List.setIfInBounds_toArray, List.set_cons_zero, List.set_cons_succ]
      refine wpAnyH_take (i := 2) (oi := ⟨some 18, _, _, _, _, _⟩) (v := ?_) rfl (by kernel_rfl) (by kernel_rfl) (by kernel_rfl) (fun _ _ _ h => h) (Or.inl ⟨by simp only [Region.wanted], ?_⟩) hS ?_
      rotate_left
      · intro wz hSw
        clear hSw
        go_simp
        first | done | with_reducible rfl | exact HIF2.out wz
      try simp only [Act.put, List.setIfInBounds_toArray, List.set_cons_zero, List.set_cons_succ]
      refine wpAnyH_take (i := 3) (oi := ⟨some 15, _, _, _, _, _⟩) (v := ?_) rfl (by kernel_rfl) (by kernel_rfl) (by kernel_rfl) (fun _ _ _ h => h) (Or.inl ⟨by simp only [Region.wanted], ?_⟩) hS ?_
      rotate_left
      · intro wz hSw
        clear hSw
        go_simp
        first | done | with_reducible rfl
      try simp only [Act.put, List.setIfInBounds_toArray, List.set_cons_zero, List.set_cons_succ]
      refine wpAnyH_done (by kernel_rfl) ?_ _
      clear hS
      clear HG2 HR2 HK2
      cases d2 with
      | true =>
        have hqs : s.peek = lgBase := HQ.out.trans (of_decide_eq_true HD2.out.symm)
        have hq : Q = { resdE s.next with base := resdT s.next } := HQS.out.trans (st_base _ _ hqs)
        have HQB := Lib.hid hq
        have hrz := resd_size HI.out.next
        obtain ⟨Z, hZ⟩ : ∃ Z, Z = resdT s.next := ⟨_, rfl⟩
        have HB := Lib.hid HRE.out
        rw [← hZ] at HB hrz
        have HZ := Lib.hid (And.intro hZ hrz)
        clear hqs hq hZ hrz
        go_wp2_with fail
        refine (HB.out _ _ HG3.out.rd).mono ?_
        rintro e w4 ⟨rfl, tv4, hg4⟩
        have HG4 := Lib.hid (HG3.out.trans (hg4.trans (hg4.rd.bases Z HZ.out.2)))
        obtain ⟨rv4, -, -, b1, -, -, -, -, -⟩ := hg4.rd.open
        have y1 := hg4.rd.frozen 1
        have HGQ := Lib.hid (show Go12 P w tv (w4.setCell ⟨P.r, 1, none⟩ (.string Z)) tv4 Q from by rw [HQB.out, ← HZ.out.1]; exact HG4.out)
        clear hg4
        go_wp2_with fail
        refine wp_goto ?_
        exact ⟨rfl, tv4, ex_u11 _ _ (by kernel_rfl) _ HGQ.out⟩
      | false =>
        have HN2 := Lib.hid (show ¬ s.peek = lgBase from fun h => of_decide_eq_false HD2.out.symm (HQ.out.symm.trans h))
        go_wp2_with fail
        refine wp_region_any (by kernel_rfl) ?_
        change wpAny _ _ _ _ _ _ _ (World.drew _)
        refine wpAny_of_held (S := fun w' => Go12 P w tv w' tv1 (s.next) ∧ Tp w' P tv1 (w.heap.size) #[.int .i64 0, .string ⟨#[]⟩, .string ⟨#[]⟩, .string ⟨#[]⟩] 33 ∧ Tp w' P tv1 (K) #[.int .i64 q1, .string ⟨q2.toArray⟩] 47) _ _ _ _ ?_
        have hS : (fun w' => Go12 P w tv w' tv1 (s.next) ∧ Tp w' P tv1 (w.heap.size) #[.int .i64 0, .string ⟨#[]⟩, .string ⟨#[]⟩, .string ⟨#[]⟩] 33 ∧ Tp w' P tv1 (K) #[.int .i64 q1, .string ⟨q2.toArray⟩] 47) _ := ⟨HG3.out.below (below_drew1 _), HR3.out.go ((Go12.refl HG3.out.rd).below (below_drew1 _)), HK3.out.go ((Go12.refl HG3.out.rd).below (below_drew1 _))⟩
        refine wpAnyH_take (i := 0) (oi := ⟨some 25, _, _, _, _, _⟩) (v := ?_) rfl (by kernel_rfl) (by kernel_rfl) (by kernel_rfl) (fun _ _ _ h => h) (Or.inl ⟨by simp only [Region.wanted], ?_⟩) hS ?_
        rotate_left
        · intro wz hSw; obtain ⟨-, k0, k1, -, -⟩ := hSw.2.2.two
          clear hSw
          go_simp
          first | done | with_reducible rfl
        try simp only [Act.put, List.setIfInBounds_toArray, List.set_cons_zero, List.set_cons_succ]
        refine wpAnyH_ready (rs := [1]) (by kernel_rfl) (by simp) ?_
        refine AllReadyH.cons (o := ⟨some 26, _, _, _, _, _⟩) rfl (fun K hK => ?_) AllReadyH.nil
        go_simp
        refine (HSB.out _).mono ?_
        rintro e wq ⟨rfl, hbq⟩
        have HG4 := Lib.hid ((HG3.out.below (below_drew1 _)).below hbq)
        have HR4 := Lib.hid (HR3.out.go (((Go12.refl HG3.out.rd).below (below_drew1 _)).below hbq))
        have HK4 := Lib.hid (HK3.out.go (((Go12.refl HG3.out.rd).below (below_drew1 _)).below hbq))
        clear hbq
        refine hK.out _ _ (⟨HG4.out, HR4.out, HK4.out⟩) (fun hS => ?_)
        clear hK K
        try simp only [Act.put, List.setIfInBounds_toArray, List.set_cons_zero, List.set_cons_succ]
        refine wpAnyH_take (i := 2) (oi := ⟨some 27, _, _, _, _, _⟩) (v := ?_) rfl (by kernel_rfl) (by kernel_rfl) (by kernel_rfl) (fun _ _ _ h => h) (Or.inl ⟨by simp only [Region.wanted], ?_⟩) hS ?_
        rotate_left
        · intro wz hSw
          clear hSw
          go_simp
          first | done | with_reducible rfl | exact HIF3.out wz
        try simp only [Act.put, List.setIfInBounds_toArray, List.set_cons_zero, List.set_cons_succ]
        refine wpAnyH_take (i := 3) (oi := ⟨some 24, _, _, _, _, _⟩) (v := ?_) rfl (by kernel_rfl) (by kernel_rfl) (by kernel_rfl) (fun _ _ _ h => h) (Or.inl ⟨by simp only [Region.wanted], ?_⟩) hS ?_
        rotate_left
        · intro wz hSw
          clear hSw
          go_simp
          first | done | with_reducible rfl
        try simp only [Act.put, List.setIfInBounds_toArray, List.set_cons_zero, List.set_cons_succ]
        refine wpAnyH_done (by kernel_rfl) ?_ _
        clear hS
        clear HG3 HR3 HK3
        cases d3 with
        | true =>
          have hqs : s.peek = sg [91] := HQ.out.trans (of_decide_eq_true HD3.out.symm)
          have hq := HQS.out.trans (st_brk P.lab n hqs)
          have hld := len_down s.next
          have hlen := Nat.le_trans ((len_all P.lab n).2.2.1 s.next.down) hld
          have hxo := brk_ok HLAB.out n s.next.down
          obtain ⟨Y, hY⟩ : ∃ Y, Y = brkP P.lab n s.next.down := ⟨_, rfl⟩
          rw [← hY] at hq hlen hxo
          have hB : ∀ w1 tv1, RdT w1 P tv1 s.next.down → Calls Tryz.prog 23 #[.pointer (some ⟨P.r, 0, none⟩)] w1 (To12 P w1 tv1 Y.1.val Y.2) := fun w1 tv1 r => by
            rw [hY]
            exact (c12 n).brk w1 P tv1 _ r (by have := HN.out; omega)
          obtain ⟨⟨xk, xs, xl, xt⟩, YS⟩ := Y
          dsimp only at hq hB hlen hxo
          have hdc := fun w1 tv1 (r : RdT w1 P tv1 s.next) => tdeep_brk r ⟨xk, xs, xl, xt⟩ YS hB
          unfold Tm.val at hdc
          dsimp only at hdc
          have HDD := Lib.hid hdc
          have HXO := Lib.hid hxo
          have HLE := Lib.hid (show YS.up.len ≤ s.next.len from by rw [len_up]; exact hlen)
          have HQY := Lib.hid hq
          clear hdc hB hY hqs hq hld hlen hxo
          go_wp2_with fail
          refine (HDD.out _ _ HG4.out.rd).mono ?_
          rintro e w5 ⟨rfl, tv5, hg5⟩
          have HG5 := Lib.hid (HG4.out.trans hg5)
          have HR5 := Lib.hid (HR4.out.go hg5)
          have HF5 := Lib.hid (HG5.out.temp4 HR5.out (.int .i64 xk) (.string xs) (.string xl) (.string xt) (Nat.le_refl _))
          obtain ⟨t0, t1, t2, t3, t4, y1, y2, y3, y4⟩ := HR5.out.four
          have hpk := tpeek HF5.out.1.rd
          obtain ⟨d4, hd4⟩ : ∃ d, d = decide (YS.up.peek = sg [46]) := ⟨_, rfl⟩
          have heq := fun w => equal_tokB YS.up.peek 9 ⟨#[46]⟩ w
          rw [show decide (YS.up.peek = (9, (⟨#[46]⟩ : ByteArray).data.toList)) = d4 from hd4.symm] at heq
          obtain ⟨p1, p2, hp⟩ : ∃ p1 p2, YS.up.peek = (p1, p2) := ⟨_, _, rfl⟩
          rw [hp] at hpk heq
          unfold tokV at hpk
          dsimp only at hpk heq
          have HPE := Lib.hid hpk
          have HD4 := Lib.hid hd4
          clear hg5 hpk hd4 hp
          go_wp2_with fail
          generalize World.setCell (World.setCell (World.setCell (World.setCell w5 _ _) _ _) _ _) _ _ = w6 at HF5 HPE ⊢
          refine (HPE.out).mono ?_
          rintro e w7 ⟨rfl, tv7, hg7⟩
          have HG7 := Lib.hid (HF5.out.1.trans hg7)
          have HR7 := Lib.hid (HF5.out.2.go hg7)
          clear hg7 t0 t1 t2 t3 t4 y1 y2 y3 y4
          go_wp2_with fail
          refine (HSD.out _).mono ?_
          rintro e w8 ⟨rfl, hb8⟩
          have HG8 := Lib.hid (HG7.out.below hb8)
          have HR8 := Lib.hid (HR7.out.go ((Go12.refl HG7.out.rd).below hb8))
          clear hb8
          cases d4 with
          | true =>
            have hp4 : YS.up.peek = sg [46] := of_decide_eq_true HD4.out.symm
            have hq : Q = YS.up := HQY.out.trans (if_pos hp4)
            have HGQ := Lib.hid (show Go12 P w tv w8 tv7 Q from by rw [hq]; exact HG8.out)
            clear hp4 hq
            go_wp2_with fail
            refine wp_goto ?_
            exact ⟨rfl, tv7, ex_u11 _ _ (by kernel_rfl) _ HGQ.out⟩
          | false =>
            have hp4 : ¬ YS.up.peek = sg [46] := of_decide_eq_false HD4.out.symm
            have HQV := Lib.hid (HQY.out.trans (if_neg hp4))
            clear hp4
            have hvb := (c12 n).verb
            have HVB := Lib.hid (fun w1 tv1 (r : RdT w1 P tv1 YS.up) => hvb w1 P tv1 YS.up ⟨xk, xs, xl, xt⟩ r HXO.out (by have := HLE.out; have := HN.out; omega))
            rw [← HQV.out] at HVB
            unfold Tm.val at HVB
            dsimp only at HVB
            clear hvb
            obtain ⟨t0, t1, t2, t3, t4, -, -, -, -⟩ := HR8.out.four
            go_wp2_with fail
            refine (HVB.out _ _ HG8.out.rd).mono ?_
            rintro e w9 ⟨⟨v9, rfl⟩, tv9, hg9⟩
            have HG9 := Lib.hid (HG8.out.trans hg9)
            clear hg9 t0 t1 t2 t3 t4
            go_wp2_with fail
            go_step3
            go_wp2_with fail
            refine (HND.out _ _ _ HG9.out.rd).mono ?_
            rintro e wz ⟨⟨vz, rfl⟩, tvz, hgz⟩
            have HGZ := Lib.hid (HG9.out.trans hgz)
            clear hgz
            go_wp2_with fail
            exact bodyPost_end (results_none rfl _ _ _) rfl ⟨⟨_, rfl⟩, tvz, HGZ.out⟩
        | false =>
          have HN3 := Lib.hid (show ¬ s.peek = sg [91] from fun h => of_decide_eq_false HD3.out.symm (HQ.out.symm.trans h))
          have hq := HQS.out.trans (st_node P.lab n HN1.out HN2.out HN3.out)
          have hlen := (len_all P.lab n).2.1 s.peek s.next
          have hxo := node_ok HLAB.out n s.peek HI.out.next (by have := HPK.out; exact this)
          have hB : ∀ w1 tv1, RdT w1 P tv1 s.next → Calls Tryz.prog 25 #[.pointer (some ⟨P.r, 0, none⟩), tokV s.peek] w1 (To12 P w1 tv1 (nodeP P.lab n s.peek s.next).1.val (nodeP P.lab n s.peek s.next).2) := fun w1 tv1 r => (c12 n).node w1 P tv1 s.next s.peek r (by have := HPK.out; exact this) (by have := HN.out; omega) (fun _ => by have := HN.out; omega)
          obtain ⟨Y, hY⟩ : ∃ Y, Y = nodeP P.lab n s.peek s.next := ⟨_, rfl⟩
          rw [← hY] at hq hlen hxo hB
          rw [HQ.out] at hB
          obtain ⟨⟨xk, xs, xl, xt⟩, YS⟩ := Y
          dsimp only at hq hB hlen hxo
          unfold Tm.val tokV at hB
          dsimp only at hB
          have HB := Lib.hid hB
          have HXO := Lib.hid hxo
          have HLE := Lib.hid hlen
          have HQV := Lib.hid hq
          obtain ⟨k9, k0, k1, -, -⟩ := HK4.out.two
          clear hB hY hq hlen hxo
          have hvb := (c12 n).verb
          have HVB := Lib.hid (fun w1 tv1 (r : RdT w1 P tv1 YS) => hvb w1 P tv1 YS ⟨xk, xs, xl, xt⟩ r HXO.out (by have := HLE.out; have := HN.out; omega))
          rw [← HQV.out] at HVB
          unfold Tm.val at HVB
          dsimp only at HVB
          clear hvb
          go_wp2_with fail
          refine (HB.out _ _ HG4.out.rd).mono ?_
          rintro e w5 ⟨rfl, tv5, hg5⟩
          have HG5 := Lib.hid (HG4.out.trans hg5)
          have HR5 := Lib.hid (HR4.out.go hg5)
          have HF5 := Lib.hid (HG5.out.temp4 HR5.out (.int .i64 xk) (.string xs) (.string xl) (.string xt) (Nat.le_refl _))
          obtain ⟨t0, t1, t2, t3, t4, y1, y2, y3, y4⟩ := HR5.out.four
          clear hg5 k9 k0 k1
          go_wp2_with fail
          generalize World.setCell (World.setCell (World.setCell (World.setCell w5 _ _) _ _) _ _) _ _ = w6 at HF5 ⊢
          refine (HVB.out _ _ HF5.out.1.rd).mono ?_
          rintro e w9 ⟨⟨v9, rfl⟩, tv9, hg9⟩
          have HG9 := Lib.hid (HF5.out.1.trans hg9)
          clear hg9 t0 t1 t2 t3 t4 y1 y2 y3 y4
          go_wp2_with fail
          go_step3
          go_wp2_with fail
          refine (HND.out _ _ _ HG9.out.rd).mono ?_
          rintro e wz ⟨⟨vz, rfl⟩, tvz, hgz⟩
          have HGZ := Lib.hid (HG9.out.trans hgz)
          clear hgz
          go_wp2_with fail
          exact bodyPost_end (results_none rfl _ _ _) rfl ⟨⟨_, rfl⟩, tvz, HGZ.out⟩
  · intro a wx hJ
    obtain ⟨tvx, u, rfl, hg⟩ := hJ
    have HGX := Lib.hid hg
    clear hg
    go_wp2_with fail
    refine (HND.out _ _ _ HGX.out.rd).mono ?_
    rintro e wz ⟨⟨vz, rfl⟩, tvz, hgz⟩
    have HGZ := Lib.hid (HGX.out.trans hgz)
    clear hgz
    go_wp2_with fail
    exact bodyPost_end (results_none rfl _ _ _) rfl ⟨⟨_, rfl⟩, tvz, HGZ.out⟩
end Go.Proofs.YtefkppeicmipbaaGreatDoor
/- Triples as text: Parse. -/
namespace Go.Proofs.YtefkppeicmipbaaGreatDoor
open Go.RowKit Go.Shelf Go.Maps
set_option maxRecDepth 100000
set_option linter.unusedVariables false
set_option linter.unusedSimpArgs false
theorem tw_len (p : UInt8 → Bool) (l : List UInt8) : (l.takeWhile p).length + (l.dropWhile p).length = l.length := by
  rw [← List.length_append, List.takeWhile_append_dropWhile]
theorem td_len (n : Nat) (l : List UInt8) : (l.take n).length + (l.drop n).length = l.length := by
  rw [← List.length_append, List.take_append_drop]
theorem text_sum (q : UInt8) : ∀ (n : Nat) (l : List UInt8) {p : List UInt8 × List UInt8}, l.length ≤ n → textL11 q l = some p → p.1.length + p.2.length ≤ l.length
  | _, [], p, _, h => by cases h
  | 0, c :: r, p, hn, h => by simp at hn
  | n + 1, c :: r, p, hn, h => by
    have hn' : r.length ≤ n := by simpa using hn
    unfold textL11 at h
    split at h
    · cases h; simp
    · split at h
      · cases h
      · split at h
        · cases r with
          | nil => cases h
          | cons d r' =>
            dsimp only at h
            split at h
            · cases h
            · obtain ⟨p', hp, rfl⟩ := Option.map_eq_some_iff.1 h
              have hl : r'.length ≤ n := by simp at hn'; omega
              have := text_sum q n r' hl hp
              simp; omega
        · obtain ⟨p', hp, rfl⟩ := Option.map_eq_some_iff.1 h
          have := text_sum q n r hn' hp
          simp; omega
theorem token_sum {c : UInt8} {r : List UInt8} {t : Tok} {z : List UInt8} (h : tokenL c r = some (t, z)) : t.2.length + z.length ≤ r.length + 1 := by
  unfold tokenL at h
  split at h
  · cases h; have := tw_len refC r; simp only [List.length_drop]; omega
  · split at h
    · obtain ⟨p, hp, he⟩ := Option.map_eq_some_iff.1 h
      cases he
      have := text_sum c _ r (Nat.le_refl _) hp
      dsimp only; omega
    · split at h
      · cases h; have := tw_len nameC (r.drop 1); rw [List.length_drop] at this; dsimp only; omega
      · split at h
        · cases h; have := tw_len nameC r; dsimp only; omega
        · split at h
          · cases h; have := tw_len spokC r; dsimp only; omega
          · split at h
            · cases h; have := td_len (numN (c :: r)) (c :: r); rw [List.length_cons] at this; dsimp only; omega
            · split at h
              · split at h
                · rename_i n hn
                  cases h; have := td_len n (c :: r); rw [List.length_cons] at this; dsimp only; omega
                · split at h
                  · cases h; have := tw_len nameC (c :: r); rw [List.length_cons] at this; dsimp only; omega
                  · cases h
              · unfold signL at h
                obtain ⟨y, hy, he⟩ := Option.map_eq_some_iff.1 h
                have hm := List.find?_some hy
                have hp : y.length ≤ (c :: r).length := by
                  have : y.isPrefixOf (c :: r) = true := hm
                  exact (List.isPrefixOf_iff_prefix.1 this).length_le
                cases he
                rw [List.length_cons] at hp
                rw [List.length_drop, List.length_cons]; dsimp only; omega
theorem tok_msr : ∀ (n : Nat) (l : List UInt8) (k : List Tok), tokL n l = some k → msr k ≤ 9 * l.length ∧ k.length ≤ l.length
  | 0, l, k, h => by rw [tokL] at h; cases h
  | n + 1, l, k, h => by
    rw [tokL] at h
    have hpl := past_len false l
    split at h
    · cases h; simp [msr]
    · rename_i c r hp
      rw [hp, List.length_cons] at hpl
      split at h
      · cases h
      · rename_i t z ht
        obtain ⟨k', hk, rfl⟩ := Option.map_eq_some_iff.1 h
        have h1 := tok_msr n z k' hk
        have h2 := token_sum ht
        have h3 := token_len ht
        simp only [msr, List.length_cons]
        omega
theorem tokens_msr (l : List UInt8) : msr (tokensL l).1 ≤ 36000 ∧ (tokensL l).1.length ≤ 4000 := by
  unfold tokensL
  split
  · simp [msr]
  · rename_i h
    split
    · simp [msr]
    · rename_i k hk
      have := tok_msr _ _ _ hk
      dsimp only; omega
theorem len_bind (s : St) : (bindP s).len ≤ s.len := by
  unfold bindP
  dsimp only
  refine Nat.le_trans (resd_pre _).2 ?_
  split
  · exact len_next s
  · exact Nat.le_trans (len_fail _ 6) (len_next s)
theorem len_stmt (lab : ByteArray) (n : Nat) {s : St} (h : s.rest ≠ []) : ((stmtP lab n s).need [46]).len + 1 ≤ s.len := by
  have h1 := len_ne h
  refine Nat.le_trans (Nat.succ_le_succ (Nat.le_trans (len_need _ _) ?_)) h1
  obtain ⟨h2, h3, h4, h5, h6, h7⟩ := len_all lab n
  unfold stmtP
  split
  · exact len_bind _
  · split
    · exact (resd_pre s.next).2
    · split
      · have h8 := Nat.le_trans (h4 s.next.down) (len_down s.next)
        split
        rename_i b s' he
        rw [he] at h8
        split
        · exact h8
        · exact Nat.le_trans (h5 _ _) h8
      · have h8 := h3 s.peek s.next
        split
        rename_i b s' he
        rw [he] at h8
        exact Nat.le_trans (h5 _ _) h8
theorem tnumbered (label : ByteArray) (w : World) : Calls Tryz.prog 10 #[.string label] w fun e w' => e = .returned (.func (.func 15) #[] #[.pointer (some ⟨w.heap.size + 1, 0, none⟩), .pointer (some ⟨w.heap.size, 0, none⟩)]) ∧ w' = (w.alloc (.cells #[.string label] 9)).alloc (.cells #[.int .i64 0] 3) := by
  have hmf : ∀ (f : Nat) (a b : Array Value) (w : World), (Instr.makeFunc (.func f) a b).run Tryz.prog w = .ok (.func (.func f) a b) w := fun f a b w => rfl
  go_enter Tryz.func10, Tryz.ntmps10
  go_wp2_with fail
  go_ret
  exact ⟨rfl, rfl⟩
/-- A row of tokens that is not empty: where it lies. -/
theorem OwK.at12 {w : World} {base : Nat} {ao : Option Addr} {n cap : Nat} {l : List Tok} (h : OwK w base (.slice ao n cap) l) (hl : 0 < l.length) :
    ∃ g, ao = some ⟨g, 0, none⟩ ∧ base ≤ g ∧ g < w.heap.size ∧ ∀ j t, l[j]? = some t → w.cell? ⟨g, 2 * j, none⟩ = some (.int .i64 t.1) ∧ w.cell? ⟨g, 2 * j + 1, none⟩ = some (.string ⟨t.2.toArray⟩) := by
  rcases h.2 with ⟨h1, h2⟩ | ⟨g, cap', cur, h1, h2, h3, k⟩
  · omega
  · cases h1
    have hc := h.cells (g := g) rfl
    refine ⟨g, rfl, (h.lt g rfl).1, (h.lt g rfl).2, fun j t hj => ?_⟩
    have key : ∀ (l : List Tok) (j : Nat) (t : Tok), l[j]? = some t → (kcells l)[2 * j]? = some (.int .i64 t.1) ∧ (kcells l)[2 * j + 1]? = some (.string ⟨t.2.toArray⟩) := by
      intro l
      induction l with
      | nil => intro j t h; cases h
      | cons x xs ih =>
        intro j t h
        have e : kcells (x :: xs) = .int .i64 x.1 :: .string ⟨x.2.toArray⟩ :: kcells xs := rfl
        cases j with
        | zero => cases h; rw [e]; exact ⟨rfl, rfl⟩
        | succ j =>
          have := ih j t h
          rw [e, show 2 * (j + 1) = (2 * j) + 1 + 1 by omega, show (2 * j) + 1 + 1 + 1 = (2 * j + 1) + 1 + 1 by omega]
          simpa using this
    obtain ⟨k1, k2⟩ := key l j t hj
    have d1 := hc _ _ k1
    have d2 := hc _ _ k2
    rw [Addr.add_mid, Nat.zero_add] at d1 d2
    exact ⟨d1, d2⟩
/-- What Parse answers, as values. -/
def TurTo (R : List Tri3 × Int) (w0 : World) (e : Ending) (w' : World) : Prop :=
  ∃ ao cap, e = .returned (.tuple #[.slice ao R.1.length cap, .int .i64 R.2]) ∧ Below w0.heap.size w0 w' ∧ OwR w' w0.heap.size (.slice ao R.1.length cap) R.1
/-- A reader as Parse makes it. -/
theorem RdT.made {w : World} {base label : ByteArray} {k : List Tok} {rv : Value} {tk : Nat} (hk : TkAt w tk rv k) (htk : tk < w.heap.size ∨ k = []) (ht : TabP w) (hb : base.size + msr k ≤ 90000) (hc : k.length ≤ 90000) (hl : label.size ≤ 1000) :
    ∃ P : Pl, P.r = w.heap.size + 1 + 1 + 1 ∧ P.nb = w.heap.size + 1 + 1 ∧ P.lb = w.heap.size + 1 ∧ P.pm = w.heap.size ∧ P.lab = label ∧ P.B = w.heap.size + 4 ∧
      RdT ((((w.alloc (.map #[] 0)).alloc (.cells #[.string label] 9)).alloc (.cells #[.int .i64 0] 3)).alloc (.cells #[rv, .string base, .map (some w.heap.size), .func (.func 15) #[] #[.pointer (some ⟨w.heap.size + 1 + 1, 0, none⟩), .pointer (some ⟨w.heap.size + 1, 0, none⟩)], .int .i64 0, .slice none 0 0, .int .i64 0] 44)) P (.slice none 0 0) ⟨k, base, [], 0, 0, [], 0⟩ := by
  have hgt : 5 ≤ w.heap.size := by have := ht.lt; omega
  generalize hcs : #[rv, .string base, .map (some w.heap.size), .func (.func 15) #[] #[.pointer (some ⟨w.heap.size + 1 + 1, 0, none⟩), .pointer (some ⟨w.heap.size + 1, 0, none⟩)], .int .i64 0, .slice none 0 0, .int .i64 0] = cs
  have hb4 : Below w.heap.size w ((((w.alloc (.map #[] 0)).alloc (.cells #[.string label] 9)).alloc (.cells #[.int .i64 0] 3)).alloc (.cells cs 44)) := ((((Below.refl w.heap.size w).alloc (Nat.le_refl _) _).alloc (by simp) _).alloc (by simp; omega) _).alloc (by simp; omega) _
  have z1 : (w.alloc (.map #[] 0)).heap.size = w.heap.size + 1 := by simp
  have z2 : ((w.alloc (.map #[] 0)).alloc (.cells #[.string label] 9)).heap.size = w.heap.size + 1 + 1 := by simp
  have z3 : (((w.alloc (.map #[] 0)).alloc (.cells #[.string label] 9)).alloc (.cells #[.int .i64 0] 3)).heap.size = w.heap.size + 1 + 1 + 1 := by simp
  have z4 : ((((w.alloc (.map #[] 0)).alloc (.cells #[.string label] 9)).alloc (.cells #[.int .i64 0] 3)).alloc (.cells cs 44)).heap.size = w.heap.size + 4 := by simp
  have m := Moved.of_below hb4 (fun _ => False)
  have al : ∀ (x : World) (o : Obj), Moved (fun _ => False) x (x.alloc o) := fun x o => (Moved.refl _ _).alloc o
  obtain ⟨tk2, hk2, ht2⟩ : ∃ tk2, TkAt w tk2 rv k ∧ (tk2 < w.heap.size ∨ (k = [] ∧ tk2 = w.heap.size + 1)) := by
    rcases htk with h | h
    · exact ⟨tk, hk, .inl h⟩
    · refine ⟨w.heap.size + 1, ?_, .inr ⟨h, rfl⟩⟩
      obtain ⟨ao, cap, e1, e2, e3, -⟩ := hk
      exact ⟨ao, cap, e1, e2, e3, .inl h⟩
  have hS := (Sm.made (P := Tryz.prog) (k := 9) w)
  have hS2 := ((hS.moved (al _ (.cells #[.string label] 9)) id).moved (al _ (.cells #[.int .i64 0] 3)) id).moved (al _ (.cells cs 44)) id
  have hL := ((Blk.new (w.alloc (.map #[] 0)) #[.string label] 9).alloc (.cells #[.int .i64 0] 3)).alloc (.cells cs 44)
  have hN := (Blk.new ((w.alloc (.map #[] 0)).alloc (.cells #[.string label] 9)) #[.int .i64 0] 3).alloc (.cells cs 44)
  have hR := Blk.new (((w.alloc (.map #[] 0)).alloc (.cells #[.string label] 9)).alloc (.cells #[.int .i64 0] 3)) cs 44
  rw [z1] at hL
  rw [z2] at hN
  rw [z3] at hR
  refine ⟨⟨w.heap.size + 1 + 1 + 1, w.heap.size + 1 + 1, w.heap.size + 1, w.heap.size, tk2, w.heap.size + 4, label⟩, rfl, rfl, rfl, rfl, rfl, rfl, ?_⟩
  refine ⟨⟨rv, hk2.moved m id, ?_⟩, hN, hL, ?_, OwR.nil _ _, ⟨hb, (fun p h => by simp at h), by simpa using hc, Nat.zero_le _, (fun h => absurd rfl h)⟩, ?_, ?_, ?_, hl, ht.moved m id, ?_⟩
  · rw [← hcs] at hR
    rw [← hcs]
    exact hR
  · exact hS2
  · dsimp only; rcases ht2 with h | h <;> omega
  · rw [z4]; exact Nat.le_refl _
  · dsimp only; rcases ht2 with h | h <;> omega
  · dsimp only; omega
end Go.Proofs.YtefkppeicmipbaaGreatDoor
/- Triples as text: Parse is what the plain words say. -/
namespace Go.Proofs.YtefkppeicmipbaaGreatDoor
open Go.RowKit Go.Shelf Go.Maps
set_option maxRecDepth 100000
set_option linter.unusedVariables false
set_option linter.unusedSimpArgs false
/-- The laid condition, as the walks want it. -/
def LexAt (w : World) : Prop := Tabs w ∧ SigAt w ∧ TabP w
theorem LexAt.below {w w' : World} (h : LexAt w) (hb : Below w.heap.size w w') : LexAt w' := ⟨tabs_below h.1 hb, h.2.1.below hb, h.2.2.moved (Moved.of_below hb (fun _ => False)) id⟩
set_option maxHeartbeats 8000000 in
theorem parse12 (s base label : ByteArray) (hs : s.size ≤ 1000000) (hb : base.size ≤ 50000) (hl : label.size ≤ 1000) (w : World) (hL : LexAt w) :
    Calls Tryz.prog 7 #[.string s, .string base, .string label] w (TurTo (turtleL base label s.data.toList) w) := by
  have HTK := Lib.hid (tokens11 s hs w hL.1 hL.2.1)
  have hms := tokens_msr s.data.toList
  obtain ⟨R, hR⟩ : ∃ R, R = turtleL base label s.data.toList := ⟨_, rfl⟩
  rw [← hR]
  unfold turtleL at hR
  generalize tokensL s.data.toList = T at HTK hms hR
  obtain ⟨k, ek⟩ := T
  dsimp only at HTK hms hR
  have HL := Lib.hid hL
  have HMS := Lib.hid hms
  have HRR := Lib.hid hR
  have HNB := Lib.hid (fun w => tnumbered label w)
  have hmm := @run_makeMap Tryz.prog
  have hsf : ∀ (a : Addr) (f : Fn) (x y : Array Value) (w : World), (store a (.func f x y)).run Tryz.prog w = stored Tryz.prog w a (.func f x y) .plain := fun a f x y w => run_store Tryz.prog w a _ _ rfl
  have HBL := Lib.hid (And.intro hb hl)
  clear hL hms hR hs hb hl
  by_cases he : ek = 0
  rotate_left
  · have heb : (ek != 0) = true := by simpa using he
    have hr : R = ([], ek) := HRR.out.trans (if_pos he)
    subst hr
    clear HRR he
    go_enter Tryz.func7, Tryz.ntmps7
    go_wp2_with fail
    refine HTK.out.mono ?_
    intro e w1 h1
    unfold TksTo at h1
    obtain ⟨ao, cap, rfl, hb1, ho1, hn1⟩ := h1
    have HB1 := Lib.hid hb1
    clear hb1 ho1 hn1
    go_wp2_with fail
    go_ret2
    exact ⟨none, 0, rfl, HB1.out, OwR.nil _ _⟩
  subst he
  obtain ⟨D, hD⟩ : ∃ D, D = docP label (6 * k.length + 12) (k.length + 1) ⟨k, base, [], 0, 0, [], 0⟩ := ⟨_, rfl⟩
  have hr : R = (D.told, D.e) := by rw [HRR.out, hD]; rfl
  subst hr
  have HD := Lib.hid hD
  clear hD HRR
  go_enter Tryz.func7, Tryz.ntmps7
  go_wp2_with fail
  refine HTK.out.mono ?_
  intro e w1 h1
  unfold TksTo at h1
  obtain ⟨ao, cap, rfl, hb1, ho1, hn1⟩ := h1
  have HB1 := Lib.hid hb1
  have htk : ∃ tk, TkAt w1 tk (.slice ao k.length cap) k ∧ (tk < w1.heap.size ∨ k = []) := by
    obtain ⟨ao', cap', e1, e2, e3⟩ := ho1.form
    cases e1
    by_cases hk : k = []
    · exact ⟨0, ⟨_, _, rfl, e2, e3, .inl hk⟩, .inr hk⟩
    · obtain ⟨g, rfl, hg1, hg2, hg3⟩ := ho1.at12 (List.length_pos_iff.2 hk)
      refine ⟨g, ⟨_, _, rfl, e2, e3, .inr ⟨0, rfl, fun j hj => ?_⟩⟩, .inl hg2⟩
      have := hg3 j (k[j]'hj) (List.getElem?_eq_getElem hj)
      rw [Nat.zero_add]
      exact this
  obtain ⟨tk, htk1, htk2⟩ := htk
  have HMD := Lib.hid (RdT.made (base := base) (label := label) htk1 htk2 (HL.out.below hb1).2.2 (by have := HMS.out; have := HBL.out; dsimp only at *; omega) (by have := HMS.out; dsimp only at *; omega) HBL.out.2)
  clear hb1 ho1 hn1 htk1 htk2
  go_wp2_with fail
  refine (HNB.out _).mono ?_
  rintro e w2 ⟨rfl, rfl⟩
  go_wp2_with fail
  obtain ⟨P, hPr, hPn, hPl, hPm, hPlab, hPB, hrd⟩ := HMD.out
  have hw1 := HB1.out.size
  rw [← hPr]
  have HWW := Lib.hid (show Below w.heap.size w ((((w1.alloc (.map #[] 0)).alloc (.cells #[.string label] 9)).alloc (.cells #[.int .i64 0] 3)).alloc (.cells #[.slice ao k.length cap, .string base, .map (some w1.heap.size), .func (.func 15) #[] #[.pointer (some ⟨w1.heap.size + 1 + 1, 0, none⟩), .pointer (some ⟨w1.heap.size + 1, 0, none⟩)], .int .i64 0, .slice none 0 0, .int .i64 0] 44)) from (((HB1.out.alloc hw1 _).alloc (by simp; omega) _).alloc (by simp; omega) _).alloc (by simp; omega) _)
  generalize World.alloc (World.alloc (World.alloc (World.alloc w1 _) _) _) _ = W5 at hrd HWW ⊢
  have HRD := Lib.hid hrd
  have HPP := Lib.hid (show w.heap.size ≤ P.r ∧ w.heap.size ≤ P.nb ∧ w.heap.size ≤ P.pm ∧ w.heap.size ≤ P.B from by omega)
  rw [← hPlab] at HD
  clear hrd hPr hPn hPl hPm hPlab hPB hw1
  go_loopg [] (k.length + 1) (fun g wx => ∃ (s' : St) (tv' : Value) (m : Nat), D = docP P.lab (6 * k.length + 12) m s' ∧ s'.len + 1 ≤ m ∧ m ≤ g ∧ s'.len ≤ k.length ∧ Go12 P W5 (.slice none 0 0) wx tv' s')
  case atStart => exact ⟨_, _, k.length + 1, HD.out, Nat.le_refl _, Nat.le_refl _, Nat.le_refl _, Go12.refl HRD.out⟩
  case round =>
    obtain ⟨s', tv', m, hD, hm, hmg, hlk, hg⟩ := hrel
    obtain ⟨n, rfl⟩ : ∃ n, m = n + 1 := ⟨m - 1, by omega⟩
    obtain ⟨g1, rfl⟩ : ∃ g1, gk = g1 + 1 := ⟨gk - 1, by omega⟩
    obtain ⟨rv, hrv, c0, c1, c2, c3, c4, c5, c6⟩ := hg.rd.open
    have hlt := hg.rd.rlt
    have HG := Lib.hid hg
    have HM := Lib.hid (And.intro hm (And.intro hmg hlk))
    have HDD := Lib.hid hD
    clear hg hm hmg hlk hD c1 c2 c3 c4
    cases hs : s'.rest with
    | nil =>
      have hd : D = s' := by rw [HDD.out, docP, hs]
      subst hd
      obtain ⟨ao2, cap2, rfl, -, -, -⟩ := hrv
      rw [hs] at c0
      obtain ⟨ao3, cap3, hf1, hf2, hf3⟩ := HG.out.rd.told.form
      subst hf1
      clear hs
      go_wp2_with fail
      go_quiet (fail)
      go_wp2_with fail
      go_ret2
      refine ⟨ao3, cap3, rfl, (HWW.out.trans ((HG.out.mv.below (B := w.heap.size) ?_ HWW.out.size))).trans ((draws_t _ _).mono ?_), (HG.out.rd.told.mono HPP.out.2.2.2).below (draws_t _ _)⟩
      · rintro j (h1 | h1 | h1 | h1)
        · have := HPP.out; omega
        · have := HPP.out; omega
        · have := HPP.out; omega
        · cases h1
      · exact Nat.le_trans HWW.out.size HG.out.mv.size
    | cons a r =>
      have hne : s'.rest ≠ [] := by rw [hs]; simp
      have hd : D = docP P.lab (6 * k.length + 12) n ((stmtP P.lab (6 * k.length + 12) s').need [46]) := by rw [HDD.out, docP, hs]
      have hlen := len_stmt P.lab (6 * k.length + 12) hne
      have HST := Lib.hid (tstatement HG.out.rd (6 * k.length + 12) (by have := HM.out; omega) hne)
      obtain ⟨ao2, cap2, rfl, -, -, -⟩ := hrv
      have hpos : 0 < s'.rest.length := by rw [hs]; simp
      have hpi : (0 : Int) < (s'.rest.length : Int) := by omega
      generalize s'.rest.length = L at c0 hpos hpi
      have HDN := Lib.hid (And.intro hd hlen)
      clear hs hne hd hlen hpos
      go_wp2_with fail
      refine (HST.out).mono ?_
      rintro e w6 ⟨⟨v6, rfl⟩, tv6, hg6⟩
      have HG6 := Lib.hid (HG.out.trans hg6)
      clear hg6
      go_wp2_with fail
      go_roundg g1
      case measure => omega
      case rel => exact ⟨_, tv6, n, HDN.out.1, by have := HDN.out.2; have := HM.out; omega, by have := HM.out; omega, by have := HDN.out.2; have := HM.out; omega, HG6.out⟩
end Go.Proofs.YtefkppeicmipbaaGreatDoor
/- Triples as text: the laid condition. -/
namespace Go.Proofs.YtefkppeicmipbaaGreatDoor
open Go.Shelf
open Go.ChangeShapes Go.WideShapes Go.ChangeAt Go.RowKit
set_option linter.unusedVariables false
set_option maxRecDepth 100000
theorem gSig : Tryz.prog.globalNamed "triad/lex.signs" = some 0 := by kernel_rfl
theorem tSig : (Tryz.prog.globals[0]?).map (·.type) = some 69 := by kernel_rfl
theorem sig_of_reads {W : World} (h : Lib.VarReads Tryz.prog W "triad/lex.signs" Rows.laid_triad_lex_signs) : SigAt W := by
  obtain ⟨g0, t0, cs0, f0, p0, hg0, ht0, hv0, hd0⟩ := h
  obtain rfl := Option.some.inj (gSig.symm.trans hg0)
  obtain rfl := Option.some.inj (tSig.symm.trans ht0)
  obtain ⟨xs, m, rfl, hx, hlen, hn, hel⟩ := DataW.trod_array Tryz.underlying69 hd0
  have c1 : Tryz.prog.cellsOf 9 = 1 := by kernel_rfl
  rw [c1] at hel
  have hcell := World.var?_cell hg0 hv0
  have hx1 : (Rows.laid_triad_lex_signs : DataW Unit) = .agg (xs.map fun x => x.1) := by
    have := congrArg (fun x => x.1) hx
    exact this
  have hx2 : (signs11.map fun y => (DataW.lit (.string y) : DataW Unit)) = xs.map fun x => x.1 := by
    have e : (Rows.laid_triad_lex_signs : DataW Unit) = .agg (signs11.map fun y => DataW.lit (.string y)) := rfl
    rw [e] at hx1
    exact DataW.agg.inj hx1
  have key : ∀ j v, sigVals[j]? = some v → W.cell? ⟨0, 0 + j, none⟩ = some v := by
    intro j v hj
    unfold sigVals at hj
    rw [List.getElem?_map] at hj
    obtain ⟨y, hy, rfl⟩ := Option.map_eq_some_iff.1 hj
    have hj26 : j < 26 := (List.getElem?_eq_some_iff.1 hy).1
    have h2 := congrArg (fun l => l[j]?) hx2
    try dsimp only at h2
    rw [List.getElem?_map, List.getElem?_map, hy] at h2
    obtain ⟨x, hxj, hxe⟩ := Option.map_eq_some_iff.1 h2.symm
    have ht := hel j hj26
    rw [hxj] at ht
    obtain ⟨s, hs, hse, -⟩ := DataW.trod_string Tryz.underlying9 ht
    rw [hse] at hxe
    have hsy : s.data.toList = y := by simpa using hxe
    have hsb : s = ⟨y.toArray⟩ := ba_ext hsy
    have q : cs0.toList[j]? = some (.string s) := by
      have := congrArg (fun l => l[0]?) hs
      try dsimp only at this
      rw [List.getElem?_take_of_lt (by decide), List.getElem?_drop] at this
      simpa using this
    rw [Array.getElem?_toList] at q
    rw [Nat.zero_add, hcell, q, hsb]
  exact ⟨World.block_lt_of_cell? W _ (key 0 _ rfl), key⟩
theorem tPow : (Tryz.prog.globals[4]?).map (·.type) = some 120 := by kernel_rfl
theorem pow_of_reads {W : World} (h : Lib.VarReads Tryz.prog W "internal/strconv.uint64pow10" (Lib.tabData .u64 Lib.pow10Tab)) : TabP W := by
  obtain ⟨g, t, cs, fuel, p, hg, ht, hv, hd⟩ := h
  obtain rfl := Option.some.inj (gTabP.symm.trans hg)
  obtain rfl := Option.some.inj (tPow.symm.trans ht)
  have key := Lib.cells_of_tab (n := 20) Tryz.underlying120 Tryz.underlying104 (by kernel_rfl) (by kernel_rfl) hd
  unfold TabP Lib.TabIs
  rw [hv, ← key]
theorem lex_of_laid {W : World} (h : laidMetH Tryz.prog [("math/bits.deBruijn32tab", Rows.laid_math_bits_deBruijn32tab), ("math/bits.deBruijn64tab", Rows.laid_math_bits_deBruijn64tab), ("internal/strconv.uint64pow10", Rows.laid_internal_strconv_uint64pow10), ("unicode/utf8.acceptRanges", Rows.laid_unicode_utf8_acceptRanges), ("triad/lex.signs", Rows.laid_triad_lex_signs), ("unicode/utf8.first", Rows.laid_unicode_utf8_first)] W) : LexAt W := by
  rw [MakeChecks.laidMetH_plain _ _ _ (by kernel_rfl)] at h
  have e1 : (Rows.laid_unicode_utf8_first : DataW Unit) = Lib.firstData := by kernel_rfl
  have e2 : (Rows.laid_unicode_utf8_acceptRanges : DataW Unit) = Lib.acceptData := by kernel_rfl
  have h1 := Lib.laidMet.reads h (n := "unicode/utf8.first") (.tail _ (.tail _ (.tail _ (.tail _ (.tail _ (.head _))))))
  have h2 := Lib.laidMet.reads h (n := "unicode/utf8.acceptRanges") (.tail _ (.tail _ (.tail _ (.head _))))
  have h3 := Lib.laidMet.reads h (n := "triad/lex.signs") (.tail _ (.tail _ (.tail _ (.tail _ (.head _)))))
  have h4 := Lib.laidMet.reads h (n := "internal/strconv.uint64pow10") (.tail _ (.tail _ (.head _)))
  have e4 : (Rows.laid_internal_strconv_uint64pow10 : DataW Unit) = Lib.tabData .u64 Lib.pow10Tab := by kernel_rfl
  rw [e4] at h4
  rw [e1] at h1
  rw [e2] at h2
  exact ⟨utf8Tabs_of_reads (ρ := Tryz.lays197_ren) { Tryz.lays197 with } ⟨by kernel_rfl, by kernel_rfl, by kernel_rfl, by kernel_rfl, by kernel_rfl, by kernel_rfl, by kernel_rfl⟩ h1 h2, sig_of_reads h3, pow_of_reads h4⟩
end Go.Proofs.YtefkppeicmipbaaGreatDoor
