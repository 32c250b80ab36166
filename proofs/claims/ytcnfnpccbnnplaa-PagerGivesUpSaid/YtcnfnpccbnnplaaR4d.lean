/- triadref4's copied: a state of its own. -/
import Derived.Test.YtcnfnpccbnnplaaR4c
namespace Go.Proofs.Ytcnfnpccbnnplaa
open Go.RowKit Go.Maps
set_option maxRecDepth 100000

/-- How many of 1 to k - 1 have a page. -/
def cnt (f : Int → Option ByteArray) : Nat → Nat
  | 0 => 0
  | k + 1 => cnt f k + if 1 ≤ k ∧ (f k).isSome then 1 else 0

/-- A state that is as it may be: its pages lie below 'next', their number is n, they are of 504 bytes. -/
structure PS.Ok (s : PS) : Prop where
  pos : 1 ≤ s.next
  most : s.next ≤ 1000
  sup : ∀ j, (s.f j).isSome = true → 1 ≤ j ∧ j < s.next
  num : s.n = cnt s.f s.next
  long : ∀ j b, s.f j = some b → b.size = 504
  gone : s.gone.length ≤ 1000

theorem cnt_le (f : Int → Option ByteArray) : ∀ k, cnt f k ≤ k
  | 0 => Nat.le_refl _
  | k + 1 => by unfold cnt; have := cnt_le f k; split <;> omega

def partF (f : Int → Option ByteArray) (i : Nat) : Int → Option ByteArray := fun j => if j < i then f j else none

theorem partF_more {f : Int → Option ByteArray} {i : Nat} {s : ByteArray} (h : f i = some s) : (fun j : Int => if j = (i : Int) then some s else partF f i j) = partF f (i + 1) := by
  funext j
  unfold partF
  by_cases e : j = i
  · subst e; rw [if_pos rfl, if_pos (by omega), h]
  · rw [if_neg e]
    by_cases e2 : j < i
    · rw [if_pos e2, if_pos (by omega)]
    · rw [if_neg e2, if_neg (by omega)]
theorem partF_same {f : Int → Option ByteArray} {i : Nat} (h : f i = none) : partF f i = partF f (i + 1) := by
  funext j
  unfold partF
  by_cases e : j = i
  · subst e; rw [if_neg (by omega), if_pos (by omega), h]
  · by_cases e2 : j < i
    · rw [if_pos e2, if_pos (by omega)]
    · rw [if_neg e2, if_neg (by omega)]
theorem partF_none (f : Int → Option ByteArray) (i : Nat) : partF f i i = none := by unfold partF; rw [if_neg (by omega)]
theorem partF_one {s : PS} (h : s.Ok) : partF s.f 1 = fun _ => none := by
  funext j
  unfold partF
  by_cases e : j < ((1 : Nat) : Int)
  · rw [if_pos e]
    cases hf : s.f j with
    | none => rfl
    | some b => have := h.sup j (by rw [hf]; rfl); omega
  · rw [if_neg e]
theorem partF_all {s : PS} (h : s.Ok) : partF s.f s.next = s.f := by
  funext j
  unfold partF
  by_cases e : j < (s.next : Int)
  · rw [if_pos e]
  · rw [if_neg e]
    cases hf : s.f j with
    | none => rfl
    | some b => have := h.sup j (by rw [hf]; rfl); omega
theorem cnt_more {f : Int → Option ByteArray} {i : Nat} {s : ByteArray} (h : f i = some s) (hi : 1 ≤ i) : cnt f (i + 1) = cnt f i + 1 := by
  show cnt f i + _ = _
  rw [if_pos ⟨hi, by rw [h]; rfl⟩]
theorem cnt_same {f : Int → Option ByteArray} {i : Nat} (h : f i = none) : cnt f (i + 1) = cnt f i := by
  show cnt f i + _ = _
  rw [if_neg (by rw [h]; simp)]
  rfl
theorem cnt_one (f : Int → Option ByteArray) : cnt f 1 = 0 := rfl

theorem wp_append_gone {w : World} {o : Oper} {a : Act} {K : Act → World → Prop} {Q : Exit → Act → World → Prop} (s x : Operand)
    (ho : o.op = .call { callee := .builtin .append, args := #[s, x], argTypes := #[44, 44] }) (g : Nat) (hs : a.eval s = .slice (some ⟨g, 0, none⟩) 0 0) (hg : Blk w g #[] 3) (v : Value) (L : List Int) (hx : a.eval x = v) (hv : OwnI w v L) (hL : L.length ≤ 1000)
    (h : ∀ v' w', w'.ownsRow g 3 1 v' L.length (L.map (Value.int .i64)) → w.grownBy w' (some g) → K (a.put o.dst v') w') : o.wp Try.prog a w K Q := by
  have hown : w.ownsRow g 3 1 (.slice (some ⟨g, 0, none⟩) 0 0) 0 [] := ⟨rfl, .inr ⟨g, 0, #[], rfl, Nat.le_refl _, hg, Nat.le_refl _, Nat.zero_le _, rfl, rfl⟩⟩
  obtain ⟨i0, hi, hz0, hz1, hz2⟩ := info_parts Try.infoI
  obtain ⟨h0, h1⟩ := hv
  rcases h1 with ⟨rfl, h1⟩ | ⟨q, cap, cur, rfl, -, hh, h2, h3, h4, h5⟩
  · obtain rfl : L = [] := List.eq_nil_of_length_eq_zero h1
    have h' := h _ w hown (World.grownBy.refl _ _)
    have hrun := run_append_owned_none (P := Try.prog) (w := w) g 44 o.type 3 i0 1 Try.underlying44 hi _ _ _ hown
    unfold Oper.wp
    simp [execOp, ho, resolve, invoke, builtin, hs, hx, hrun, Result.andThen]
    exact h'
  · have hwp := wp_append_own (P := Try.prog) (K := K) (Q := Q) w s x 44 ho g 3 i0 _ 1 8 Try.underlying44 hi hz0 hz1 hz2 rfl (by decide) _ 0 [] hs hown ⟨q, 0, none⟩ L.length cap (L.map (Value.int .i64)) hx (by simp) (fun j u hu => ?_) (fun u hu => ?_) (by simp [maxLen]; omega) (by omega) (by have := hg.lt; omega) (fun v' w' a1 a2 _ => h v' w' (by simpa using a1) a2)
    · exact hwp
    · rw [Addr.add_lit, Nat.zero_add, cell_of_row w q j cur _ (0, 0) hh]
      rw [← h5] at hu
      rw [List.getElem?_take] at hu
      split at hu
      · simpa using hu
      · cases hu
    · obtain ⟨_, _, rfl⟩ := List.mem_map.1 hu
      rfl

set_option maxHeartbeats 4000000 in
theorem copied_any {w : World} {Q : Nat → Prop} {mS gS : Value} {S : PS} (h : PsAt w Q mS gS S) (hok : S.Ok) :
    Calls Try.prog 45 #[.agg #[mS, gS, .int .i64 S.next, .int .i64 S.root]] w fun e w' => ∃ b gv, e = .returned (.agg #[.map (some b), gv, .int .i64 S.next, .int .i64 S.root]) ∧
      Im Try.prog 3 9 w' b S.f S.n ∧ OwnI w' gv S.gone ∧ w.heap.size ≤ b ∧ (∀ g, gv.ownBlock = some g → w.heap.size ≤ g ∧ g ≠ b) ∧ Below w.heap.size w w' := by
  obtain ⟨bS, rfl, -, him, ho, hgo⟩ := h
  obtain ⟨so, sk, rfl, d1, d2⟩ := owns_form ho
  have hmm := @run_makeMap Try.prog
  obtain ⟨N, hN⟩ : ∃ N, N = S.next := ⟨_, rfl⟩
  obtain ⟨G, hG⟩ : ∃ G, G = S.gone.length := ⟨_, rfl⟩
  rw [← hG] at d1 ⊢
  obtain ⟨w3, hw3⟩ : ∃ w3, w3 = ((w.alloc (.cells #[.map (some bS), .slice so G sk, .int .i64 S.next, .int .i64 S.root] 46)).alloc (.cells #[.map none, .slice none 0 0, .int .i64 0, .int .i64 0] 46)).alloc (.map #[] 0) := ⟨_, rfl⟩
  have hs3 : w3.heap.size = w.heap.size + 3 := by rw [hw3]; simp
  have hal : Below w.heap.size w w3 := by
    have a1 : Below w.heap.size w (w.alloc (.cells #[.map (some bS), .slice so G sk, .int .i64 S.next, .int .i64 S.root] 46)) := (Below.refl _ w).alloc (Nat.le_refl _) _
    have a2 := a1.alloc a1.size (.cells #[.map none, .slice none 0 0, .int .i64 0, .int .i64 0] 46)
    rw [hw3]; exact a2.alloc a2.size _
  have b1 : Blk w3 w.heap.size #[.map (some bS), .slice so G sk, .int .i64 S.next, .int .i64 S.root] 46 := by
    rw [hw3]; exact ((Blk.new w _ _).alloc _).alloc _
  have b2 : Blk w3 (w.heap.size + 1) #[.map none, .slice none 0 0, .int .i64 0, .int .i64 0] 46 := by
    have := (Blk.new (w.alloc (.cells #[.map (some bS), .slice so G sk, .int .i64 S.next, .int .i64 S.root] 46)) #[.map none, .slice none 0 0, .int .i64 0, .int .i64 0] 46).alloc (.map #[] 0)
    rw [show (w.alloc (.cells #[.map (some bS), .slice so G sk, .int .i64 S.next, .int .i64 S.root] 46)).heap.size = w.heap.size + 1 by simp] at this
    rw [hw3]; exact this
  have i3 : Im Try.prog 3 9 w3 (w.heap.size + 2) (partF S.f 1) (cnt S.f 1) := by
    rw [partF_one hok, cnt_one]
    have := Im.made (P := Try.prog) (k := 3) (e := 9) ((w.alloc (.cells #[.map (some bS), .slice so G sk, .int .i64 S.next, .int .i64 S.root] 46)).alloc (.cells #[.map none, .slice none 0 0, .int .i64 0, .int .i64 0] 46))
    rw [show ((w.alloc (.cells #[.map (some bS), .slice so G sk, .int .i64 S.next, .int .i64 S.root] 46)).alloc (.cells #[.map none, .slice none 0 0, .int .i64 0, .int .i64 0] 46)).heap.size = w.heap.size + 2 by simp] at this
    rw [hw3]; exact this
  have im3 : Im Try.prog 3 9 w3 bS S.f S.n := him.moved (Moved.of_below hal (fun _ => False)) (fun h => h)
  have hlb := him.lt
  have hpos := hok.pos
  have hmost := hok.most
  have HW3 := Lib.hid hw3
  have HO := Lib.hid ho
  have HOK := Lib.hid hok
  have HN := Lib.hid hN
  have HG := Lib.hid hG
  have HB1 := Lib.hid b1
  have HB2 := Lib.hid b2
  have HIM := Lib.hid im3
  have HAL := Lib.hid hal
  have HS3 := Lib.hid hs3
  have HLB := Lib.hid hlb
  have HI3 := Lib.hid i3
  obtain ⟨rt, hrt⟩ : ∃ y, y = S.root := ⟨_, rfl⟩
  rw [← hN] at hpos hmost HB1 HW3 ⊢
  rw [← hrt] at HB1 HW3 ⊢
  clear hw3 hgo ho hok hN hG b1 b2 im3 hal hs3 hlb i3 him hrt
  go_enter Try.func45, Try.ntmps45
  go_wp2_with fail
  rw [← HW3.out]
  clear HW3
  go_loopw [4, 5, 6] (fun i _ _ wr => ∃ k : Nat, 1 ≤ k ∧ k ≤ N ∧ i = .int .i64 k ∧ Im Try.prog 3 9 wr (w.heap.size + 2) (partF S.f k) (cnt S.f k) ∧ Moved (· = w.heap.size + 2) w3 wr) (fun i _ _ _ => N - (intOf i).toNat)
  case atStart => exact ⟨1, Nat.le_refl _, hpos, rfl, HI3.out, Moved.refl _ _⟩
  case round =>
    obtain ⟨k, hk1, hk2, rfl, hik, hmv⟩ := hrel
    have b1 := HB1.out.moved hmv (by omega)
    have b2 := HB2.out.moved hmv (by omega)
    have c10 : wr.cell? ⟨w.heap.size, 0, none⟩ = some (.map (some bS)) := by rw [b1.cell]; rfl
    have c11 : wr.cell? ⟨w.heap.size, 1, none⟩ = some (.slice so G sk) := by rw [b1.cell]; rfl
    have c12 : wr.cell? ⟨w.heap.size, 2, none⟩ = some (.int .i64 N) := by rw [b1.cell]; rfl
    have c13 : wr.cell? ⟨w.heap.size, 3, none⟩ = some (.int .i64 rt) := by rw [b1.cell]; rfl
    have imw := HIM.out.moved hmv (by have := HLB.out; omega)
    have hwf : (Lit.int .i64 (k : Int)).wf = true := WalkArith.wf_i64 (by omega)
    have hlk := imw.look und_k und_e und_m (zero_e wr) hwf
    by_cases hlt : k < N
    · cases hf : S.f k with
      | none =>
        rw [hf] at hlk
        have HK := Lib.hid hik
        have HM := Lib.hid hmv
        have HF := Lib.hid hf
        have hlt' : (k : Int) < N := by omega
        clear hik hmv imw hwf hf b1 b2
        go_wp2_with fail
        go_roundw
        case rel => exact ⟨k + 1, by omega, by omega, by go_num, by rw [← partF_same HF.out, cnt_same HF.out]; exact HK.out, HM.out⟩
        case measure => simp [intOf]; omega
      | some s =>
        rw [hf] at hlk
        have hlen := HOK.out.long k s hf
        obtain ⟨w4, hup, him4, htu⟩ := hik.store und_k und_e und_m hwf s (by rw [hlen]; simp [maxLen]) (by have := cnt_le S.f k; simp [maxLen]; omega)
        rw [partF_none, partF_more hf, if_neg (by simp), ← cnt_more hf hk1] at him4
        have hm4 := hmv.trans (turned_moved htu) (fun _ h => .inl h)
        have b14 := HB1.out.moved hm4 (by omega)
        have c12' : w4.cell? ⟨w.heap.size, 2, none⟩ = some (.int .i64 N) := by rw [b14.cell]; rfl
        have HK := Lib.hid him4
        have HM := Lib.hid hm4
        have hlt' : (k : Int) < N := by omega
        clear hik hmv imw hwf hf b1 b2 b14 htu him4 hm4
        go_wp2_with fail
        go_roundw
        case rel => exact ⟨k + 1, by omega, by omega, by go_num, HK.out, HM.out⟩
        case measure => simp [intOf]; omega
    · obtain rfl : k = N := by omega
      have HK : Hid (Im Try.prog 3 9 wr (w.heap.size + 2) S.f S.n) := Lib.hid (by
        have := hik
        rw [HN.out, partF_all HOK.out, ← HOK.out.num] at this
        exact this)
      have HM := Lib.hid hmv
      have HB14 := Lib.hid b1
      have HB24 := Lib.hid b2
      clear hik imw hwf hlk hmv b1 b2
      have ha0 : Below wr.heap.size wr (wr.alloc (.cells #[] 3)).drew := ((Below.refl _ wr).alloc (Nat.le_refl _) _).drew
      have hgb : Blk (wr.alloc (.cells #[] 3)).drew wr.heap.size #[] 3 := (Blk.new wr #[] 3).drew
      have b1a := HB14.out.moved (Moved.of_below ha0 (fun _ => False)) (fun h => h)
      have b2a := HB24.out.moved (Moved.of_below ha0 (fun _ => False)) (fun h => h)
      have hka := HK.out.moved (Moved.of_below ha0 (fun _ => False)) (fun h => h)
      have hoa := ((HO.out.moved (Moved.of_below HAL.out (fun _ => False)) (fun _ _ h => h)).moved HM.out (fun q hq e => by have h1 := OwnI.lt HO.out hq; omega)).moved (Moved.of_below ha0 (fun _ => False)) (fun _ _ h => h)
      rw [← HG.out] at hoa
      have hbel : Below w.heap.size w (wr.alloc (.cells #[] 3)).drew := (HAL.out.trans (HM.out.below (fun j hj => by omega) (by have := HS3.out; omega))).trans (ha0.mono (by have := HM.out.size; have := HS3.out; omega))
      have hwrs : w.heap.size + 3 ≤ wr.heap.size := by have := HM.out.size; have := HS3.out; omega
      have HB1A := Lib.hid b1a
      have HB2A := Lib.hid b2a
      have HKA := Lib.hid hka
      have HOA := Lib.hid hoa
      have HBEL := Lib.hid hbel
      have HGB := Lib.hid hgb
      have HWR := Lib.hid hwrs
      have cz1 : (wr.alloc (.cells #[] 3)).drew.cell? ⟨w.heap.size, 1, none⟩ = some (.slice so G sk) := by rw [b1a.cell]; rfl
      have cz2 : (wr.alloc (.cells #[] 3)).drew.cell? ⟨w.heap.size, 2, none⟩ = some (.int .i64 k) := by rw [b1a.cell]; rfl
      have cz3 : (wr.alloc (.cells #[] 3)).drew.cell? ⟨w.heap.size, 3, none⟩ = some (.int .i64 rt) := by rw [b1a.cell]; rfl
      clear ha0 hgb b1a b2a hka hoa hbel hwrs
      go_wp2_with fail
      refine wp_region_any (by kernel_rfl) ?_
      change wpAny _ _ _ _ _ _ _ (World.drew _)
      refine wpAny_of_held (S := fun (w' : World) => w'.cell? ⟨w.heap.size, 1, none⟩ = some (.slice so G sk) ∧ w'.cell? ⟨w.heap.size, 2, none⟩ = some (.int .i64 k) ∧ w'.cell? ⟨w.heap.size, 3, none⟩ = some (.int .i64 rt)) _ _ _ _ ?_
      have hS : (fun (w' : World) => w'.cell? ⟨w.heap.size, 1, none⟩ = some (.slice so G sk) ∧ w'.cell? ⟨w.heap.size, 2, none⟩ = some (.int .i64 k) ∧ w'.cell? ⟨w.heap.size, 3, none⟩ = some (.int .i64 rt)) _ := ⟨c11, c12, c13⟩
      try simp only [Act.put, List.setIfInBounds_toArray, List.set_cons_zero, List.set_cons_succ]
      refine wpAnyH_take (i := 0) (oi := ⟨some 25, _, _, _, _, _⟩) (v := ?_) rfl (by kernel_rfl) (by kernel_rfl) (by kernel_rfl) (fun _ _ _ h => h) (Or.inl ⟨by rfl, ?_⟩) hS ?_
      rotate_left
      · intro wz hSw
        clear hSw
        go_simp
        first | done | with_reducible rfl
      try simp only [Act.put, List.setIfInBounds_toArray, List.set_cons_zero, List.set_cons_succ]
      refine wpAnyH_take (i := 2) (oi := ⟨some 27, _, _, _, _, _⟩) (v := ?_) rfl (by kernel_rfl) (by kernel_rfl) (by kernel_rfl) (fun _ _ _ h => h) (Or.inl ⟨by rfl, ?_⟩) hS ?_
      rotate_left
      · intro wz hSw
        clear hSw
        go_simp
        first | done | with_reducible rfl
      try simp only [Act.put, List.setIfInBounds_toArray, List.set_cons_zero, List.set_cons_succ]
      refine wpAnyH_take (i := 3) (oi := ⟨some 28, _, _, _, _, _⟩) (v := ?_) rfl (by kernel_rfl) (by kernel_rfl) (by kernel_rfl) (fun _ _ _ h => h) (Or.inl ⟨by rfl, ?_⟩) hS ?_
      rotate_left
      · intro wz hSw
        (try dsimp only at hSw)
        (try go_split_ands)
        go_simp
        first | done | with_reducible rfl
      try simp only [Act.put, List.setIfInBounds_toArray, List.set_cons_zero, List.set_cons_succ]
      refine wpAnyH_take (i := 5) (oi := ⟨some 30, _, _, _, _, _⟩) (v := ?_) rfl (by kernel_rfl) (by kernel_rfl) (by kernel_rfl) (fun _ _ _ h => h) (Or.inl ⟨by rfl, ?_⟩) hS ?_
      rotate_left
      · intro wz hSw
        clear hSw
        go_simp
        first | done | with_reducible rfl
      try simp only [Act.put, List.setIfInBounds_toArray, List.set_cons_zero, List.set_cons_succ]
      refine wpAnyH_take (i := 6) (oi := ⟨some 31, _, _, _, _, _⟩) (v := ?_) rfl (by kernel_rfl) (by kernel_rfl) (by kernel_rfl) (fun _ _ _ h => h) (Or.inl ⟨by rfl, ?_⟩) hS ?_
      rotate_left
      · intro wz hSw
        (try dsimp only at hSw)
        (try go_split_ands)
        go_simp
        first | done | with_reducible rfl
      try simp only [Act.put, List.setIfInBounds_toArray, List.set_cons_zero, List.set_cons_succ]
      refine wpAnyH_take (i := 7) (oi := ⟨some 32, _, _, _, _, _⟩) (v := ?_) rfl (by kernel_rfl) (by kernel_rfl) (by kernel_rfl) (fun _ _ _ h => h) (Or.inl ⟨by rfl, ?_⟩) hS ?_
      rotate_left
      · intro wz hSw
        clear hSw
        go_simp
        first | done | with_reducible rfl
      try simp only [Act.put, List.setIfInBounds_toArray, List.set_cons_zero, List.set_cons_succ]
      refine wpAnyH_take (i := 8) (oi := ⟨some 33, _, _, _, _, _⟩) (v := ?_) rfl (by kernel_rfl) (by kernel_rfl) (by kernel_rfl) (fun _ _ _ h => h) (Or.inl ⟨by rfl, ?_⟩) hS ?_
      rotate_left
      · intro wz hSw
        (try dsimp only at hSw)
        (try go_split_ands)
        go_simp
        first | done | with_reducible rfl
      try simp only [Act.put, List.setIfInBounds_toArray, List.set_cons_zero, List.set_cons_succ]
      refine wpAnyH_ready (rs := [1]) (by kernel_rfl) (by simp) ?_
      refine AllReadyH.cons (o := ⟨some 26, _, _, _, _, _⟩) rfl (fun K hK => ?_) AllReadyH.nil
      go_simp
      refine hK.out _ _ (⟨cz1, cz2, cz3⟩) (fun hS => ?_)
      clear hK K
      try simp only [Act.put, List.setIfInBounds_toArray, List.set_cons_zero, List.set_cons_succ]
      refine wpAnyH_ready (rs := [4]) (by kernel_rfl) (by simp) ?_
      refine AllReadyH.cons (o := ⟨some 29, _, _, _, _, _⟩) rfl (fun K hK => ?_) AllReadyH.nil
      rw [if_pos (by rfl)]
      refine wp_append_gone _ _ rfl wr.heap.size rfl HGB.out (.slice so G sk) S.gone rfl HOA.out HOK.out.gone ?_
      intro v6 w6 hr6 hg6
      have hm6 : Moved (· = wr.heap.size) (wr.alloc (.cells #[] 3)).drew w6 := ⟨hg6.os, hg6.tape, hg6.output, hg6.size, fun j hj hn => hg6.block j hj (fun e => hn (Option.some.inj e))⟩
      have b16 := HB1A.out.moved hm6 (by have := HWR.out; omega)
      have b26 := HB2A.out.moved hm6 (by have := HWR.out; omega)
      have k6 := HKA.out.moved hm6 (by have := HWR.out; omega)
      have bel6 : Below w.heap.size w w6 := HBEL.out.grown hg6 HBEL.out.size (fun q hq => by have := Option.some.inj hq; have := HWR.out; omega)
      rw [← HG.out] at hr6
      obtain ⟨so6, cap6, rfl, -⟩ := owns_form hr6
      have e1 : w6.cell? ⟨w.heap.size, 1, none⟩ = some (.slice so G sk) := by rw [b16.cell]; rfl
      have e2 : w6.cell? ⟨w.heap.size, 2, none⟩ = some (.int .i64 k) := by rw [b16.cell]; rfl
      have e3 : w6.cell? ⟨w.heap.size, 3, none⟩ = some (.int .i64 rt) := by rw [b16.cell]; rfl
      have g0 : w6.cell? ⟨w.heap.size + 1, 0, none⟩ = some (.map none) := by rw [b26.cell]; rfl
      have fr0 := b26.frozen 0
      have g1 : w6.cell? ⟨w.heap.size + 1, 1, none⟩ = some (.slice none 0 0) := by rw [b26.cell]; rfl
      have fr1 := b26.frozen 1
      have g2 : w6.cell? ⟨w.heap.size + 1, 2, none⟩ = some (.int .i64 0) := by rw [b26.cell]; rfl
      have fr2 := b26.frozen 2
      have g3 : w6.cell? ⟨w.heap.size + 1, 3, none⟩ = some (.int .i64 0) := by rw [b26.cell]; rfl
      have fr3 := b26.frozen 3
      have HR6 := Lib.hid hr6
      have HB6 := Lib.hid b26
      have HB16 := Lib.hid b16
      have HK6 := Lib.hid k6
      have HL6 := Lib.hid bel6
      clear hr6 hg6 hm6 b16 b26 k6 bel6
      refine hK.out _ _ ⟨e1, e2, e3⟩ (fun hS => ?_)
      clear hK K
      try simp only [Act.put, List.setIfInBounds_toArray, List.set_cons_zero, List.set_cons_succ]
      refine wpAnyH_take (i := 9) (oi := ⟨some 34, _, _, _, _, _⟩) (v := ?_) rfl (by kernel_rfl) (by kernel_rfl) (by kernel_rfl) (fun _ _ _ h => h) (Or.inl ⟨by rfl, ?_⟩) hS ?_
      rotate_left
      · intro wz hSw
        clear hSw
        go_simp
        first | done | with_reducible rfl
      try simp only [Act.put, List.setIfInBounds_toArray, List.set_cons_zero, List.set_cons_succ]
      have b16 := HB16.out
      have hm7 : Moved (· = w.heap.size + 1) w6 ((((w6.setCell ⟨w.heap.size + 1, 0, none⟩ (.map (some (w.heap.size + 1 + 1)))).setCell ⟨w.heap.size + 1, 1, none⟩ (.slice so6 G cap6)).setCell ⟨w.heap.size + 1, 2, none⟩ (.int .i64 k)).setCell ⟨w.heap.size + 1, 3, none⟩ (.int .i64 rt)) := ((((Moved.refl (· = w.heap.size + 1) w6).setCell _ _ (.inl rfl)).setCell _ _ (.inl rfl)).setCell _ _ (.inl rfl)).setCell _ _ (.inl rfl)
      have b17 := b16.moved hm7 (by omega)
      have b27 : Blk ((((w6.setCell ⟨w.heap.size + 1, 0, none⟩ (.map (some (w.heap.size + 1 + 1)))).setCell ⟨w.heap.size + 1, 1, none⟩ (.slice so6 G cap6)).setCell ⟨w.heap.size + 1, 2, none⟩ (.int .i64 k)).setCell ⟨w.heap.size + 1, 3, none⟩ (.int .i64 rt)) (w.heap.size + 1) #[.map (some (w.heap.size + 1 + 1)), .slice so6 G cap6, .int .i64 k, .int .i64 rt] 46 := (((HB6.out.set 0 _).set 1 _).set 2 _).set 3 _
      have HM7 := Lib.hid hm7
      have HB17 := Lib.hid b17
      have HB27 := Lib.hid b27
      clear b16 hm7 b17 b27
      refine wpAnyH_ready (rs := [10]) (by kernel_rfl) (by simp) ?_
      refine AllReadyH.cons (o := ⟨none, _, _, _, _, _⟩) rfl (fun K hK => ?_) AllReadyH.nil
      go_simp
      refine hK.out _ _ (⟨by rw [HB17.out.cell]; rfl, by rw [HB17.out.cell]; rfl, by rw [HB17.out.cell]; rfl⟩) (fun hS => ?_)
      clear hK K
      try simp only [Act.put, List.setIfInBounds_toArray, List.set_cons_zero, List.set_cons_succ]
      refine wpAnyH_done (by kernel_rfl) ?_ _
      clear hS e1 e2 e3 g0 g1 g2 g3 fr0 fr1 fr2 fr3
      generalize ((((w6.setCell ⟨w.heap.size + 1, 0, none⟩ (.map (some (w.heap.size + 1 + 1)))).setCell ⟨w.heap.size + 1, 1, none⟩ (.slice so6 G cap6)).setCell ⟨w.heap.size + 1, 2, none⟩ (.int .i64 k)).setCell ⟨w.heap.size + 1, 3, none⟩ (.int .i64 rt)) = w7 at HM7 HB17 HB27 ⊢
      go_wp2_with fail
      refine bodyPost_ret (results_cell_row rfl _ _ (w.heap.size + 1) 46 _ (0, 0) _ rfl HB27.out Try.underlying46 rfl (by kernel_rfl)) rfl ?_
      have e9 : w.heap.size + 1 + 1 = w.heap.size + 2 := rfl
      rw [e9]
      have hw6 := HWR.out
      have hoi : OwnI w6 (.slice so6 G cap6) S.gone := ⟨by simp, by
        rw [← HG.out]
        exact HR6.out.2.imp id (fun ⟨g, cap, cur, e, hb, r⟩ => ⟨g, cap, cur, e, Nat.zero_le _, r⟩)⟩
      have hge : ∀ g, (Value.slice so6 G cap6).ownBlock = some g → wr.heap.size ≤ g := fun g hg => by
        rcases HR6.out.2 with ⟨e, -⟩ | ⟨q, cap, cur, e, hb, -⟩
        · rw [e] at hg; cases hg
        · rw [e] at hg; cases hg; exact hb
      exact ⟨w.heap.size + 2, _, rfl, HK6.out.moved HM7.out (by omega), hoi.moved HM7.out (fun g hg e => by have := hge g hg; omega), by omega, fun g hg => by have := hge g hg; omega, HL6.out.trans (HM7.out.below (fun j hj => by omega) (by have := HL6.out.size; omega))⟩
end Go.Proofs.Ytcnfnpccbnnplaa
