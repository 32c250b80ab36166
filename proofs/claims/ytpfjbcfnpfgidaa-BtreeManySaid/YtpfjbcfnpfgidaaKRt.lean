/- Rt -/
import Derived.Test.YtpfjbcfnpfgidaaKHi
import Derived.Test.YtpfjbcfnpfgidaaKHl
import Derived.Test.YtpfjbcfnpfgidaaKRh
import Derived.Test.YtpfjbcfnpfgidaaKRs
import Derived.Test.YtpfjbcfnpfgidaaKRl
namespace Go.Proofs.Ytpfjbcfnpfgidaa
open Go.RowKit Go.Maps
set_option maxRecDepth 100000
set_option linter.unusedVariables false
def keyQ (x sz : Nat) : ByteArray := ⟨(keyM x sz).toArray⟩
theorem keyM_inj {x y sz : Nat} (hx : x < 65536) (hy : y < 65536) (h : (keyQ x sz).toList = (keyQ y sz).toList) : x = y := by
 unfold keyQ at h
 rw [Lib.toList_data, Lib.toList_data] at h
 simp only [keyM, List.cons_append, List.cons.injEq, and_true, List.nil_append] at h
 obtain ⟨h1, h2⟩ := h
 have k1 := congrArg vb h1
 have k2 := congrArg vb h2
 rw [vb_byteOf, vb_byteOf] at k1 k2
 simp only [Value.int.injEq, true_and] at k1 k2
 omega
theorem keyQ_size {x sz : Nat} (h : 2 ≤ sz) : (keyQ x sz).size = sz := by
 show (keyM x sz).toArray.size = sz
 rw [List.size_toArray]
 unfold keyM
 rw [List.length_append, zeros_length]
 simp; omega
/-- The steps. -/
def StepM (st : Nat) : Prop := st = 1 ∨ st = 7 ∨ st = 11 ∨ st = 13 ∨ st = 17
theorem StepM.inj {st i j : Nat} (h : StepM st) (hi : i < 307) (hj : j < 307) (e : i * st % 307 = j * st % 307) : i = j := by
 rcases h with rfl | rfl | rfl | rfl | rfl <;> omega
structure Tr5 (W w : World) (r p c : Nat) (H : Lg) {m : Nat} (t : BT Ent m) : Prop where
 pb : Pb W w NoX5 r p 1199 0 c (Lg.new 1199) (some H)
 tree : InLg 1199 H t
 all : H.free.length + t.pages.length = 1198
theorem Tr5.room {W w : World} {r p c : Nat} {H : Lg} {m : Nat} {t : BT Ent m} (h : Tr5 W w r p c H t) : 1198 ≤ H.free.length + 1 + 2 * t.flat.length := by
 have h1 := BT.count_root t h.tree.root
 have h2 := h.all
 omega
theorem Tr5.grow {W w w' : World} {r p c : Nat} {H : Lg} {m : Nat} {t : BT Ent m} (h : Tr5 W w r p c H t) (hb : Below w.heap.size w w') : Tr5 W w' r p c H t := ⟨h.pb.grow hb, h.tree, h.all⟩
theorem Tr5.next {W w w' : World} {r p c c' : Nat} {H H' : Lg} {m m' : Nat} {t : BT Ent m} {t' : BT Ent m'} {l : List Ent} (h : Tr5 W w r p c H t) (hp : Pb W w' NoX5 r p 1199 0 c' (Lg.new 1199) (some H')) (hc : Changed 1199 H H' t t' l) : Tr5 W w' r p c' H' t' := by
 have hpl := hc.perm.length_eq
 rw [List.length_append, List.length_append] at hpl
 exact ⟨hp, hc.ok, by rw [hpl]; exact h.all⟩
theorem Tr5.start {W w : World} {r p c : Nat} (h : Pb W w NoX5 r p 1199 0 c (Lg.new 1199) (some (leafLg (Lg.new 1199) 1 (List.range' 2 1197)))) : Tr5 W w r p c (leafLg (Lg.new 1199) 1 (List.range' 2 1197)) (BT.leaf 1 []) := by
 have hs := (Side.nil (N := 1199) (by omega)).new lg_free
 refine ⟨h, hs.at (List.mem_append_right _ (List.mem_singleton.2 rfl)), ?_⟩
 have := hs.all
 simpa [BT.Some'.pages] using this
def Had (st sz k : Nat) (l : List Ent) : Prop := ∀ x, x < 307 → ((l.find? (sameK (keyQ x sz))).isSome = true ↔ ∃ i, i < k ∧ i * st % 307 = x)
def Had2 (st sz n k : Nat) (l : List Ent) : Prop := ∀ x, x < 307 → ((l.find? (sameK (keyQ x sz))).isSome = true ↔ (∃ i, i < n ∧ i * st % 307 = x) ∧ ¬ ∃ j, j < k ∧ j * 11 % 307 = x)
theorem Had.next {st sz k : Nat} {l : List Ent} (h : Had st sz k l) (hs : l.Pairwise rK) (v : ByteArray) : Had st sz (k + 1) (setL (keyQ (k * st % 307) sz) v l) := by
 intro x hx
 rw [find_setL _ _ _ hs]
 by_cases e : (keyQ x sz).toList = (keyQ (k * st % 307) sz).toList
 ·rw [if_pos e]
  have := keyM_inj (by omega) (by omega) e
  simp only [Option.isSome_some, true_iff]
  exact ⟨k, by omega, this.symm⟩
 ·rw [if_neg e, h x hx]
  constructor
  ·rintro ⟨i, hi, hix⟩; exact ⟨i, by omega, hix⟩
  ·rintro ⟨i, hi, hix⟩
   refine ⟨i, ?_, hix⟩
   by_cases hik : i = k
   ·subst hik; rw [hix] at e; exact absurd rfl e
   ·omega
theorem Had.len {st sz k : Nat} {l : List Ent} (h : Had st sz k l) (hs : l.Pairwise rK) (hst : StepM st) (hk : k < 307) (v : ByteArray) : (setL (keyQ (k * st % 307) sz) v l).length = l.length + 1 := by
 have h1 := setL_length (keyQ (k * st % 307) sz) v hs
 have h2 : ¬ (l.find? (sameK (keyQ (k * st % 307) sz))).isSome = true := by
  rw [h _ (by omega)]
  rintro ⟨i, hi, e⟩
  have := hst.inj (by omega) hk e
  omega
 rw [if_neg h2] at h1
 omega
theorem Had.second {st sz n : Nat} {l : List Ent} (h : Had st sz n l) : Had2 st sz n 0 l := by
 intro x hx
 rw [h x hx]
 constructor
 ·exact fun e => ⟨e, fun ⟨j, hj, _⟩ => absurd hj (Nat.not_lt_zero _)⟩
 ·exact fun e => e.1
theorem Had2.next {st sz n k : Nat} {l : List Ent} (h : Had2 st sz n k l) : Had2 st sz n (k + 1) (delL (keyQ (k * 11 % 307) sz) l) := by
 intro x hx
 rw [find_delL]
 by_cases e : (keyQ x sz).toList = (keyQ (k * 11 % 307) sz).toList
 ·rw [if_pos e]
  have := keyM_inj (by omega) (by omega) e
  simp only [Option.isSome_none, Bool.false_eq_true, false_iff]
  exact fun hh => hh.2 ⟨k, by omega, this.symm⟩
 ·rw [if_neg e, h x hx]
  constructor
  ·rintro ⟨a, b⟩
   refine ⟨a, ?_⟩
   rintro ⟨j, hj, hjx⟩
   by_cases hjk : j = k
   ·subst hjk; rw [hjx] at e; exact e rfl
   ·exact b ⟨j, by omega, hjx⟩
  ·rintro ⟨a, b⟩
   exact ⟨a, fun ⟨j, hj, hjx⟩ => b ⟨j, by omega, hjx⟩⟩
theorem Had2.bit {st sz n k : Nat} {l : List Ent} (h : Had2 st sz n k l) (hk : k < 307) : (l.find? (sameK (keyQ (k * 11 % 307) sz))).isSome = hadB (k * 11 % 307) n st := by
 rw [Bool.eq_iff_iff, h _ (by omega)]
 unfold hadB
 rw [decide_eq_true_iff]
 constructor
 ·exact fun e => e.1
 ·refine fun e => ⟨e, ?_⟩
  rintro ⟨j, hj, e2⟩
  have := StepM.inj (st := 11) (.inr (.inr (.inl rfl))) (by omega) hk e2
  omega
theorem delL_most (k : ByteArray) {l : List Ent} (h : l.Pairwise rK) : (delL k l).length ≤ l.length := by
 have := delL_length k h
 omega
def RelA (W : World) (n st sz r p : Nat) (root i : Value) (wr : World) : Prop :=
 ∃ (k m : Nat) (t : BT Ent m) (H : Lg) (c : Nat), k ≤ n ∧ i = .int .i64 k ∧ root = .int .i64 (t.page : Int) ∧ c ≤ 2 + 110 * k ∧ t.flat.length = k ∧ Had st sz k t.flat ∧ Tr5 W wr r p c H t
def RelB (W : World) (n st sz r p : Nat) (root i : Value) (wr : World) : Prop :=
 ∃ (k m : Nat) (t : BT Ent m) (H : Lg) (c : Nat), k ≤ n ∧ i = .int .i64 k ∧ root = .int .i64 (t.page : Int) ∧ c ≤ 2 + 110 * (n + k) ∧ t.flat.length ≤ n ∧ Had2 st sz n k t.flat ∧ Tr5 W wr r p c H t
set_option maxHeartbeats 16000000 in
theorem many5_walk (a b d : Int) (W : World) :
 Calls Try.prog 4 #[.int .i64 a, .int .i64 b, .int .i64 d] W fun e w' => e = .returned (.bool true) ∧ Below W.heap.size W w' := by
 obtain ⟨n, hn⟩ : ∃ n : Nat, (n : Int) = a % 300 := ⟨(a % 300).toNat, by omega⟩
 obtain ⟨s, hs⟩ : ∃ n : Nat, (n : Int) = d % 100 := ⟨(d % 100).toNat, by omega⟩
 obtain ⟨j, hj⟩ : ∃ n : Nat, (n : Int) = b % 5 := ⟨(b % 5).toNat, by omega⟩
 have hw1 := fun w => within5_eq a 300 (by omega) (by omega) w
 have hw2 := fun w => within5_eq d 100 (by omega) (by omega) w
 have hw3 := fun w => within5_eq b 5 (by omega) (by omega) w
 rw [← hn] at hw1
 rw [← hs] at hw2
 rw [← hj] at hw3
 have hn3 : n < 300 := by omega
 have hs3 : s < 100 := by omega
 have hj3 : j < 5 := by omega
 obtain ⟨st, hst⟩ : ∃ st : Nat, st = [1, 7, 11, 13, 17].getD j 0 := ⟨_, rfl⟩
 have hstp : StepM st := by
  rcases (show j = 0 ∨ j = 1 ∨ j = 2 ∨ j = 3 ∨ j = 4 by omega) with rfl | rfl | rfl | rfl | rfl <;> (subst hst; unfold StepM; simp)
 have hst3 : st ≤ 17 := by rcases hstp with rfl | rfl | rfl | rfl | rfl <;> omega
 have HW1 := Lib.hid hw1
 have HW2 := Lib.hid hw2
 have HW3 := Lib.hid hw3
 have HST := Lib.hid hstp
 have HCELL := Lib.hid (show ∀ w : World, (w.alloc (.cells #[.int .i64 1, .int .i64 7, .int .i64 11, .int .i64 13, .int .i64 17] 3)).cell? ⟨w.heap.size, j, none⟩ = some (.int .i64 st) from fun w => by
  rw [(Blk.new w _ _).cell]
  rcases (show j = 0 ∨ j = 1 ∨ j = 2 ∨ j = 3 ∨ j = 4 by omega) with rfl | rfl | rfl | rfl | rfl <;> (subst hst; rfl))
 clear hw1 hw2 hw3 hn hs hj hstp hst
 obtain ⟨sz, hsz⟩ : ∃ sz : Nat, sz = 2 + s := ⟨_, rfl⟩
 have hsz2 : (2 : Int) + s = sz := by omega
 have hsz3 : 2 ≤ sz ∧ sz < 102 := by omega
 clear hsz
 go_enter Try.func4, Try.ntmps4
 go_wp2_with fail
 refine (known5_any W).mono ?_
 rintro e w1 ⟨rfl, h1⟩
 have H1 := Lib.hid h1
 clear h1
 go_wp2_with fail
 refine (HW1.out _).mono ?_
 rintro e wz ⟨rfl, hwz⟩
 obtain rfl := hwz.symm
 go_wp2_with fail
 refine (HW2.out _).mono ?_
 rintro e wz2 ⟨rfl, hwz2⟩
 obtain rfl := hwz2.symm
 go_wp2_with fail
 refine (HW3.out _).mono ?_
 rintro e wz3 ⟨rfl, hwz3⟩
 obtain rfl := hwz3.symm
 have hcell := HCELL.out w1
 have hal : Below W.heap.size W (w1.alloc (.cells #[.int .i64 1, .int .i64 7, .int .i64 11, .int .i64 13, .int .i64 17] 3)) := H1.out.alloc H1.out.size _
 generalize World.alloc w1 _ = w2 at hcell hal ⊢
 have HAL := Lib.hid hal
 clear hal HCELL
 go_wp2_with fail
 refine (open5_any W _ HAL.out).mono ?_
 rintro e w3 ⟨r, p, rfl, h3⟩
 have H3 := Lib.hid h3
 clear h3 hcell
 go_wp2_with fail
 have hfr := pb_free H3.out
 rw [show ((some (Lg.new 1199)).getD (Lg.new 1199)).free.length = 1198 from new5_len] at hfr
 refine hfr.mono ?_
 rintro e w3' ⟨rfl, hw3'⟩
 obtain rfl := hw3'.symm
 clear hfr
 go_wp2_with fail
 refine (bt_new H3.out (by omega) new5_free).mono ?_
 rintro e w4 ⟨rfl, h4, -⟩
 have H4 := Lib.hid (Tr5.start h4)
 clear h4
 go_wp2_with fail
 go_loopw [9, 11] (fun root i wr => RelA W n st sz r p root i wr) (fun _ i _ => n - (intOf i).toNat)
 case atStart => exact ⟨0, _, BT.leaf 1 [], _, _, Nat.zero_le _, rfl, rfl, by omega, rfl, fun x hx => ⟨fun h => absurd h (by show ¬ (([] : List Ent).find? (sameK (keyQ x sz))).isSome = true; simp), fun ⟨i, hi, _⟩ => absurd hi (Nat.not_lt_zero _)⟩, H4.out⟩
 case round =>
  obtain ⟨k, m, t, H, c, hk, rfl, rfl, hc, hlen, hhad, htr⟩ := hrel
  have HTR := Lib.hid htr
  have hroom := htr.room
  obtain ⟨pg, hpg⟩ : ∃ pg : Int, pg = (t.page : Int) := ⟨_, rfl⟩
  rw [← hpg]
  have HPG := Lib.hid hpg
  have HHAD := Lib.hid hhad
  by_cases hlt : k < n
  ·have hlt' : (k : Int) < n := by omega
   obtain ⟨x, hx⟩ : ∃ x : Nat, x = k * st % 307 := ⟨_, rfl⟩
   have hx307 : x < 307 := by omega
   have hkst : k * st ≤ 300 * 17 := Nat.mul_le_mul (by omega) hst3
   have hcst : ((k * st : Nat) : Int) = (k : Int) * st := Int.natCast_mul k st
   have hmul : IntKind.i64.wrap ((k : Int) * st) = (k : Int) * st := by rw [IntWalk.i64_in _ (by omega)]
   have hmod : ((k : Int) * st).tmod 307 = (x : Int) := by
    rw [Int.tmod_eq_emod_of_nonneg (by omega), hx, Int.natCast_emod, Int.natCast_mul]; rfl
   have hmod2 : (k : Int) * st % 307 = (x : Int) := by
    rw [hx, Int.natCast_emod, Int.natCast_mul]; rfl
   have HKEY := Lib.hid (fun w => key_any x sz (by omega) (by omega) (by omega) w)
   have hset := fun w' (hb : Below wr.heap.size wr w') => set_tree (htr.grow hb).pb htr.tree (by omega) (keyQ x sz) ⟨#[118]⟩ (by rw [keyQ_size hsz3.1]; omega) (by rw [keyQ_size hsz3.1]; show sz + 1 ≤ 150; omega) (by omega)
   rw [← hpg] at hset
   have HSET := Lib.hid hset
   have HX := Lib.hid hx
   have HC := Lib.hid (And.intro hc hlen)
   clear hset hpg hhad htr hroom hc hlen hcst hkst hx
   go_wp2_with fail
   refine (HKEY.out _).mono ?_
   rintro en v1 ⟨rfl, hb1⟩
   have HB1 := Lib.hid hb1
   clear hb1
   go_wp2_with fail
   rw [show (⟨(keyM x sz).toArray⟩ : ByteArray) = keyQ x sz from rfl]
   refine (HSET.out _ HB1.out).mono ?_
   rintro en v2 ⟨m', t', H', c', rfl, hc', hch, hpb, hmx⟩
   obtain ⟨pg', hpg'⟩ : ∃ pg' : Int, pg' = (t'.page : Int) := ⟨_, rfl⟩
   rw [← hpg']
   have HCH := Lib.hid (And.intro hc' (And.intro hch (And.intro hpb hpg')))
   clear hc' hch hpb hpg' hmx HSET
   go_wp2_with fail
   go_roundw
   case rel =>
    obtain ⟨hc', hch, hpb, hpg'⟩ := HCH.out
    have h1 := HC.out
    refine ⟨k + 1, m', t', H', c', by omega, by go_num, by first | rfl | rw [hpg'] | rw [← hpg'], by omega, ?_, ?_, (HTR.out.grow HB1.out).next hpb hch⟩
    ·rw [hch.flat, HX.out, HHAD.out.len HTR.out.tree.sorted HST.out (by omega), h1.2]
    ·rw [hch.flat, HX.out]; exact HHAD.out.next HTR.out.tree.sorted _
   case measure => simp [intOf]; omega
  ·obtain rfl : k = n := by omega
   have hcnt := count_tree htr.pb htr.tree (by omega)
   rw [hlen, ← hpg] at hcnt
   obtain ⟨fl, hfl⟩ : ∃ fl : Nat, fl = H.free.length := ⟨_, rfl⟩
   have hfr5 := fun w' (hb : Below wr.heap.size wr w') => pb_free (htr.grow hb).pb
   rw [show ((some H).getD (Lg.new 1199)).free.length = fl from hfl.symm] at hfr5
   have hg : ¬ (1 + 2 * (k : Int)) < 1198 - (fl : Int) := by omega
   have hk3 : (k : Int) < 300 := by omega
   have hfl2 : fl ≤ 1198 := by have := htr.all; omega
   have HCNT := Lib.hid hcnt
   have HFR5 := Lib.hid hfr5
   have HC := Lib.hid (And.intro hc hlen)
   clear hcnt hfr5 hpg hhad htr hroom hc hlen hfl hsz2
   go_wp2_with fail
   refine HCNT.out.mono ?_
   rintro en w5 ⟨rfl, hb5⟩
   have HB5 := Lib.hid hb5
   clear hb5
   go_wp2_with fail
   refine (HFR5.out _ HB5.out).mono ?_
   rintro en w6 ⟨rfl, hw6⟩
   obtain rfl := hw6.symm
   go_wp2_with fail
   go_loopw [9, 14] (fun root i wz => RelB W k st sz r p root i wz) (fun _ i _ => k - (intOf i).toNat)
   case atStart => exact ⟨0, m, t, H, c, Nat.zero_le _, rfl, by rw [HPG.out], by have := HC.out; omega, by have := HC.out; omega, HHAD.out.second, HTR.out.grow HB5.out⟩
   case round =>
    clear hg hfl2 HCNT HFR5 HC HHAD HTR HPG HB5
    obtain ⟨k2, m2, t2, H2, c2, hk2, rfl, rfl, hc2, hlen2, hhad2, htr2⟩ := hrel
    have HTR := Lib.hid htr2
    have hroom := htr2.room
    obtain ⟨pg2, hpg2⟩ : ∃ pg : Int, pg = (t2.page : Int) := ⟨_, rfl⟩
    rw [← hpg2]
    have HPG2 := Lib.hid hpg2
    have HHAD := Lib.hid hhad2
    by_cases hlt : k2 < k
    ·have hlt' : (k2 : Int) < k := by omega
     obtain ⟨x, hx⟩ : ∃ x : Nat, x = k2 * 11 % 307 := ⟨_, rfl⟩
     have hx307 : x < 307 := by omega
     have hmul : IntKind.i64.wrap ((k2 : Int) * 11) = (k2 : Int) * 11 := by rw [IntWalk.i64_in _ (by omega)]
     have hmod : ((k2 : Int) * 11).tmod 307 = (x : Int) := by
      rw [Int.tmod_eq_emod_of_nonneg (by omega)]; omega
     have hmod2 : (k2 : Int) * 11 % 307 = (x : Int) := by omega
     have HKEY := Lib.hid (fun w => key_any x sz (by omega) (by omega) (by omega) w)
     obtain ⟨bl, hbl⟩ : ∃ bl, bl = hadB x k st := ⟨_, rfl⟩
     have hbit : (t2.flat.find? (sameK (keyQ x sz))).isSome = bl := by rw [hbl, hx]; exact hhad2.bit (by omega)
     have HIN := Lib.hid (fun w => in_any x k st (by omega) (by omega) w)
     rw [← hbl] at HIN
     have hdel := fun w' (hb : Below wr.heap.size wr w') => del_tree (htr2.grow hb).pb htr2.tree (by omega) (keyQ x sz) (by omega)
     rw [← hpg2, hbit] at hdel
     have HDEL := Lib.hid hdel
     have HX := Lib.hid hx
     have HC := Lib.hid (And.intro hc2 hlen2)
     clear hdel hpg2 hhad2 htr2 hroom hc2 hlen2 hx hbit hbl
     go_wp2_with fail
     refine (HKEY.out _).mono ?_
     rintro en v1 ⟨rfl, hb1⟩
     have HB1 := Lib.hid hb1
     clear hb1
     go_wp2_with fail
     rw [show (⟨(keyM x sz).toArray⟩ : ByteArray) = keyQ x sz from rfl]
     refine (HDEL.out _ HB1.out).mono ?_
     rintro en v2 ⟨m', t', H', c', rfl, hc', hch, hpb, hmx⟩
     obtain ⟨pg', hpg'⟩ : ∃ pg' : Int, pg' = (t'.page : Int) := ⟨_, rfl⟩
     rw [← hpg']
     have HCH := Lib.hid (And.intro hc' (And.intro hch (And.intro hpb hpg')))
     clear hc' hch hpb hpg' hmx HDEL
     go_wp2_with fail
     refine (HIN.out _).mono ?_
     rintro en w8 ⟨rfl, hw8⟩
     obtain rfl := hw8.symm
     go_wp2_with fail
     go_roundw
     case rel =>
      obtain ⟨hc', hch, hpb, hpg'⟩ := HCH.out
      have h1 := HC.out
      have h2 := delL_most (keyQ x sz) HTR.out.tree.sorted
      refine ⟨k2 + 1, m', t', H', c', by omega, by go_num, by first | rfl | rw [hpg'] | rw [← hpg'], by omega, by rw [hch.flat]; omega, ?_, (HTR.out.grow HB1.out).next hpb hch⟩
      rw [hch.flat, HX.out]; exact HHAD.out.next
     case measure => simp [intOf]; omega
    ·obtain rfl : k2 = k := by omega
     have hdr := drop_tree htr2.pb htr2.tree (by omega)
     have hall := htr2.all
     rw [← hpg2] at hdr
     have HDR := Lib.hid hdr
     have HALL := Lib.hid hall
     clear hdr hpg2 hhad2 htr2 hroom hc2 hlen2 hall
     go_wp2_with fail
     refine HDR.out.mono ?_
     rintro e w7 ⟨rfl, H6, h6, -, hperm, -⟩
     have hlen := hperm.length_eq
     rw [List.length_append, HALL.out] at hlen
     have hfr := pb_free h6
     rw [show ((some H6).getD (Lg.new 1199)).free.length = 1198 from hlen] at hfr
     have HFR := Lib.hid hfr
     have HB6 := Lib.hid h6.below
     clear hperm h6 hlen hfr HDR
     go_wp2_with fail
     refine HFR.out.mono ?_
     rintro e w8 ⟨rfl, hw8⟩
     obtain rfl := hw8.symm
     clear HFR
     go_wp2_with fail
     go_ret
     exact ⟨rfl, HB6.out⟩
end Go.Proofs.Ytpfjbcfnpfgidaa
