/- Sj; Sn -/
import Derived.Test.YtbpdapcmaioeiaaGreatKSg
import Derived.Test.YtbpdapcmaioeiaaGreatKSi
namespace Go.Proofs.YtbpdapcmaioeiaaGreat
open Go.RowKit Go.Maps
set_option maxRecDepth 100000
set_option linter.unusedVariables false
theorem within7_eq (a n : Int) (hn : 0 < n) (hn2 : n ≤ 4611686018427387904) (w : World) :
 Calls Tryz.prog 24 #[.int .i64 a, .int .i64 n] w fun e w' => e = .returned (.int .i64 (a % n)) ∧ w' = w := by
 have h1 := Int.tmod_lt_of_pos a hn
 have h2 : -n < a.tmod n := Int.lt_tmod_of_pos a hn
 have hz : (n == 0) = false := by simpa using (by omega : n ≠ 0)
 have he : a % n = if a.tmod n < 0 then a.tmod n + n else a.tmod n := by
  rw [Int.tmod_eq_emod]
  have h3 := Int.emod_nonneg a (show n ≠ 0 by omega)
  have h4 := Int.emod_lt_of_pos a hn
  have h5 : ((Int.natAbs n : Nat) : Int) = n := by omega
  by_cases h0 : 0 ≤ a ∨ n ∣ a
  ·rw [if_pos h0]; split <;> omega
  ·rw [if_neg h0, h5]; split <;> omega
 have HE := Lib.hid he
 clear he
 by_cases h0 : a.tmod n < 0
 ·go_enter Tryz.func24, Tryz.ntmps24
  go_wp2
  go_ret
  exact ⟨by rw [HE.out, if_pos h0]; rfl, rfl⟩
 ·go_enter Tryz.func24, Tryz.ntmps24
  go_wp2
  go_ret
  exact ⟨by rw [HE.out, if_neg (by omega)]; rfl, rfl⟩
section
variable {w0 w : World} {X : Nat → Prop} {r p N M c : Nat} {G H : Lg} {n m : Nat} {tt : BT Ent n} {ty : BT Ent m} {tot : Nat} {L : List Tm}
/-- What Put of a sound term leaves: the term is number i. -/
def PutTo (w0 w : World) (X : Nat → Prop) (r p N M c : Nat) (G : Lg) (tot : Nat) (L : List Tm) (x : Tm) (e : Ending) (w' : World) : Prop :=
 ∃ (n' m' : Nat) (tt' : BT Ent n') (ty' : BT Ent m') (H' : Lg) (c' : Nat) (L' : List Tm) (i : Nat), e = .returned (.tuple #[.agg #[.int .i64 (tt'.page : Int), .int .i64 (ty'.page : Int), .int .i64 ((L'.length : Nat) : Int)], .int .i64 ((i + 1 : Nat) : Int), .int .i64 0]) ∧
  c' ≤ c + 220 ∧ Dc w0 w' X r p N M c' G H' tt' ty' tot L' ∧ Mx w0 X w w' ∧ ((L' = L ∧ ∃ h : i < L.length, L[i] = x) ∨ (L' = L ++ [x] ∧ i = L.length ∧ x ∉ L))
theorem dput_any (h : Dc w0 w X r p N M c G H tt ty tot L) (htot : 500 ≤ tot) (hL : L.length ≤ 100) (x : Tm) (hx : checkOf x = 0) (hc : c + 300110 < 500000) :
 Calls Tryz.prog 25 #[.pointer (some ⟨p, 0, none⟩), .agg #[.int .i64 (tt.page : Int), .int .i64 (ty.page : Int), .int .i64 ((L.length : Nat) : Int)], x.val] w (PutTo w0 w X r p N M c G tot L x) := by
 by_cases hm : x ∈ L
 ·obtain ⟨i, hi, he⟩ := List.mem_iff_getElem.1 hm
  refine (dput_old w p _ _ _ x ((i + 1 : Nat) : Int) (fun u hu => number_some (h.read hu).pb h.treeT h.dict.valT x (of_check hx) hx _ (wf_small (by omega)) _ rfl (by rw [← he]; exact h.dict.has i hi))).mono ?_
  rintro e w' ⟨rfl, hb⟩
  exact ⟨n, m, tt, ty, H, c, L, i, rfl, by omega, h.read hb, Moved.of_below hb _, .inl ⟨rfl, hi, he⟩⟩
 ·refine (dput_new h htot hL x hx hm hc).mono ?_
  rintro e w' ⟨n', m', tt', ty', H', c', rfl, hc', hd, hmx⟩
  refine ⟨n', m', tt', ty', H', c', L ++ [x], L.length, ?_, hc', hd, hmx, .inr ⟨rfl, rfl, hm⟩⟩
  rw [List.length_append, List.length_singleton]
theorem dput_wrong (x : Tm) (hok : x.Ok) (hx : checkOf x ≠ 0) (ti ii li : Int) (w : World) (p : Nat) :
 Calls Tryz.prog 25 #[.pointer (some ⟨p, 0, none⟩), .agg #[.int .i64 ti, .int .i64 ii, .int .i64 li], x.val] w fun e w' => e = .returned (.tuple #[.agg #[.int .i64 0, .int .i64 0, .int .i64 0], .int .i64 0, .int .i64 (checkOf x)]) ∧ Below w.heap.size w w' := by
 refine dput_bad w p ti ii li x 0 (checkOf x) hx ?_ (fun u hu => number_bad ti x hok (checkOf x) rfl hx)
 unfold checkOf
 repeat' split
 all_goals decide
end
set_option maxHeartbeats 4000000 in
theorem known7_any (w : World) : Calls Tryz.prog 19 #[] w fun e w' => e = .returned (.bool true) ∧ Below w.heap.size w w' := by
 have HP := Lib.hid (fun (w1 : World) (X : Nat → Prop) (r p c : Nat) (H : Lg) (n m : Nat) (tt : BT Ent n) (ty : BT Ent m) (h : Dc w w1 X r p 1199 0 c (Lg.new 1199) H tt ty 1198 []) (hc : c ≤ 4) => dput_any h (by omega) (by simp) ⟨1, ⟨#[97]⟩, ⟨#[]⟩, ⟨#[]⟩⟩ (by decide +kernel) (by omega))
 go_enter Tryz.func19, Tryz.ntmps19
 go_wp2_with fail
 refine (open5_any w w (Below.refl _ w)).mono ?_
 rintro e w1 ⟨r, p, rfl, h1⟩
 have H1 := Lib.hid h1
 clear h1
 go_wp2_with fail
 refine (dictnew_any H1.out (by omega) new5_free).mono ?_
 rintro e w2 ⟨rfl, h2, -⟩
 have hd := (Dc.start h2).read ((Below.refl w2.heap.size w2).alloc (Nat.le_refl _) (.cells #[.int .i64 1, .int .i64 2, .int .i64 0] 52))
 have HD := Lib.hid hd
 clear h2 hd
 go_wp2_with fail
 have hpu := HP.out _ _ _ _ _ _ _ _ _ _ HD.out (by omega)
 unfold Tm.val at hpu
 refine hpu.mono ?_
 rintro e w3 ⟨n', m', tt', ty', H', c', L', i, rfl, -, hd, -, hor⟩
 have hi : i = 0 := by
  rcases hor with ⟨-, h, -⟩ | ⟨-, h, -⟩
  ·simp at h
  ·simpa using h
 subst hi
 have HD3 := Lib.hid hd.pb.below
 clear hd hor hpu
 go_wp2_with fail
 go_ret
 refine ⟨rfl, HD3.out.alloc HD3.out.size _⟩
end Go.Proofs.YtbpdapcmaioeiaaGreat
namespace Go.Proofs.YtbpdapcmaioeiaaGreat
open Go.RowKit Go.Maps
set_option maxRecDepth 100000
set_option linter.unusedVariables false
theorem check_ne2 (x : Tm) : checkOf x ≠ 2 := by
 unfold checkOf
 repeat' split
 all_goals decide
/-- What Get answers. -/
def getL (L : List Tm) (id : Int) : Tm × Int := if h : 1 ≤ id ∧ id ≤ L.length then (L[(id - 1).toNat]'(by omega), 0) else (⟨0, ⟨#[]⟩, ⟨#[]⟩, ⟨#[]⟩⟩, 2)
theorem find_at {L : List Tm} {x : Tm} (hn : L.Nodup) {i : Nat} (hi : i < L.length) (he : L[i] = x) (hx : checkOf x = 0) : findL L x = (((i + 1 : Nat) : Int), (0 : Int)) := by
 unfold findL
 rw [if_neg (by rw [hx]; simp), findIdx_some hi he (fun j hj hji e => List.pairwise_iff_getElem.1 hn j i hj hi hji (e.trans he.symm))]
theorem find_no {L : List Tm} {x : Tm} (hn : x ∉ L) (hx : checkOf x = 0) : findL L x = (0, 2) := by
 unfold findL
 have hno := findIdx_none (L := L) (x := x) (fun j hj e => hn (by rw [← e]; exact List.getElem_mem hj))
 rw [if_neg (by rw [hx]; simp), hno]
theorem find_wrong {L : List Tm} {x : Tm} (hx : checkOf x ≠ 0) : findL L x = (0, checkOf x) := by
 unfold findL
 rw [if_pos hx]
section
variable {w0 w : World} {X : Nat → Prop} {r p N M c : Nat} {G H : Lg} {n m : Nat} {tt : BT Ent n} {ty : BT Ent m} {tot : Nat} {L : List Tm}
theorem dfind_any (h : Dc w0 w X r p N M c G H tt ty tot L) (li : Int) (x : Tm) (hx : x.Ok) :
 Calls Tryz.prog 27 #[.pointer (some ⟨p, 0, none⟩), .agg #[.int .i64 (tt.page : Int), .int .i64 (ty.page : Int), .int .i64 li], x.val] w fun e w' => e = .returned (.tuple #[.int .i64 (findL L x).1, .int .i64 (findL L x).2]) ∧ Below w.heap.size w w' := by
 refine dfind_of w p _ _ li x _ _ (fun u hu => ?_)
 by_cases hc : checkOf x = 0
 ·by_cases hm : x ∈ L
  ·obtain ⟨i, hi, he⟩ := List.mem_iff_getElem.1 hm
   rw [find_at h.dict.nodup hi he hc]
   exact number_some (h.read hu).pb h.treeT h.dict.valT x hx hc _ (wf_small (by have := h.dict.few; omega)) _ rfl (by rw [← he]; exact h.dict.has i hi)
  ·rw [find_no hm hc]
   exact number_none (h.read hu).pb h.treeT h.dict.valT x hx hc (h.dict.absent hc hm)
 ·rw [find_wrong hc]
  exact number_bad _ x hx _ rfl hc
theorem dgets_any (h : Dc w0 w X r p N M c G H tt ty tot L) (ti li id : Int) (hid : (Lit.int .i64 id).wf = true) :
 Calls Tryz.prog 29 #[.pointer (some ⟨p, 0, none⟩), .agg #[.int .i64 ti, .int .i64 (ty.page : Int), .int .i64 li], .int .i64 id] w fun e w' => e = .returned (.tuple #[(getL L id).1.val, .int .i64 (getL L id).2]) ∧ Below w.heap.size w w' := by
 refine dictget_of w p _ _ li id _ _ (fun u hu => ?_)
 unfold getL
 by_cases hin : 1 ≤ id ∧ id ≤ L.length
 ·rw [dif_pos hin]
  have hi : (id - 1).toNat < L.length := by omega
  have he : (((id - 1).toNat + 1 : Nat) : Int) = id := by omega
  have hnum := h.dict.num (id - 1).toNat hi
  rw [he] at hnum
  exact dterm_some (h.read hu).pb h.treeY h.dict.valY id _ _ _ (h.dict.valY _ (List.mem_of_find?_eq_some hnum)) (parse_of (h.dict.ok _ (List.getElem_mem hi))) hnum
 ·rw [dif_neg hin]
  exact dterm_none (h.read hu).pb h.treeY h.dict.valY id (h.dict.noId hid hin)
end
theorem rgets_any {w : World} {B xb n cap : Nat} {ao : Option Addr} {L : List Tm} (h : R7 w B xb (.slice ao n cap) L) (hl : L.length ≤ 1000) (id : Int) (hid : (Lit.int .i64 id).wf = true) :
 Calls Tryz.prog 30 #[.pointer (some ⟨xb, 0, none⟩), .int .i64 id] w fun e w' => e = .returned (.tuple #[(getL L id).1.val, .int .i64 (getL L id).2]) ∧ Below w.heap.size w w' := by
 unfold getL
 by_cases hin : 1 ≤ id ∧ id ≤ L.length
 ·rw [dif_pos hin]
  have hi : (id - 1).toNat < L.length := by omega
  have := rget7_some h hl (id - 1).toNat hi
  rwa [show ((id - 1).toNat : Int) + 1 = id by omega] at this
 ·rw [dif_neg hin]
  exact rget7_none h hl id hid (by omega)
/-- dict's trees, the variable that holds them, and the reference. -/
structure Dk2 (W w : World) (X : Nat → Prop) (r p c : Nat) (H : Lg) {n m : Nat} (tt : BT Ent n) (ty : BT Ent m) (Bd xb : Nat) (sa : Option Addr) (sn sc : Nat) (L : List Tm) : Prop where
 dc : Dc W w X r p 1199 0 c (Lg.new 1199) H tt ty 1198 L
 blk : Blk w Bd #[.int .i64 (tt.page : Int), .int .i64 (ty.page : Int), .int .i64 ((L.length : Nat) : Int)] 52
 ref : R7 w W.heap.size xb (.slice sa sn sc) L
 xd : X Bd
 xx : X xb
 low : ∀ j, X j → W.heap.size ≤ j
 own : ∀ q, (Value.slice sa sn sc).ownBlock = some q → X q ∧ q ≠ Bd
 ne : Bd ≠ xb
section
variable {W w w' : World} {X : Nat → Prop} {r p c : Nat} {H : Lg} {n m : Nat} {tt : BT Ent n} {ty : BT Ent m} {Bd xb : Nat} {sa : Option Addr} {sn sc : Nat} {L : List Tm}
theorem Dk2.read (h : Dk2 W w X r p c H tt ty Bd xb sa sn sc L) (hb : Below w.heap.size w w') : Dk2 W w' X r p c H tt ty Bd xb sa sn sc L :=
 ⟨h.dc.read hb, (hb.block _ h.blk.lt).trans h.blk, h.ref.read hb, h.xd, h.xx, h.low, h.own, h.ne⟩
theorem Dk2.take (h : Dk2 W w X r p c H tt ty Bd xb sa sn sc L) (hb : Below w.heap.size w w') : Dk2 W w' (fun k => X k ∨ (w.heap.size ≤ k ∧ k < w'.heap.size)) r p c H tt ty Bd xb sa sn sc L :=
 ⟨h.dc.take hb, (hb.block _ h.blk.lt).trans h.blk, h.ref.read hb, .inl h.xd, .inl h.xx, fun j hj => hj.elim (h.low j) (fun e => Nat.le_trans h.dc.pb.below.size e.1), fun q hq => ⟨.inl (h.own q hq).1, (h.own q hq).2⟩, h.ne⟩
end
theorem rput7_any {w : World} {B xb n cap : Nat} {ao : Option Addr} {L : List Tm} (h : R7 w B xb (.slice ao n cap) L) (hl : L.length ≤ 1000) (hB : B ≤ w.heap.size) (t : Tm) (hc : checkOf t = 0) (hnd : L.Nodup) (i : Nat) (L' : List Tm) (hor : (L' = L ∧ ∃ h : i < L.length, L[i] = t) ∨ (L' = L ++ [t] ∧ i = L.length ∧ t ∉ L)) :
 Calls Tryz.prog 26 #[.pointer (some ⟨xb, 0, none⟩), t.val] w fun e w' => e = .returned (.tuple #[.int .i64 ((i + 1 : Nat) : Int), .int .i64 0]) ∧
  ∃ ao' n' cap', n' ≤ cap' ∧ cap' ≤ 9223372036854775807 ∧ n' = L'.length ∧ R7 w' B xb (.slice ao' n' cap') L' ∧ Moved (fun q => q = xb ∨ (Value.slice ao n cap).ownBlock = some q) w w' ∧ (∀ q, (Value.slice ao' n' cap').ownBlock = some q → (Value.slice ao n cap).ownBlock = some q ∨ w.heap.size ≤ q) := by
 obtain ⟨fa, fc, fe, h1, h2⟩ := h.row.form
 simp only [Value.slice.injEq] at fe
 rcases hor with ⟨rfl, hi, he⟩ | ⟨rfl, rfl, hn⟩
 ·refine (rput7_old h hl t (of_check hc) _ _ (find_at hnd hi he hc) (by simp)).mono ?_
  rintro e w' ⟨rfl, hb⟩
  exact ⟨rfl, ao, n, cap, by omega, by omega, fe.2.1, h.read hb, Moved.of_below hb _, fun q hq => .inl hq⟩
 ·refine (rput7_new h hl hB t (of_check hc) (find_no hn hc)).mono ?_
  rintro e w' ⟨rfl, ao', cap', hr, k1, k2, hm, hq⟩
  exact ⟨rfl, ao', n + 1, cap', k1, k2, by rw [List.length_append, List.length_singleton, fe.2.1], hr, hm, hq⟩
end Go.Proofs.YtbpdapcmaioeiaaGreat
