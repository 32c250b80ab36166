/- Tq -/
import Derived.Test.YtbpdapcmaioeiaaGreatKGl
import Derived.Test.YtbpdapcmaioeiaaGreatKTj
import Derived.ChangeMaps5
import Derived.Lib.SmallJoins
import Derived.OpenShut
namespace Go.Proofs.YtbpdapcmaioeiaaGreat
open Go.RowKit
set_option maxRecDepth 100000
def encT (x : Tm) : List UInt8 := le x.k 1 ++ tx x.s ++ tx x.l ++ tx x.t
set_option maxHeartbeats 2000000 in
theorem tbytes_any (x : Tm) (w : World) :
 Calls Tryz.prog 93 #[x.val] w fun e w' => ∃ v, e = .returned v ∧ Own w' w.heap.size v (encT x) ∧ Below w.heap.size w w' := by
 obtain ⟨k, s, l, t⟩ := x
 unfold Tm.val encT
 dsimp only
 have c0 : (w.alloc (.cells #[.int .i64 k, .string s, .string l, .string t] 59)).cell? ⟨w.heap.size, 0, none⟩ = some (.int .i64 k) := by simp
 have c1 : (w.alloc (.cells #[.int .i64 k, .string s, .string l, .string t] 59)).cell? ⟨w.heap.size, 1, none⟩ = some (.string s) := by simp
 have c2 : (w.alloc (.cells #[.int .i64 k, .string s, .string l, .string t] 59)).cell? ⟨w.heap.size, 2, none⟩ = some (.string l) := by simp
 have c3 : (w.alloc (.cells #[.int .i64 k, .string s, .string l, .string t] 59)).cell? ⟨w.heap.size, 3, none⟩ = some (.string t) := by simp
 have hw : Below w.heap.size w (w.alloc (.cells #[.int .i64 k, .string s, .string l, .string t] 59)) := (Below.refl _ _).alloc (Nat.le_refl _) _
 have hlt : w.heap.size < (w.alloc (.cells #[.int .i64 k, .string s, .string l, .string t] 59)).heap.size := by simp
 have C := Lib.hid (And.intro c0 (And.intro c1 (And.intro c2 c3)))
 have HW := Lib.hid hw
 have HLT := Lib.hid hlt
 clear c0 c1 c2 c3 hw hlt
 go_enter Tryz.func93, Tryz.ntmps93
 go_wp2_with fail
 generalize hw1 : w.alloc _ = w1 at C HW HLT ⊢
 clear hw1
 have c0 := C.out.1
 have c1 := C.out.2.1
 have c2 := C.out.2.2.1
 have c3 := C.out.2.2.2
 go_region_held3 (fun w' => w'.cell? ⟨w.heap.size, 0, none⟩ = some (.int .i64 k) ∧ w'.cell? ⟨w.heap.size, 1, none⟩ = some (.string s) ∧ w'.cell? ⟨w.heap.size, 2, none⟩ = some (.string l) ∧ w'.cell? ⟨w.heap.size, 3, none⟩ = some (.string t)) (first | exact ⟨c0, c1, c2, c3⟩ | exact q4 | exact q3 | exact q2 | exact q1)
  (first
    | (go_at_call 111; refine (byte_any (.slice none 0 0) [] k (by decide) _ (Bs.nil _)).mono ?_; rintro e wi ⟨v1, rfl, h1, hb1⟩; have b1 := Lib.hid ((Below.refl w1.heap.size w1).drew.trans hb1); have H1 := Lib.hid h1; have q1 : wi.cell? ⟨w.heap.size, 0, none⟩ = some (.int .i64 k) ∧ wi.cell? ⟨w.heap.size, 1, none⟩ = some (.string s) ∧ wi.cell? ⟨w.heap.size, 2, none⟩ = some (.string l) ∧ wi.cell? ⟨w.heap.size, 3, none⟩ = some (.string t) := ⟨(b1.out.cell HLT.out).trans c0, (b1.out.cell HLT.out).trans c1, (b1.out.cell HLT.out).trans c2, (b1.out.cell HLT.out).trans c3⟩)
    | (go_at_call 135; refine (text_any _ _ t ?_ _ H3.out.bs).mono ?_; (simp only [List.length_append, tx_length, le_length, List.length_nil]; omega); rintro e wm ⟨v4, rfl, h4, hb4⟩; have b4 := Lib.hid (b3.out.trans (hb4.mono b3.out.size)); have H4 := Lib.hid h4; have q4 : wm.cell? ⟨w.heap.size, 0, none⟩ = some (.int .i64 k) ∧ wm.cell? ⟨w.heap.size, 1, none⟩ = some (.string s) ∧ wm.cell? ⟨w.heap.size, 2, none⟩ = some (.string l) ∧ wm.cell? ⟨w.heap.size, 3, none⟩ = some (.string t) := ⟨(b4.out.cell HLT.out).trans c0, (b4.out.cell HLT.out).trans c1, (b4.out.cell HLT.out).trans c2, (b4.out.cell HLT.out).trans c3⟩)
    | (go_at_call 135; refine (text_any _ _ l ?_ _ H2.out.bs).mono ?_; (simp only [List.length_append, tx_length, le_length, List.length_nil]; omega); rintro e wk ⟨v3, rfl, h3, hb3⟩; have b3 := Lib.hid (b2.out.trans (hb3.mono b2.out.size)); have H3 := Lib.hid h3; have q3 : wk.cell? ⟨w.heap.size, 0, none⟩ = some (.int .i64 k) ∧ wk.cell? ⟨w.heap.size, 1, none⟩ = some (.string s) ∧ wk.cell? ⟨w.heap.size, 2, none⟩ = some (.string l) ∧ wk.cell? ⟨w.heap.size, 3, none⟩ = some (.string t) := ⟨(b3.out.cell HLT.out).trans c0, (b3.out.cell HLT.out).trans c1, (b3.out.cell HLT.out).trans c2, (b3.out.cell HLT.out).trans c3⟩)
    | (go_at_call 135; refine (text_any _ _ s ?_ _ H1.out.bs).mono ?_; (simp only [List.length_append, le_length, List.length_nil]; omega); rintro e wj ⟨v2, rfl, h2, hb2⟩; have b2 := Lib.hid (b1.out.trans (hb2.mono b1.out.size)); have H2 := Lib.hid h2; have q2 : wj.cell? ⟨w.heap.size, 0, none⟩ = some (.int .i64 k) ∧ wj.cell? ⟨w.heap.size, 1, none⟩ = some (.string s) ∧ wj.cell? ⟨w.heap.size, 2, none⟩ = some (.string l) ∧ wj.cell? ⟨w.heap.size, 3, none⟩ = some (.string t) := ⟨(b2.out.cell HLT.out).trans c0, (b2.out.cell HLT.out).trans c1, (b2.out.cell HLT.out).trans c2, (b2.out.cell HLT.out).trans c3⟩))
 go_wp2_with fail
 go_ret
 refine ⟨_, rfl, ?_, HW.out.trans (b4.out.mono (Nat.le_of_lt HLT.out))⟩
 have := H4.out.mono (base' := w.heap.size) (by have := b3.out.size; have := HLT.out; omega)
 simpa using this
end Go.Proofs.YtbpdapcmaioeiaaGreat
namespace Go.Proofs.YtbpdapcmaioeiaaGreat
open Go.RowKit
set_option maxRecDepth 100000
theorem emp_iff (s : ByteArray) : s.toList.isEmpty = true ↔ s = nob := by
 rw [Lib.toList_data, List.isEmpty_iff]
 constructor
 ·intro h; exact ba_ext h
 ·rintro rfl; rfl
theorem nob_emp : nob.toList.isEmpty = true := (emp_iff nob).2 rfl
theorem emp_false {s : ByteArray} (h : 0 < s.size) : s.toList.isEmpty = false := by
 cases he : s.toList.isEmpty with
 | false => rfl
 | true => rw [(emp_iff s).1 he] at h; exact absurd h (by decide)
theorem let_all (p : UInt8 → Bool) (hp : ∀ n : Fin 5, p (UInt8.ofNat (97 + n.val)) = true) (s : ByteArray) (n : Nat) : (letL s n).all p = true := by
 unfold letL
 rw [List.all_map, List.all_eq_true]
 intro c _
 exact hp ⟨c.toNat % 5, by omega⟩
/-- A term that may be. -/
structure Tm.Good (g : Tm) : Prop where
 k : (g.k = 1 ∧ g.l = nob ∧ g.t = nob) ∨ (g.k = 2 ∧ g.l = nob ∧ g.t = nob) ∨ (g.k = 3 ∧ (g.l = nob ∨ g.t = nob))
 s : g.s.size ≤ 60
 l : g.l.size ≤ 8
 t : g.t.size ≤ 60
 c : checkOf g = 0
theorem app_size (a b : ByteArray) : (a ++ b).size = a.size + b.size := by rw [Lib.size_eq, ba_app, List.length_append, ← Lib.size_eq, ← Lib.size_eq]
theorem bar_nob (k : Int) (s : ByteArray) : barB ⟨k, s, nob, nob⟩ = true := by unfold barB; rw [nob_emp]; rfl
theorem tag_nob (k : Int) (s : ByteArray) : tagB ⟨k, s, nob, nob⟩ = true := by unfold tagB; dsimp only; rw [nob_emp]; rfl
theorem check_lit3 {s l t : ByteArray} (hs : s.size ≤ 60) (hl : l.size ≤ 8) (ht : t.size ≤ 60) (h : tagB ⟨3, s, l, t⟩ = true) : checkOf ⟨3, s, l, t⟩ = 0 := by
 unfold checkOf
 rw [if_neg (by dsimp only; omega), if_neg (by dsimp only; omega), if_neg (by dsimp only; omega), if_neg (by dsimp only; omega), h]
 rfl
theorem num1_size (n : Int) : (num1 n).size ≤ 60 := by unfold num1; repeat' split
                                                       all_goals decide
theorem num2_size (n : Int) : (num2 n).size ≤ 60 := by unfold num2; repeat' split
                                                       all_goals decide
theorem sub_size (s : ByteArray) : (s.extract 0 (min s.size 60)).size ≤ 60 := by
 rw [Lib.size_eq, Lib.extract_data, List.length_take]; omega
theorem ref_xdec : refB xdec = true := by
 unfold refB; rw [emp_false (by decide)]; decide
theorem ref_xint : refB xint = true := by
 unfold refB; rw [emp_false (by decide)]; decide
theorem good_good (x : Tm) : (goodT x).Good := by
 unfold goodT
 have z8 := letL_size x.s 8
 have z5 := letL_size x.s 5
 have z4 := letL_size x.l 4
 have z6 := letL_size x.t 6
 have n0 : nob.size = 0 := rfl
 split
 ·have hsz : (⟨#[104, 116, 116, 112, 58, 47, 47, 120, 47]⟩ ++ bl (letL x.s 8) : ByteArray).size = 9 + (bl (letL x.s 8)).size := app_size _ _
  refine ⟨.inl ⟨rfl, rfl, rfl⟩, by dsimp only; omega, by dsimp only; omega, by dsimp only; omega, ?_⟩
  unfold checkOf
  rw [if_neg (by dsimp only; omega), if_neg (by dsimp only; omega), if_pos rfl, bar_nob]
  have : refB (⟨#[104, 116, 116, 112, 58, 47, 47, 120, 47]⟩ ++ bl (letL x.s 8)) = true := by
   unfold refB
   rw [emp_false (by omega), ba_app, List.all_append, bl_toList, let_all sgn (by decide)]
   decide
  dsimp only
  rw [this]
  rfl
 split
 ·have hsz : (⟨#[98]⟩ ++ bl (letL x.s 5) : ByteArray).size = 1 + (bl (letL x.s 5)).size := app_size _ _
  refine ⟨.inr (.inl ⟨rfl, rfl, rfl⟩), by dsimp only; omega, by dsimp only; omega, by dsimp only; omega, ?_⟩
  unfold checkOf
  rw [if_neg (by dsimp only; omega), if_neg (by dsimp only; omega), if_neg (by dsimp only; omega), if_pos rfl, bar_nob]
  have : labB (⟨#[98]⟩ ++ bl (letL x.s 5)) = true := by
   unfold labB
   rw [emp_false (by omega), ba_app, List.all_append, bl_toList, let_all wrd (by decide), decide_eq_true (by omega)]
   decide
  dsimp only
  rw [this]
  rfl
 split
 ·have hsz : (⟨#[108]⟩ ++ bl (letL x.l 4) : ByteArray).size = 1 + (bl (letL x.l 4)).size := app_size _ _
  refine ⟨.inr (.inr ⟨rfl, .inr rfl⟩), sub_size _, by dsimp only; omega, by dsimp only; omega, check_lit3 (sub_size _) (by omega) (by omega) ?_⟩
  unfold tagB
  dsimp only
  rw [emp_false (by omega), nob_emp]
  have : lanB (⟨#[108]⟩ ++ bl (letL x.l 4)) = true := by
   unfold lanB
   rw [ba_app, List.all_append, bl_toList, let_all lng (by decide)]
   simp [Lib.hasPrefix, List.isPrefixOf, lng, sml]
  rw [this]
  rfl
 split
 ·have hsz : (⟨#[116, 58]⟩ ++ bl (letL x.t 6) : ByteArray).size = 2 + (bl (letL x.t 6)).size := app_size _ _
  refine ⟨.inr (.inr ⟨rfl, .inl rfl⟩), sub_size _, by dsimp only; omega, by dsimp only; omega, check_lit3 (sub_size _) (by omega) (by omega) ?_⟩
  unfold tagB
  dsimp only
  rw [emp_false (s := ⟨#[116, 58]⟩ ++ bl (letL x.t 6)) (by omega), nob_emp]
  have : refB (⟨#[116, 58]⟩ ++ bl (letL x.t 6)) = true := by
   unfold refB
   rw [emp_false (by omega), ba_app, List.all_append, bl_toList, let_all sgn (by decide)]
   decide
  rw [this]
  rfl
 split
 ·refine ⟨.inr (.inr ⟨rfl, .inl rfl⟩), num1_size _, by dsimp only; decide, by dsimp only; decide, check_lit3 (num1_size _) (by decide) (by decide) ?_⟩
  unfold tagB
  dsimp only
  rw [nob_emp, ref_xdec]
  simp
 split
 ·refine ⟨.inr (.inr ⟨rfl, .inl rfl⟩), num2_size _, by dsimp only; decide, by dsimp only; decide, check_lit3 (num2_size _) (by decide) (by decide) ?_⟩
  unfold tagB
  dsimp only
  rw [nob_emp, ref_xint]
  simp
 ·exact ⟨.inr (.inr ⟨rfl, .inl rfl⟩), sub_size _, by dsimp only; decide, by dsimp only; decide, check_lit3 (sub_size _) (by decide) (by decide) (tag_nob _ _)⟩
end Go.Proofs.YtbpdapcmaioeiaaGreat
namespace Go.Proofs.YtbpdapcmaioeiaaGreat
open Go.RowKit
set_option maxRecDepth 100000
theorem tnum_le (x : Int) : ∀ n : Nat, (num (le x n) : Int) = x % 256 ^ n
 | 0 => by simp [num, le, Int.emod_one]
 | n + 1 => by
  have ih := tnum_le x n
  have hp : (0 : Int) < 256 ^ n := Int.pow_pos (by decide)
  have e : (2 : Int) ^ (8 * n) = 256 ^ n := by rw [Int.pow_mul]; rfl
  rw [le_succ, num_snoc, le_length]
  rw [Int.natCast_add, Int.natCast_mul, Int.natCast_pow, ih, byteOf_toNat, e, Int.pow_succ]
  rw [show (((256 : Nat) : Int)) = 256 from rfl]
  generalize (256 : Int) ^ n = M at *
  have h1 := Int.mul_ediv_add_emod x M
  have h2 := Int.mul_ediv_add_emod (x / M) 256
  have h3 := Int.emod_nonneg x (show M ≠ 0 by omega)
  have h4 := Int.emod_lt_of_pos x hp
  have h5 := Int.emod_nonneg (x / M) (show (256 : Int) ≠ 0 by decide)
  have h6 := Int.emod_lt_of_pos (x / M) (show (0 : Int) < 256 by decide)
  generalize hq : x / M = q at *
  generalize hr : x % M = r at *
  generalize hs : q % 256 = s at *
  generalize ht : q / 256 = t at *
  have hb : M * s ≤ M * 255 := Int.mul_le_mul_of_nonneg_left (by omega) (by omega)
  have hb0 : 0 ≤ M * s := Int.mul_nonneg (by omega) h5
  have hx : x = (r + s * M) + M * 256 * t := by
   rw [← h1, ← h2, Int.mul_add, Int.mul_comm s M, Int.mul_assoc]
   omega
  rw [hx, Int.add_mul_emod_self_left, Int.emod_eq_of_lt]
  ·rw [Int.mul_comm s M]; omega
  ·rw [Int.mul_comm s M]; omega
theorem tnum_one (x : Int) : wrap64 (num (le x 1)) = x % 256 := by
 rw [tnum_le]
 simp only [wrap64]
 omega
theorem ttook_front (a t : List UInt8) (n : Nat) (h : a.length = n) : tookOf (a ++ t) 0 n = a ∧ leftOf (a ++ t) 0 n = t ∧ errOf (a ++ t) 0 n = 0 := by
 have hn : n ≤ (a ++ t).length := by simp; omega
 rw [took_ok hn, left_ok hn, err_ok hn]
 subst h
 exact ⟨List.take_left, List.drop_left, rfl⟩
/-- what was written is read -/
theorem tx_read (s : ByteArray) (hs : s.size ≤ 65535) (r : List UInt8) : textOf (tx s ++ r) 0 = s.data.toList ∧ textLeft (tx s ++ r) 0 = r ∧ textErr (tx s ++ r) 0 = 0 := by
 have hm : min (s.size : Int) 65535 = s.size := by omega
 have hl : s.data.toList.length = s.size := by simp
 have htx : tx s = le (s.size : Nat) 2 ++ s.data.toList := by
  unfold tx; rw [hm, List.take_of_length_le (by omega)]
 obtain ⟨a1, a2, a3⟩ := ttook_front (le (s.size : Nat) 2) (s.data.toList ++ r) 2 (le_length _ _)
 have hn : num (le (s.size : Nat) 2) = s.size := by
  have := tnum_le (s.size : Nat) 2
  have h2 : ((s.size : Nat) : Int) % 256 ^ 2 = s.size := by
   have : (256 : Int) ^ 2 = 65536 := by decide
   rw [this]; omega
  rw [h2] at this
  exact_mod_cast this
 obtain ⟨b1, b2, b3⟩ := ttook_front s.data.toList r s.size hl
 unfold textOf textLeft textErr
 rw [htx, List.append_assoc, a1, a2, a3, hn]
 exact ⟨b1, b2, b3⟩
theorem byte_read (k : Int) (h0 : 0 ≤ k) (h1 : k < 256) (r : List UInt8) : wrap64 (num (tookOf (le k 1 ++ r) 0 1)) = k ∧ leftOf (le k 1 ++ r) 0 1 = r ∧ errOf (le k 1 ++ r) 0 1 = 0 := by
 obtain ⟨a1, a2, a3⟩ := ttook_front (le k 1) r 1 (le_length _ _)
 rw [a1, a2, a3, tnum_one]
 exact ⟨by omega, rfl, rfl⟩
/-- What Parse reads, as raw as it is. -/
def rawT (b : List UInt8) : Tm × Int :=
 let l1 := leftOf b 0 1
 let e1 := errOf b 0 1
 let l2 := textLeft l1 e1
 let e2 := textErr l1 e1
 let l3 := textLeft l2 e2
 let e3 := textErr l2 e2
 (⟨wrap64 (num (tookOf b 0 1)), ⟨(textOf l1 e1).toArray⟩, ⟨(textOf l2 e2).toArray⟩, ⟨(textOf l3 e3).toArray⟩⟩, endOf (textLeft l3 e3) (textErr l3 e3))
theorem raw_enc (x : Tm) (h0 : 0 ≤ x.k) (h1 : x.k < 256) (hs : x.s.size ≤ 65535) (hl : x.l.size ≤ 65535) (ht : x.t.size ≤ 65535) : rawT (encT x) = (x, 0) := by
 obtain ⟨k, s, l, t⟩ := x
 dsimp only at h0 h1 hs hl ht
 unfold rawT encT
 dsimp only
 rw [List.append_assoc, List.append_assoc]
 obtain ⟨a1, a2, a3⟩ := byte_read k h0 h1 (tx s ++ (tx l ++ tx t))
 rw [a1, a2, a3]
 obtain ⟨b1, b2, b3⟩ := tx_read s hs (tx l ++ tx t)
 rw [b1, b2, b3]
 obtain ⟨c1, c2, c3⟩ := tx_read l hl (tx t)
 rw [c1, c2, c3]
 obtain ⟨d1, d2, d3⟩ := tx_read t ht []
 rw [List.append_nil] at d1 d2 d3
 rw [d1, d2, d3]
 rfl
end Go.Proofs.YtbpdapcmaioeiaaGreat
namespace Go.Proofs.YtbpdapcmaioeiaaGreat
open Go.RowKit
set_option maxRecDepth 100000
/-- A term in a block; one that may be written. -/
def Box (W : World) (b : Nat) (x : Tm) : Prop := W.cell? ⟨b, 0, none⟩ = some (.int .i64 x.k) ∧ W.cell? ⟨b, 1, none⟩ = some (.string x.s) ∧ W.cell? ⟨b, 2, none⟩ = some (.string x.l) ∧ W.cell? ⟨b, 3, none⟩ = some (.string x.t)
theorem Box.lt {W : World} {b : Nat} {x : Tm} (h : Box W b x) : b < W.heap.size := World.block_lt_of_cell? W _ h.1
theorem Box.below {W W' : World} {b : Nat} {x : Tm} (h : Box W b x) (hb : Below W.heap.size W W') : Box W' b x :=
 ⟨(hb.cell (p := ⟨b, 0, none⟩) h.lt).trans h.1, (hb.cell (p := ⟨b, 1, none⟩) h.lt).trans h.2.1, (hb.cell (p := ⟨b, 2, none⟩) h.lt).trans h.2.2.1, (hb.cell (p := ⟨b, 3, none⟩) h.lt).trans h.2.2.2⟩
def Mine (W : World) (b : Nat) (x : Tm) : Prop := Box W b x ∧ W.frozen? ⟨b, 0, none⟩ = false ∧ W.frozen? ⟨b, 1, none⟩ = false ∧ W.frozen? ⟨b, 2, none⟩ = false ∧ W.frozen? ⟨b, 3, none⟩ = false
theorem Mine.below {W W' : World} {b : Nat} {x : Tm} (h : Mine W b x) (hb : Below W.heap.size W W') : Mine W' b x :=
 ⟨h.1.below hb, (hb.frozen (p := ⟨b, 0, none⟩) h.1.lt).trans h.2.1, (hb.frozen (p := ⟨b, 1, none⟩) h.1.lt).trans h.2.2.1, (hb.frozen (p := ⟨b, 2, none⟩) h.1.lt).trans h.2.2.2.1, (hb.frozen (p := ⟨b, 3, none⟩) h.1.lt).trans h.2.2.2.2⟩
theorem Mine.new (W : World) : Mine (W.alloc (.cells #[.int .i64 0, .string ⟨#[]⟩, .string ⟨#[]⟩, .string ⟨#[]⟩] 59)) W.heap.size ⟨0, ⟨#[]⟩, ⟨#[]⟩, ⟨#[]⟩⟩ := by
 refine ⟨⟨?_, ?_, ?_, ?_⟩, ?_, ?_, ?_, ?_⟩ <;> simp
theorem cell_of_set {W : World} {a b : Addr} {v u : Value} (h : W.cell? b = some u) : (W.setCell a v).cell? b = some (if a = b then v else u) := by
 by_cases e : a = b
 ·subst e; rw [if_pos rfl]; exact World.cell?_setCell_same W _ _ h
 ·rw [if_neg e]; exact (World.cell?_setCell_other W _ _ _ e).trans h
end Go.Proofs.YtbpdapcmaioeiaaGreat
namespace Go.Proofs.YtbpdapcmaioeiaaGreat
open Go.RowKit
set_option maxRecDepth 100000
end Go.Proofs.YtbpdapcmaioeiaaGreat
namespace Go.Proofs.YtbpdapcmaioeiaaGreat
open Go.RowKit Go.ChangeShapes Go.WideShapes
set_option maxRecDepth 100000
end Go.Proofs.YtbpdapcmaioeiaaGreat
