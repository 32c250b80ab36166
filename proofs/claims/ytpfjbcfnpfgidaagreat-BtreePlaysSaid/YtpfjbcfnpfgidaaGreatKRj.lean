/- Rj -/
import Derived.Test.YtpfjbcfnpfgidaaGreatKHi
import Derived.Test.YtpfjbcfnpfgidaaGreatKRh
import Derived.Test.YtpfjbcfnpfgidaaGreatKRi
namespace Go.Proofs.YtpfjbcfnpfgidaaGreat
open Go.RowKit Go.Maps
set_option maxRecDepth 100000
set_option linter.unusedVariables false
def DoTo5 (w0 : World) (r p N M c : Nat) (G : Lg) (fl tot B x : Nat) (e : Ending) (w' : World) : Prop :=
 ∃ (X' : Nat → Prop) (m : Nat) (t' : BT Ent m) (H' : Lg) (c' : Nat) (kv' vv' : Value), e = .returned (.tuple #[.int .i64 (t'.page : Int), .bool true]) ∧ c' ≤ c + 110 ∧ t'.flat.length ≤ fl + 1 ∧ Bo w0 w' X' r p N M c' G H' t' tot B x kv' vv'
set_option maxHeartbeats 2000000 in
theorem set_long (pv : Value) (root : Int) (key val : ByteArray) (hk : key.size ≤ 1000000) (hv : val.size ≤ 1000000) (hb : 140 < key.size ∨ 150 < key.size + val.size) (w : World) :
 Calls Tryz.prog 38 #[pv, .int .i64 root, .string key, .string val] w fun e w' => e = .returned (.tuple #[.int .i64 0, .int .i64 5]) ∧ w' = w := by
 go_enter Tryz.func38, Tryz.ntmps38
 go_wp2_with fail
 refine wp_scope_jumps 0 (fun a' w' => ∃ u0 u1 u2 u3 u4 u5 u6 u7 u8 u9 u10 u11 u12 u14 u15 u16 u17 u18 u19 u20 u21 u22 u23 u24 u25 u26 u27 u28 u29 u30 u31 u32 u33 u34 u35 u36 u37 u38 u39 u40 u41 u42 u43 u44 u45 u46 u47 u48 u49 u50 u51 u52 u53 u54 u55 u56 u57 u58 u59 u60 u61 u62 u63 u64 u65 u66 u67 u68 : Value, a' = { tmps := #[u0, u1, u2, u3, u4, u5, u6, u7, u8, u9, u10, u11, u12, .int .i64 5, u14, u15, u16, u17, u18, u19, u20, u21, u22, u23, u24, u25, u26, u27, u28, u29, u30, u31, u32, u33, u34, u35, u36, u37, u38, u39, u40, u41, u42, u43, u44, u45, u46, u47, u48, u49, u50, u51, u52, u53, u54, u55, u56, u57, u58, u59, u60, u61, u62, u63, u64, u65, u66, u67, u68], defers := [] } ∧ w' = w) (fun _ _ => 0) rfl ?_ ?_
 ·by_cases h1 : (140 : Int) < key.size
  ·clear hb
   go_wp2_with fail
   go_step3
   exact ⟨rfl, ⟨_, _, _, _, _, _, _, _, _, _, _, _, _, _, _, _, _, _, _, _, _, _, _, _, _, _, _, _, _, _, _, _, _, _, _, _, _, _, _, _, _, _, _, _, _, _, _, _, _, _, _, _, _, _, _, _, _, _, _, _, _, _, _, _, _, _, _, _, rfl, rfl⟩⟩
  ·have h2 : (150 : Int) < (key.size : Int) + val.size := by omega
   clear hb
   go_wp2_with fail
   go_step3
   exact ⟨rfl, ⟨_, _, _, _, _, _, _, _, _, _, _, _, _, _, _, _, _, _, _, _, _, _, _, _, _, _, _, _, _, _, _, _, _, _, _, _, _, _, _, _, _, _, _, _, _, _, _, _, _, _, _, _, _, _, _, _, _, _, _, _, _, _, _, _, _, _, _, _, rfl, rfl⟩⟩
 ·rintro a' w' ⟨u0, u1, u2, u3, u4, u5, u6, u7, u8, u9, u10, u11, u12, u14, u15, u16, u17, u18, u19, u20, u21, u22, u23, u24, u25, u26, u27, u28, u29, u30, u31, u32, u33, u34, u35, u36, u37, u38, u39, u40, u41, u42, u43, u44, u45, u46, u47, u48, u49, u50, u51, u52, u53, u54, u55, u56, u57, u58, u59, u60, u61, u62, u63, u64, u65, u66, u67, u68, rfl, rfl⟩
  go_wp2
  simp only [Exit.jump]
  go_ret2
  exact ⟨rfl, rfl⟩
set_option maxHeartbeats 4000000 in
theorem do5_set {w0 w : World} {X : Nat → Prop} {r p N M c : Nat} {G H : Lg} {n : Nat} {t : BT Ent n} {tot B x : Nat} {kv vv : Value} (h : Bo w0 w X r p N M c G H t tot B x kv vv) (kind num : Int) (key val : ByteArray) (hk : key.size ≤ 1000) (hv : val.size ≤ 1000) (hl : t.flat.length ≤ 1000) (hroom : 25 ≤ H.free.length) (hc : c + 300000 < 500000) (hkk : 0 ≤ kind % 11 ∧ kind % 11 ≤ 5) :
 Calls Tryz.prog 13 #[.agg #[.int .i64 kind, .int .i64 num, .string key, .string val], .pointer (some ⟨p, 0, none⟩), .int .i64 (t.page : Int), .pointer (some ⟨x, 0, none⟩)] w (DoTo5 w0 r p N M c G t.flat.length tot B x) := by
 have hb := Blk.new w #[.int .i64 kind, .int .i64 num, .string key, .string val] 36
 have hal : Below w.heap.size w (w.alloc (.cells #[.int .i64 kind, .int .i64 num, .string key, .string val] 36)) := (Below.refl _ w).alloc (Nat.le_refl _) _
 have h1 := h.take hal
 have hxb : w.heap.size < (w.alloc (.cells #[.int .i64 kind, .int .i64 num, .string key, .string val] 36)).heap.size := hb.lt
 obtain ⟨w1, hw1⟩ : ∃ w1, w1 = w.alloc (.cells #[.int .i64 kind, .int .i64 num, .string key, .string val] 36) := ⟨_, rfl⟩
 obtain ⟨b0, hb0⟩ : ∃ b0, b0 = w.heap.size := ⟨_, rfl⟩
 rw [← hw1] at hb hxb h1
 rw [← hb0] at hb hxb h1
 have HW := Lib.hid (And.intro hw1 hb0)
 have c0 : (w.alloc (.cells #[.int .i64 kind, .int .i64 num, .string key, .string val] 36)).cell? ⟨w.heap.size, 0, none⟩ = some (.int .i64 kind) := by rw [← hw1, ← hb0, hb.cell]; rfl
 have hX0 : (fun k => X k ∨ (b0 ≤ k ∧ k < w1.heap.size)) b0 := .inr ⟨Nat.le_refl _, hxb⟩
 have hw0 := h1.low b0 hX0
 have hwi := fun w => within5_eq kind 11 (by omega) (by omega) w
 obtain ⟨kk, hkk'⟩ : ∃ kk, kk = kind % 11 := ⟨_, rfl⟩
 rw [← hkk'] at hwi hkk
 obtain ⟨pg, hpg⟩ : ∃ pg : Int, pg = (t.page : Int) := ⟨_, rfl⟩
 rw [← hpg]
 have HB := Lib.hid hb
 have HX0 := Lib.hid hX0
 have HW0 := Lib.hid hw0
 have HPG := Lib.hid hpg
 have HWI := Lib.hid hwi
 have HL := Lib.hid hl
 by_cases hs : key.size ≤ 140 ∧ key.size + val.size ≤ 150
 ·have hst := set_tree h1.pb h1.tree hroom key val hs.1 hs.2 hc
  rw [← hpg] at hst
  have HST := Lib.hid hst
  have H1 := Lib.hid h1
  have HS := Lib.hid hs
  clear h hb hal h1 hw1 hb0 hwi hpg hst hs hkk' hX0 hw0 hxb hroom hc hl
  rcases (show kk = 0 ∨ kk = 1 ∨ kk = 2 ∨ kk = 3 ∨ kk = 4 ∨ kk = 5 by omega) with rfl | rfl | rfl | rfl | rfl | rfl
  all_goals
   clear hkk
   go_enter Tryz.func13, Tryz.ntmps13
   go_wp2_with fail
   refine (HWI.out _).mono ?_
   rintro en wz ⟨rfl, rfl⟩
   clear c0
   rw [← HW.out.2, ← HW.out.1]
   have c2 : w1.cell? ⟨b0, 2, none⟩ = some (.string key) := by rw [HB.out.cell]; rfl
   have c3 : w1.cell? ⟨b0, 3, none⟩ = some (.string val) := by rw [HB.out.cell]; rfl
   go_wp2_with fail
   refine HST.out.mono ?_
   rintro en w2 ⟨m, t', H', c', rfl, hc', hch, hpb, hmx⟩
   obtain ⟨pg', hpg'⟩ : ∃ pg' : Int, pg' = (t'.page : Int) := ⟨_, rfl⟩
   rw [← hpg']
   have hb2 := HB.out.moved hmx (fun e => e.2 HX0.out)
   have hfl : (setL key val t.flat).length ≤ t.flat.length + 1 := setL_most key val H1.out.tree.sorted
   have hmp := rset_tree (H1.out.half hmx) (.inl rfl) H1.out.tree.sorted key val (by have := HL.out; omega) HS.out.1 HS.out.2
   replace c2 : w2.cell? ⟨b0, 2, none⟩ = some (.string key) := by rw [hb2.cell]; rfl
   replace c3 : w2.cell? ⟨b0, 3, none⟩ = some (.string val) := by rw [hb2.cell]; rfl
   have HMP := Lib.hid hmp
   have HCH := Lib.hid (And.intro hc' (And.intro hch (And.intro hpb (And.intro hfl hpg'))))
   clear hb2 hmp hc' hch hpb hmx hfl hpg' HST
   go_wp2_with fail
   refine HMP.out.mono ?_
   rintro en w3 ⟨rfl, kv', vv', hm3⟩
   have HM3 := Lib.hid hm3
   clear hm3 c2 c3 HMP
   go_wp2_with fail
   go_ret2
   obtain ⟨hc', hch, hpb, hfl, hpg'⟩ := HCH.out
   have hbo := H1.out.both hpb hch HM3.out
   rw [hpg']
   exact ⟨_, m, t', H', c', kv', vv', rfl, hc', by rw [hch.flat]; exact hfl, hbo⟩
 ·have hsl := fun w => set_long (.pointer (some ⟨p, 0, none⟩)) pg key val (by omega) (by omega) (by omega) w
  have hrl := fun w => rset_long x key val hk hv (by omega) w
  have HSL := Lib.hid hsl
  have HRL := Lib.hid hrl
  have H1 := Lib.hid h1
  clear h hb hal h1 hw1 hb0 hwi hpg hs hkk' hX0 hw0 hxb hsl hrl hroom hc hl
  rcases (show kk = 0 ∨ kk = 1 ∨ kk = 2 ∨ kk = 3 ∨ kk = 4 ∨ kk = 5 by omega) with rfl | rfl | rfl | rfl | rfl | rfl
  all_goals
   clear hkk
   go_enter Tryz.func13, Tryz.ntmps13
   go_wp2_with fail
   refine (HWI.out _).mono ?_
   rintro en wz ⟨rfl, rfl⟩
   clear c0
   rw [← HW.out.2, ← HW.out.1]
   have c2 : w1.cell? ⟨b0, 2, none⟩ = some (.string key) := by rw [HB.out.cell]; rfl
   have c3 : w1.cell? ⟨b0, 3, none⟩ = some (.string val) := by rw [HB.out.cell]; rfl
   go_wp2_with fail
   refine (HSL.out _).mono ?_
   rintro en w2 ⟨rfl, hw2⟩
   obtain rfl := hw2.symm
   go_wp2_with fail
   refine (HRL.out _).mono ?_
   rintro en w3 ⟨rfl, hw3⟩
   obtain rfl := hw3.symm
   clear c2 c3
   go_wp2_with fail
   go_ret2
   rw [HPG.out]
   exact ⟨_, n, t, H, c, kv, vv, rfl, Nat.le_add_right _ _, Nat.le_succ _, H1.out⟩
set_option maxHeartbeats 4000000 in
theorem do5_del {w0 w : World} {X : Nat → Prop} {r p N M c : Nat} {G H : Lg} {n : Nat} {t : BT Ent n} {tot B x : Nat} {kv vv : Value} (h : Bo w0 w X r p N M c G H t tot B x kv vv) (kind num : Int) (key val : ByteArray) (hl : t.flat.length ≤ 1000) (hroom : 25 ≤ H.free.length) (hc : c + 300000 < 500000) (hkk : 6 ≤ kind % 11 ∧ kind % 11 ≤ 8) :
 Calls Tryz.prog 13 #[.agg #[.int .i64 kind, .int .i64 num, .string key, .string val], .pointer (some ⟨p, 0, none⟩), .int .i64 (t.page : Int), .pointer (some ⟨x, 0, none⟩)] w (DoTo5 w0 r p N M c G t.flat.length tot B x) := by
 have hb := Blk.new w #[.int .i64 kind, .int .i64 num, .string key, .string val] 36
 have hal : Below w.heap.size w (w.alloc (.cells #[.int .i64 kind, .int .i64 num, .string key, .string val] 36)) := (Below.refl _ w).alloc (Nat.le_refl _) _
 have h1 := h.take hal
 have hxb : w.heap.size < (w.alloc (.cells #[.int .i64 kind, .int .i64 num, .string key, .string val] 36)).heap.size := hb.lt
 obtain ⟨w1, hw1⟩ : ∃ w1, w1 = w.alloc (.cells #[.int .i64 kind, .int .i64 num, .string key, .string val] 36) := ⟨_, rfl⟩
 obtain ⟨b0, hb0⟩ : ∃ b0, b0 = w.heap.size := ⟨_, rfl⟩
 rw [← hw1] at hb hxb h1
 rw [← hb0] at hb hxb h1
 have HW := Lib.hid (And.intro hw1 hb0)
 have c0 : (w.alloc (.cells #[.int .i64 kind, .int .i64 num, .string key, .string val] 36)).cell? ⟨w.heap.size, 0, none⟩ = some (.int .i64 kind) := by rw [← hw1, ← hb0, hb.cell]; rfl
 have hX0 : (fun k => X k ∨ (b0 ≤ k ∧ k < w1.heap.size)) b0 := .inr ⟨Nat.le_refl _, hxb⟩
 have hw0 := h1.low b0 hX0
 have hwi := fun w => within5_eq kind 11 (by omega) (by omega) w
 obtain ⟨kk, hkk'⟩ : ∃ kk, kk = kind % 11 := ⟨_, rfl⟩
 rw [← hkk'] at hwi hkk
 have hst := del_tree h1.pb h1.tree hroom key hc
 obtain ⟨pg, hpg⟩ : ∃ pg : Int, pg = (t.page : Int) := ⟨_, rfl⟩
 rw [← hpg] at hst ⊢
 obtain ⟨bf, hbf⟩ : ∃ bf, bf = (t.flat.find? (sameK key)).isSome := ⟨_, rfl⟩
 rw [← hbf] at hst
 have HB := Lib.hid hb
 have HX0 := Lib.hid hX0
 have HWI := Lib.hid hwi
 have HL := Lib.hid hl
 have HST := Lib.hid hst
 have H1 := Lib.hid h1
 have HBF := Lib.hid hbf
 clear h hb hal h1 hw1 hb0 hwi hpg hst hkk' hX0 hw0 hxb hroom hc hl hbf
 rcases (show kk = 6 ∨ kk = 7 ∨ kk = 8 by omega) with rfl | rfl | rfl
 all_goals
  clear hkk
  go_enter Tryz.func13, Tryz.ntmps13
  go_wp2_with fail
  refine (HWI.out _).mono ?_
  rintro en wz ⟨rfl, rfl⟩
  clear c0
  rw [← HW.out.2, ← HW.out.1]
  have c2 : w1.cell? ⟨b0, 2, none⟩ = some (.string key) := by rw [HB.out.cell]; rfl
  have c3 : w1.cell? ⟨b0, 3, none⟩ = some (.string val) := by rw [HB.out.cell]; rfl
  go_wp2_with fail
  refine HST.out.mono ?_
  rintro en w2 ⟨m, t', H', c', rfl, hc', hch, hpb, hmx⟩
  obtain ⟨pg', hpg'⟩ : ∃ pg' : Int, pg' = (t'.page : Int) := ⟨_, rfl⟩
  rw [← hpg']
  have hb2 := HB.out.moved hmx (fun e => e.2 HX0.out)
  have hfl : (delL key t.flat).length ≤ t.flat.length := List.length_filter_le _ _
  have hmp := rdel_tree (H1.out.half hmx) (.inl rfl) H1.out.tree.sorted key (by have := HL.out; omega)
  rw [← HBF.out] at hmp
  replace c2 : w2.cell? ⟨b0, 2, none⟩ = some (.string key) := by rw [hb2.cell]; rfl
  have HMP := Lib.hid hmp
  have HCH := Lib.hid (And.intro hc' (And.intro hch (And.intro hpb (And.intro hfl hpg'))))
  clear hb2 hmp hc' hch hpb hmx hfl hpg' HST c3
  go_wp2_with fail
  refine HMP.out.mono ?_
  rintro en w3 ⟨rfl, kv', vv', hm3⟩
  have HM3 := Lib.hid hm3
  clear hm3 c2 HMP
  go_wp2_with fail
  go_ret2
  obtain ⟨hc', hch, hpb, hfl, hpg'⟩ := HCH.out
  have hbo := H1.out.both hpb hch HM3.out
  rw [hpg']
  exact ⟨_, m, t', H', c', kv', vv', rfl, hc', by rw [hch.flat]; omega, hbo⟩
set_option maxHeartbeats 4000000 in
theorem do5_get {w0 w : World} {X : Nat → Prop} {r p N M c : Nat} {G H : Lg} {n : Nat} {t : BT Ent n} {tot B x : Nat} {kv vv : Value} (h : Bo w0 w X r p N M c G H t tot B x kv vv) (kind num : Int) (key val : ByteArray) (hl : t.flat.length ≤ 1000) (hkk : kind % 11 = 9) :
 Calls Tryz.prog 13 #[.agg #[.int .i64 kind, .int .i64 num, .string key, .string val], .pointer (some ⟨p, 0, none⟩), .int .i64 (t.page : Int), .pointer (some ⟨x, 0, none⟩)] w (DoTo5 w0 r p N M c G t.flat.length tot B x) := by
 have hb := Blk.new w #[.int .i64 kind, .int .i64 num, .string key, .string val] 36
 have hal : Below w.heap.size w (w.alloc (.cells #[.int .i64 kind, .int .i64 num, .string key, .string val] 36)) := (Below.refl _ w).alloc (Nat.le_refl _) _
 have h1 := h.take hal
 have hxb : w.heap.size < (w.alloc (.cells #[.int .i64 kind, .int .i64 num, .string key, .string val] 36)).heap.size := hb.lt
 obtain ⟨w1, hw1⟩ : ∃ w1, w1 = w.alloc (.cells #[.int .i64 kind, .int .i64 num, .string key, .string val] 36) := ⟨_, rfl⟩
 obtain ⟨b0, hb0⟩ : ∃ b0, b0 = w.heap.size := ⟨_, rfl⟩
 rw [← hw1] at hb hxb h1
 rw [← hb0] at hb hxb h1
 have HW := Lib.hid (And.intro hw1 hb0)
 have c0 : (w.alloc (.cells #[.int .i64 kind, .int .i64 num, .string key, .string val] 36)).cell? ⟨w.heap.size, 0, none⟩ = some (.int .i64 kind) := by rw [← hw1, ← hb0, hb.cell]; rfl
 have hX0 : (fun k => X k ∨ (b0 ≤ k ∧ k < w1.heap.size)) b0 := .inr ⟨Nat.le_refl _, hxb⟩
 have hw0 := h1.low b0 hX0
 have hwi := fun w => within5_eq kind 11 (by omega) (by omega) w
 rw [hkk] at hwi
 have hlow := h1.tree.low
 have hst := get_any h1.pb (H := some H) h1.tree.stored h1.tree.root h1.tree.sorted key (by omega)
 obtain ⟨pg, hpg⟩ : ∃ pg : Int, pg = (t.page : Int) := ⟨_, rfl⟩
 rw [← hpg] at hst ⊢
 have hgf := get_find key h1.tree.sorted
 have hif := isK_find key h1.tree.sorted
 obtain ⟨g, bf, hst, hg1, hg2⟩ : ∃ (g : ByteArray) (bf : Bool), (Calls Tryz.prog 42 #[.pointer (some ⟨p, 0, none⟩), .int .i64 pg, .string key] w1 fun e w' => e = .returned (.tuple #[.string g, .bool bf, .int .i64 0]) ∧ Below w1.heap.size w1 w') ∧ getKV key (keysL t.flat) (valsL t.flat) = g ∧ isK key (keysL t.flat) = bf := by
  rw [hgf, hif]
  cases hf : t.flat.find? (sameK key) with
  | none => rw [hf] at hst; exact ⟨⟨#[]⟩, false, hst, rfl, rfl⟩
  | some y => rw [hf] at hst; exact ⟨y.val, true, hst, rfl, rfl⟩
 have hlk : (valsL t.flat).length = (keysL t.flat).length := by unfold valsL keysL; rw [List.length_map, List.length_map]
 have hll : (keysL t.flat).length ≤ 1000000 := by unfold keysL; rw [List.length_map]; omega
 have hmp := fun w' hb => rget_map (w := w') (h1.read hb).map hlk key hll
 rw [hg1, hg2] at hmp
 have HB := Lib.hid hb
 have HWI := Lib.hid hwi
 have HST := Lib.hid hst
 have HMP := Lib.hid hmp
 have H1 := Lib.hid h1
 have HPG := Lib.hid hpg
 clear h hb hal h1 hw1 hb0 hwi hpg hst hkk hX0 hw0 hxb hl hlow hgf hif hg1 hg2 hlk hll hmp
 ·skip
  go_enter Tryz.func13, Tryz.ntmps13
  go_wp2_with fail
  refine (HWI.out _).mono ?_
  rintro en wz ⟨rfl, rfl⟩
  clear c0
  rw [← HW.out.2, ← HW.out.1]
  have c2 : w1.cell? ⟨b0, 2, none⟩ = some (.string key) := by rw [HB.out.cell]; rfl
  have c3 : w1.cell? ⟨b0, 3, none⟩ = some (.string val) := by rw [HB.out.cell]; rfl
  go_wp2_with fail
  refine HST.out.mono ?_
  rintro en w2 ⟨rfl, hb2⟩
  replace c2 : w2.cell? ⟨b0, 2, none⟩ = some (.string key) := (hb2.cell (show (⟨b0, 2, none⟩ : Addr).block < _ from HB.out.lt)).trans c2
  have HM2 := Lib.hid (HMP.out w2 hb2)
  have HB2 := Lib.hid hb2
  clear hb2 HMP HST c3
  go_wp2_with fail
  refine HM2.out.mono ?_
  rintro en w3 ⟨rfl, hb3⟩
  have HB3 := Lib.hid hb3
  clear hb3 c2 HM2
  go_wp2_with fail
  go_ret2
  rw [HPG.out]
  refine ⟨_, n, t, H, c, kv, vv, ?_, Nat.le_add_right _ _, Nat.le_succ _, (H1.out.read HB2.out).read HB3.out⟩
  first | rfl | simp
end Go.Proofs.YtpfjbcfnpfgidaaGreat
