/- New; Set of what is too long; Count at a leaf; the walk of BtreeLong. -/
import Derived.Test.YtcnfnpccbnnplaaB5r
import Derived.Test.YtcnfnpccbnnplaaPgKept
namespace Go.Proofs.Ytcnfnpccbnnplaa
open Go.RowKit Go.Maps
set_option maxRecDepth 100000
set_option linter.unusedVariables false

theorem bt_new {w0 w : World} {X : Nat → Prop} {r p N M c : Nat} {G : Lg} {H : Lg} (h : Pb w0 w X r p N M c G (some H)) (hc : c + 1 < 500000) {a : Nat} {rest : List Nat} (hf : H.free = a :: rest) :
    Calls Try.prog 28 #[.pointer (some ⟨p, 0, none⟩)] w fun e w' => e = .returned (.tuple #[.int .i64 a, .int .i64 0]) ∧
      Pb w0 w' X r p N M (c + 2) G (some { H with free := rest, page := upd H.page a (page (enc 0 [])) }) ∧ Mx w0 X w w' := by
  have HA := Lib.hid (bt_add h hc hf 0 (.slice none 0 0) [] (Ens.nil w) (fun h => by simp at h) (fun e he => by simp at he) (fun k => by simp [encs]) (by simp) (by decide))
  clear h hf
  go_enter Try.func28, Try.ntmps28
  go_wp2_with fail
  refine HA.out.mono ?_
  rintro e w1 ⟨rfl, h1, hm⟩
  have H1 := Lib.hid h1
  have HM := Lib.hid hm
  clear h1 hm HA
  go_wp2_with fail
  go_ret2
  exact ⟨rfl, H1.out, HM.out⟩

set_option maxHeartbeats 2000000 in
theorem set_long (pv : Value) (root : Int) (key val : ByteArray) (hk : key.size ≤ 1000000) (hv : val.size ≤ 1000000) (hb : 140 < key.size ∨ 150 < key.size + val.size) (w : World) :
    Calls Try.prog 29 #[pv, .int .i64 root, .string key, .string val] w fun e w' => e = .returned (.tuple #[.int .i64 0, .int .i64 5]) ∧ w' = w := by
  go_enter Try.func29, Try.ntmps29
  go_wp2_with fail
  refine wp_scope_jumps 0 (fun a' w' => ∃ u0 u1 u2 u3 u4 u5 u6 u7 u8 u9 u10 u11 u12 u14 u15 u16 u17 u18 u19 u20 u21 u22 u23 u24 u25 u26 u27 u28 u29 u30 u31 u32 u33 u34 u35 u36 u37 u38 u39 u40 u41 u42 u43 u44 u45 u46 u47 u48 u49 u50 u51 u52 u53 u54 u55 u56 u57 u58 u59 u60 u61 u62 u63 u64 u65 u66 u67 u68 : Value, a' = { tmps := #[u0, u1, u2, u3, u4, u5, u6, u7, u8, u9, u10, u11, u12, .int .i64 5, u14, u15, u16, u17, u18, u19, u20, u21, u22, u23, u24, u25, u26, u27, u28, u29, u30, u31, u32, u33, u34, u35, u36, u37, u38, u39, u40, u41, u42, u43, u44, u45, u46, u47, u48, u49, u50, u51, u52, u53, u54, u55, u56, u57, u58, u59, u60, u61, u62, u63, u64, u65, u66, u67, u68], defers := [] } ∧ w' = w) (fun _ _ => 0) rfl ?_ ?_
  · by_cases h1 : (140 : Int) < key.size
    · clear hb
      go_wp2_with fail
      go_step3
      exact ⟨rfl, ⟨_, _, _, _, _, _, _, _, _, _, _, _, _, _, _, _, _, _, _, _, _, _, _, _, _, _, _, _, _, _, _, _, _, _, _, _, _, _, _, _, _, _, _, _, _, _, _, _, _, _, _, _, _, _, _, _, _, _, _, _, _, _, _, _, _, _, _, _, rfl, rfl⟩⟩
    · have h2 : (150 : Int) < (key.size : Int) + val.size := by omega
      clear hb
      go_wp2_with fail
      go_step3
      exact ⟨rfl, ⟨_, _, _, _, _, _, _, _, _, _, _, _, _, _, _, _, _, _, _, _, _, _, _, _, _, _, _, _, _, _, _, _, _, _, _, _, _, _, _, _, _, _, _, _, _, _, _, _, _, _, _, _, _, _, _, _, _, _, _, _, _, _, _, _, _, _, _, _, rfl, rfl⟩⟩
  · rintro a' w' ⟨u0, u1, u2, u3, u4, u5, u6, u7, u8, u9, u10, u11, u12, u14, u15, u16, u17, u18, u19, u20, u21, u22, u23, u24, u25, u26, u27, u28, u29, u30, u31, u32, u33, u34, u35, u36, u37, u38, u39, u40, u41, u42, u43, u44, u45, u46, u47, u48, u49, u50, u51, u52, u53, u54, u55, u56, u57, u58, u59, u60, u61, u62, u63, u64, u65, u66, u67, u68, rfl, rfl⟩
    go_wp2
    simp only [Exit.jump]
    go_ret2
    exact ⟨rfl, rfl⟩
end Go.Proofs.Ytcnfnpccbnnplaa
namespace Go.Proofs.Ytcnfnpccbnnplaa
open Go.RowKit Go.Maps
set_option maxRecDepth 100000
set_option linter.unusedVariables false

/-- onward: of a way of one step there is no next leaf. -/
theorem onward_leaf (pv : Value) (g cap : Nat) (w : World) :
    Calls Try.prog 99 #[pv, .slice (some ⟨g, 0, none⟩) 1 cap] w fun e w' => e = .returned (.tuple #[.slice none 0 0, .int .i64 0]) ∧ w' = w := by
  go_enter Try.func99, Try.ntmps99
  go_wp2_with fail
  refine wp_loop_rounds 1 ?_
  rw [rounds_succ]
  go_wp2_with fail
  go_ret2
  exact ⟨rfl, rfl⟩

/-- Count's look at an entry. -/
theorem countq_any (b : Nat) (k : Nat) (hk : k ≤ 1000000) (e : Ent) (w : World) (hb : Blk w b #[.int .i64 k] 3) :
    Calls Try.prog 70 #[e.agg, .pointer (some ⟨b, 0, none⟩)] w fun en w' => en = .returned (.bool true) ∧ Blk w' b #[.int .i64 ((k : Int) + 1)] 3 ∧ Moved (· = b) w w' := by
  have hal : Below w.heap.size w (w.alloc (.cells #[.string e.key, .string e.val, .int .i64 e.kid] 117)) := (Below.refl _ w).alloc (Nat.le_refl _) _
  have hb1 := hb.moved (Moved.of_below hal (fun _ => False)) (fun h => h)
  have c0 : (w.alloc (.cells #[.string e.key, .string e.val, .int .i64 e.kid] 117)).cell? ⟨b, 0, none⟩ = some (.int .i64 k) := by rw [hb1.cell]; rfl
  have f0 := hb1.frozen 0
  have HB1 := Lib.hid hb1
  have HAL := Lib.hid hal
  clear hb hal hb1
  unfold Ent.agg
  go_enter Try.func70, Try.ntmps70
  go_wp2_with fail
  go_ret
  exact ⟨rfl, HB1.out.set 0 _, (Moved.of_below HAL.out (· = b)).setCell _ _ (.inl rfl)⟩
end Go.Proofs.Ytcnfnpccbnnplaa
namespace Go.Proofs.Ytcnfnpccbnnplaa
open Go.RowKit Go.Maps
set_option maxRecDepth 100000
set_option linter.unusedVariables false

theorem ge_empty (a : ByteArray) : geB a ⟨#[]⟩ = true := by
  unfold geB
  have : (⟨#[]⟩ : ByteArray).toList = [] := by unfold ByteArray.toList; unfold ByteArray.toList.loop; rfl
  rw [this]
  cases a.toList <;> rfl
theorem place_empty {es : List Ent} {m : Nat} (h : PlaceOf es ⟨#[]⟩ m) : m = 0 := by
  obtain ⟨h1, -, h3⟩ := h
  rcases h3 with h3 | h3
  · exact h3
  · by_cases h0 : m = 0
    · exact h0
    · unfold geK at h3
      rw [List.getElem?_eq_getElem (by omega)] at h3
      simp only [ge_empty] at h3
      cases h3

set_option maxHeartbeats 4000000 in
theorem walk_count {w0 w : World} {X : Nat → Prop} {r p N M c : Nat} {G : Lg} {H : Option Lg} (h : Pb w0 w X r p N M c G H) {root : Int} {es : List Ent} (hn : NodeAt N (H.getD G) root 0 es) (b : Nat) (hb : Blk w b #[.int .i64 0] 3) :
    Calls Try.prog 68 #[.pointer (some ⟨p, 0, none⟩), .int .i64 root, .string ⟨#[]⟩, .func (.func 70) #[] #[.pointer (some ⟨b, 0, none⟩)]] w fun e w' => e = .returned (.int .i64 0) ∧ Blk w' b #[.int .i64 es.length] 3 ∧ Moved (· = b) w w' := by
  have HW := Lib.hid (way_leaf h (root := root) (es := es) hn ⟨#[]⟩)
  have HFEW := Lib.hid hn.few
  have HB := Lib.hid hb
  clear h hn hb
  go_enter Try.func68, Try.ntmps68
  go_wp2_with fail
  go_step3
  go_wp2_with fail
  refine HW.out.mono ?_
  rintro en w1 ⟨m, g, cp, v, rfl, ⟨hpl, hx1, hx2, hst, ho⟩, hb1⟩
  obtain rfl := place_empty hpl
  have hcell : ∀ j u, [Value.int .i64 root, .int .i64 0, v, .int .i64 (0 : Nat)][j]? = some u → w1.cell? ⟨g, j, none⟩ = some u := by
    intro j u hj
    have hlt : j < 4 := by have := (List.getElem?_eq_some_iff.1 hj).1; exact this
    rcases hst.2 with ⟨e, -⟩ | ⟨g', cap', cur, e, -, hh, k1, k2, k3, k4⟩
    · cases e
    · simp only [Value.slice.injEq, Option.some.injEq, Addr.mk.injEq, and_true] at e
      obtain ⟨rfl, -, rfl⟩ := e
      rw [cell_of_row w1 g j cur _ (0, 0) hh, ← Array.getElem?_toList, ← hj, ← k4, List.getElem?_take, if_pos (by omega)]
  have k0 := hcell 0 _ rfl
  have k1 := hcell 1 _ rfl
  have k2 := hcell 2 _ rfl
  have k3 : w1.cell? ⟨g, 3, none⟩ = some (.int .i64 0) := hcell 3 _ rfl
  have hen := ho.ens
  obtain ⟨ao, cap, rfl, hc1, hc2⟩ := hen.form
  obtain ⟨n, hn⟩ : ∃ n, n = es.length := ⟨_, rfl⟩
  rw [← hn] at k2 hen hc1
  have hn5 : n ≤ 255 := by rw [hn]; exact HFEW.out
  have hblt : b < w.heap.size := HB.out.lt
  have hob := ho.lt
  rw [← hn] at hob
  have HN := Lib.hid hn
  have HEN := Lib.hid hen
  have HOB := Lib.hid hob
  have HBL := Lib.hid hblt
  have HBB := Lib.hid (HB.out.moved (Moved.of_below hb1 (fun _ => False)) (fun h => h))
  have HB1 := Lib.hid hb1
  clear hpl hcell hst ho hn hen hob hb1 HW hblt
  go_wp2_with fail
  go_step3
  go_wp2_with fail
  refine wp_loop_rounds 2 ?_
  rw [rounds_succ]
  go_wp2_with fail
  obtain ⟨w2, hw2⟩ : ∃ y, y = w1.alloc (.cells #[.int .i64 root, .int .i64 0, .slice ao n cap, .int .i64 0] 113) := ⟨_, rfl⟩
  rw [← hw2]
  have hal : Below w1.heap.size w1 w2 := by rw [hw2]; exact (Below.refl _ w1).alloc (Nat.le_refl _) _
  have HB2 := Lib.hid (HBB.out.moved (Moved.of_below hal (fun _ => False)) (fun h => h))
  have HEN2 := Lib.hid (HEN.out.below hal)
  have HM2 := Lib.hid (Moved.of_below (HB1.out.trans (hal.mono HB1.out.size)) (· = b))
  have HNB : Hid (∀ q : Nat, (Value.slice ao n cap).ownBlock = some q → ¬ q = b) := Lib.hid (fun q hq e => by have h1 := (HOB.out q hq).1; have h2 := HBL.out; omega)
  have HBS : Hid (b < w2.heap.size) := Lib.hid HB2.out.lt
  clear hal hw2 k0 k1 k2 k3
  go_loopw [14, 46] (fun _ i wr => ∃ k : Nat, k ≤ n ∧ i = .int .i64 k ∧ Blk wr b #[.int .i64 k] 3 ∧ Moved (· = b) w2 wr) (fun _ i _ => n - (intOf i).toNat)
  case atStart => exact ⟨0, Nat.zero_le _, rfl, HB2.out, Moved.refl _ _⟩
  case round =>
    obtain ⟨k, hk, rfl, hbk, hmv⟩ := hrel
    have HBK := Lib.hid hbk
    have HMV := Lib.hid hmv
    clear hbk hmv
    by_cases hlt : k < n
    · have hke : k < es.length := by rw [← HN.out]; exact hlt
      obtain ⟨b', off, cp', hsl, -, -, hbs, hce⟩ := (HEN2.out.moved HMV.out (fun _ => HNB.out)).at (by omega)
      rw [← HN.out] at hsl
      simp only [Value.slice.injEq, true_and] at hsl
      obtain ⟨rfl, rfl⟩ := hsl
      obtain ⟨d0, d1, d2⟩ := hce k hke
      obtain ⟨e, he⟩ : ∃ y, y = es[k] := ⟨_, rfl⟩
      rw [← he] at d0 d1 d2
      have hal2 : Below wr.heap.size wr (wr.alloc (.cells #[.string e.key, .string e.val, .int .i64 e.kid] 117)) := (Below.refl _ wr).alloc (Nat.le_refl _) _
      have HBK2 := Lib.hid (HBK.out.moved (Moved.of_below hal2 (fun _ => False)) (fun h => h))
      have HMV2 := Lib.hid (HMV.out.trans (Moved.of_below hal2 (· = b)) (fun _ h => .inl h))
      have hlt' : (k : Int) < n := by omega
      clear hce he hal2 hbs
      go_wp2_with fail
      refine (countq_any b k (by omega) e _ HBK2.out).mono ?_
      rintro en w4 ⟨rfl, hb4, hm4⟩
      have HB4 := Lib.hid hb4
      have HM4 := Lib.hid (HMV2.out.trans hm4 (fun _ h => .inl h))
      clear hb4 hm4
      go_wp2_with fail
      go_roundw
      case rel => exact ⟨k + 1, by omega, by go_num, HB4.out, HM4.out⟩
      case measure => simp [intOf]; omega
    · obtain rfl : n = k := by omega
      go_wp2_with fail
      refine (onward_leaf _ g cp _).mono ?_
      rintro en w4 ⟨rfl, rfl⟩
      go_wp2_with fail
      rw [rounds_succ]
      go_wp2_with fail
      rw [Exit.noGoto_ret]
      go_ret
      exact ⟨rfl, by rw [← HN.out]; exact HBK.out, HM2.out.trans HMV.out (fun _ h => .inl h)⟩

set_option maxHeartbeats 4000000 in
/-- Count at a tree of one leaf. -/
theorem count_leaf {w0 w : World} {X : Nat → Prop} {r p N M c : Nat} {G : Lg} {H : Option Lg} (h : Pb w0 w X r p N M c G H) {root : Int} {es : List Ent} (hn : NodeAt N (H.getD G) root 0 es) :
    Calls Try.prog 35 #[.pointer (some ⟨p, 0, none⟩), .int .i64 root] w fun e w' => e = .returned (.tuple #[.int .i64 es.length, .int .i64 0]) ∧ Below w.heap.size w w' := by
  have hal : Below w.heap.size w (w.alloc (.cells #[.int .i64 0] 3)) := (Below.refl _ w).alloc (Nat.le_refl _) _
  have HH := Lib.hid (h.grow hal)
  have HN := Lib.hid hn
  have HAL := Lib.hid hal
  have HB := Lib.hid (Blk.new w #[.int .i64 0] 3)
  clear h hal hn
  go_enter Try.func35, Try.ntmps35
  go_wp2_with fail
  refine (walk_count HH.out HN.out w.heap.size HB.out).mono ?_
  rintro en w1 ⟨rfl, hb1, hm1⟩
  have c0 : w1.cell? ⟨w.heap.size, 0, none⟩ = some (.int .i64 es.length) := by rw [hb1.cell]; rfl
  have HM := Lib.hid hm1
  clear hb1 hm1
  go_wp2_with fail
  go_ret2
  exact ⟨rfl, HAL.out.trans (HM.out.below (fun k hk => by rw [hk]; exact Nat.le_refl _) HAL.out.size)⟩
end Go.Proofs.Ytcnfnpccbnnplaa
namespace Go.Proofs.Ytcnfnpccbnnplaa
open Go.RowKit Go.Maps
set_option maxRecDepth 100000
set_option linter.unusedVariables false

def NoX5 : Nat → Prop := fun _ => False
theorem nox5_lt (w : World) : ∀ k, NoX5 k → k < w.heap.size := fun _ h => h.elim

theorem open5_any (w0 w : World) (hb : Below w0.heap.size w0 w) : Calls Try.prog 27 #[] w fun e w' => ∃ r p, e = .returned (.pointer (some ⟨p, 0, none⟩)) ∧ Pb w0 w' NoX5 r p 1199 0 0 (Lg.new 1199) (some (Lg.new 1199)) := by
  have HB := Lib.hid hb
  clear hb
  go_enter Try.func27, Try.ntmps27
  go_wp2_with fail
  refine (nd_new (w0 := w0) (X := NoX5) 1600 1600 rfl (by omega) (by omega) HB.out (nox5_lt w)).mono ?_
  rintro e w1 ⟨r, rfl, h1, -⟩
  have H1 := Lib.hid h1
  clear h1
  go_wp2_with fail
  refine (ndb_open (N := 1199) H1.out (by omega) (by omega)).mono ?_
  rintro e w2 ⟨p, rfl, h2, -⟩
  have H2 := Lib.hid h2
  clear h2
  go_wp2_with fail
  refine (pb_begin H2.out).mono ?_
  rintro e w3 ⟨rfl, h3, -⟩
  have H3 := Lib.hid h3
  clear h3
  go_wp2_with fail
  go_ret
  exact ⟨r, p, rfl, H3.out⟩

theorem new5_free : (Lg.new 1199).free = 1 :: List.range' 2 1197 := by
  show List.range' 1 (1199 - 1) = _
  rw [show (1199 - 1 : Nat) = 1197 + 1 by omega, List.range'_succ]

theorem new5_len : (Lg.new 1199).free.length = 1198 := by rw [new5_free]; simp
theorem new5_used (pg : Nat → List UInt8) : lgUsed 1199 { Lg.new 1199 with free := List.range' 2 1197, page := pg } 1 := by
  unfold lgUsed
  refine ⟨by decide, by decide, fun h => ?_⟩
  have h' : 1 ∈ List.range' 2 1197 := h
  rw [List.mem_range'_1] at h'
  omega

/-- The tree of one empty leaf. -/
theorem node_empty {N : Nat} {H : Lg} {i : Int} (hu : lgUsed N H i) (hp : H.page i.toNat = page (enc 0 [])) : NodeAt N H i 0 [] :=
  ⟨hu, hp, by decide, by decide, by decide, by decide, fun e he => by cases he⟩

theorem known5_any (w : World) : Calls Try.prog 26 #[] w fun e w' => e = .returned (.bool true) ∧ Below w.heap.size w w' := by
  go_enter Try.func26, Try.ntmps26
  go_wp2_with fail
  refine (open5_any w w (Below.refl _ w)).mono ?_
  rintro e w1 ⟨r, p, rfl, h1⟩
  have H1 := Lib.hid h1
  clear h1
  go_wp2_with fail
  refine (pb_free H1.out).mono ?_
  rintro e w2 ⟨he, rfl⟩
  rw [show ((some (Lg.new 1199)).getD (Lg.new 1199)).free.length = 1198 from new5_len] at he
  subst he
  go_wp2_with fail
  refine (bt_new H1.out (by omega) new5_free).mono ?_
  rintro e w3 ⟨rfl, h3, -⟩
  have H3 := Lib.hid h3
  clear h3
  go_wp2_with fail
  refine (count_leaf H3.out (root := 1) (es := []) (node_empty ?_ (by simp [upd]))).mono ?_
  · exact new5_used _
  rintro e w4 ⟨rfl, h4⟩
  have H4 := Lib.hid (H3.out.grow h4)
  clear h4
  go_wp2_with fail
  refine (pb_free H4.out).mono ?_
  rintro e w5 ⟨rfl, rfl⟩
  go_wp2_with fail
  go_ret
  exact ⟨rfl, H4.out.below⟩

theorem within5_any (a n : Int) (hn : 0 < n) (hn2 : n ≤ 4611686018427387904) (w : World) :
    Calls Try.prog 32 #[.int .i64 a, .int .i64 n] w fun e w' => (∃ k : Nat, e = .returned (.int .i64 k) ∧ (k : Int) < n) ∧ w' = w := by
  have h1 := Int.tmod_lt_of_pos a hn
  have h2 : -n < a.tmod n := Int.lt_tmod_of_pos a hn
  have hz : (n == 0) = false := by simpa using (by omega : n ≠ 0)
  by_cases h0 : a.tmod n < 0
  · go_enter Try.func32, Try.ntmps32
    go_wp2
    go_ret
    exact ⟨⟨(a.tmod n + n).toNat, by rw [Int.toNat_of_nonneg (by omega)]; rfl, by omega⟩, rfl⟩
  · go_enter Try.func32, Try.ntmps32
    go_wp2
    go_ret
    exact ⟨⟨(a.tmod n).toNat, by rw [Int.toNat_of_nonneg (by omega)]; rfl, by omega⟩, rfl⟩

def Cnt5 (w : World) (p : Nat) (k : Int) (w' : World) : Prop := Below w.heap.size w w' ∧
  Calls Try.prog 35 #[.pointer (some ⟨p, 0, none⟩), .int .i64 1] w' fun e w'' => e = .returned (.tuple #[.int .i64 k, .int .i64 0]) ∧ Below w.heap.size w w''

theorem set5 {w w4 : World} {r p : Nat} (h : Pb w w4 NoX5 r p 1199 0 2 (Lg.new 1199) (some { Lg.new 1199 with free := List.range' 2 1197, page := upd (Lg.new 1199).page 1 (page (enc 0 [])) })) (key val : ByteArray) (hk : key.size ≤ 200) (hv : val.size ≤ 200) :
    Calls Try.prog 29 #[.pointer (some ⟨p, 0, none⟩), .int .i64 1, .string key, .string val] w4 fun e w' => ∃ a e9 : Int, e = .returned (.tuple #[.int .i64 a, .int .i64 e9]) ∧
      ((key.size ≤ 140 ∧ key.size + val.size ≤ 150 ∧ a = 1 ∧ e9 = 0 ∧ Cnt5 w p 1 w') ∨ (¬ (key.size ≤ 140 ∧ key.size + val.size ≤ 150) ∧ a = 0 ∧ e9 = 5 ∧ Cnt5 w p 0 w')) := by
  have hn0 : NodeAt 1199 { Lg.new 1199 with free := List.range' 2 1197, page := upd (Lg.new 1199).page 1 (page (enc 0 [])) } 1 0 [] := node_empty (new5_used _) (by simp [upd])
  by_cases hf : key.size ≤ 140 ∧ key.size + val.size ≤ 150
  · have hz : ∀ m, PlaceOf [] key m → m = 0 := fun m hm => Nat.le_zero.1 hm.1
    have hes : setEs [] key val 0 = [⟨key, val, 0⟩] := by simp [setEs]
    have hsz : sizes 0 [(⟨key, val, 0⟩ : Ent)] ≤ 502 := by
      rw [sizes_cons]
      have : sizes 0 ([] : List Ent) = 0 := rfl
      rw [this]; unfold esize; rw [if_neg (by decide)]; show 3 + key.size + val.size + 0 ≤ 502; omega
    refine (set_leaf h hn0 (fun e he => by cases he) key val hf.1 hf.2 (fun m hm => by rw [hz m hm, hes]; exact hsz) (by decide) (by omega)).mono ?_
    rintro e w5 ⟨m, c', hm, rfl, hc', h5, -⟩
    obtain rfl := hz m hm
    rw [hes] at h5
    refine ⟨1, 0, rfl, .inl ⟨hf.1, hf.2, rfl, rfl, h5.below, ?_⟩⟩
    refine (count_leaf h5 (root := 1) (es := [⟨key, val, 0⟩]) (leaf_node (new5_used _) (by simp [upd]) (fun e he => ?_) hsz)).mono ?_
    · rw [List.mem_singleton] at he
      subst he
      exact ⟨rfl, by show key.size ≤ 255; omega, by show val.size ≤ 60000; omega⟩
    · rintro e w6 ⟨rfl, h6⟩
      exact ⟨rfl, h5.below.trans (h6.mono h5.below.size)⟩
  · refine (set_long _ 1 key val (by omega) (by omega) (by omega) w4).mono ?_
    rintro e w5 ⟨rfl, rfl⟩
    refine ⟨0, 5, rfl, .inr ⟨hf, rfl, rfl, h.below, ?_⟩⟩
    refine (count_leaf h (root := 1) (es := []) hn0).mono ?_
    rintro e w6 ⟨rfl, h6⟩
    exact ⟨rfl, h.below.trans (h6.mono h.below.size)⟩

theorem long_walk (a b : Int) (w : World) : Calls Try.prog 6 #[.int .i64 a, .int .i64 b] w fun e w' => e = .returned (.bool true) ∧ Below w.heap.size w w' := by
  go_enter Try.func6, Try.ntmps6
  go_wp2_with fail
  refine (known5_any w).mono ?_
  rintro e w1 ⟨rfl, h1⟩
  have H1 := Lib.hid h1
  clear h1
  go_wp2_with fail
  refine (within5_any a 8 (by omega) (by omega) _).mono ?_
  rintro e w2 ⟨⟨n, rfl, hn⟩, rfl⟩
  go_wp2_with fail
  refine (within5_any b 16 (by omega) (by omega) _).mono ?_
  rintro e w2' ⟨⟨m, rfl, hm⟩, rfl⟩
  go_wp2_with fail
  refine (open5_any w _ H1.out).mono ?_
  rintro e w3 ⟨r, p, rfl, h3⟩
  have H3 := Lib.hid h3
  clear h3
  go_wp2_with fail
  refine (bt_new H3.out (by omega) new5_free).mono ?_
  rintro e w4 ⟨rfl, h4, -⟩
  have H4 := Lib.hid h4
  clear h4
  go_wp2_with fail
  obtain ⟨nn, hnn⟩ : ∃ nn : Nat, nn = 136 + n := ⟨_, rfl⟩
  have hn' : (136 + n : Int) = nn := by omega
  rw [hn']
  have hnn2 : nn < 144 := by omega
  have hm2 : m < 16 := by omega
  have hmk1 := fun w => run_make_bytes nn nn rfl (by omega) w
  have hmk2 := fun w => run_make_bytes m m rfl (by omega) w
  clear hn' hnn hn hm
  have HN1 := Lib.hid hmk1
  have HN2 := Lib.hid hmk2
  have hal0 : Below w4.heap.size w4 w4.drew := (Below.refl _ w4).drew
  have HSET : Hid (∀ w5, Below w4.heap.size w4 w5 → Calls Try.prog 29 #[.pointer (some ⟨p, 0, none⟩), .int .i64 1, .string ⟨(zeros nn).toArray⟩, .string ⟨(zeros m).toArray⟩] w5 fun e w' => ∃ a e9 : Int, e = .returned (.tuple #[.int .i64 a, .int .i64 e9]) ∧
      ((nn ≤ 140 ∧ nn + m ≤ 150 ∧ a = 1 ∧ e9 = 0 ∧ Cnt5 w p 1 w') ∨ (¬ (nn ≤ 140 ∧ nn + m ≤ 150) ∧ a = 0 ∧ e9 = 5 ∧ Cnt5 w p 0 w'))) := Lib.hid (fun w5 hb5 => by
    have e1 : (⟨(zeros nn).toArray⟩ : ByteArray).size = nn := by show (zeros nn).toArray.size = nn; rw [List.size_toArray, zeros_length]
    have e2 : (⟨(zeros m).toArray⟩ : ByteArray).size = m := by show (zeros m).toArray.size = m; rw [List.size_toArray, zeros_length]
    have := set5 (H4.out.grow hb5) ⟨(zeros nn).toArray⟩ ⟨(zeros m).toArray⟩ (by rw [e1]; omega) (by rw [e2]; omega)
    rw [e1, e2] at this
    exact this)
  clear hmk1 hmk2
  refine wp_region_any (by kernel_rfl) ?_
  change wpAny _ _ _ _ _ _ _ (World.drew _)
  refine wpAny_of_held (S := fun (_ : World) => True) _ _ _ _ ?_
  generalize World.drew w4 = v0 at hal0 ⊢
  have hS : (fun (_ : World) => True) v0 := trivial
  try simp only [Act.put, List.setIfInBounds_toArray, List.set_cons_zero, List.set_cons_succ]
  refine wpAnyH_take (i := 0) (oi := ⟨some 31, _, _, _, _, _⟩) (v := ?_) rfl (by kernel_rfl) (by kernel_rfl) (by kernel_rfl) (fun _ _ _ h => h) (Or.inl ⟨by simp only [Region.wanted], ?_⟩) hS ?_
  rotate_left
  · intro wz hSw
    clear hSw
    go_simp
    first | done | with_reducible rfl
  try simp only [Act.put, List.setIfInBounds_toArray, List.set_cons_zero, List.set_cons_succ]
  refine wpAnyH_take (i := 1) (oi := ⟨some 32, _, _, _, _, _⟩) (v := ?_) rfl (by kernel_rfl) (by kernel_rfl) (by kernel_rfl) (fun _ _ _ h => h) (Or.inl ⟨by simp only [Region.wanted], ?_⟩) hS ?_
  rotate_left
  · intro wz hSw
    clear hSw
    go_simp
    first | done | with_reducible rfl
  try simp only [Act.put, List.setIfInBounds_toArray, List.set_cons_zero, List.set_cons_succ]
  refine wpAnyH_take (i := 2) (oi := ⟨some 33, _, _, _, _, _⟩) (v := ?_) rfl (by kernel_rfl) (by kernel_rfl) (by kernel_rfl) (fun _ _ _ h => h) (Or.inl ⟨by simp only [Region.wanted], ?_⟩) hS ?_
  rotate_left
  · intro wz hSw
    clear hSw
    go_simp
    first | done | with_reducible rfl
  try simp only [Act.put, List.setIfInBounds_toArray, List.set_cons_zero, List.set_cons_succ]
  refine wpAnyH_take (i := 5) (oi := ⟨some 36, _, _, _, _, _⟩) (v := ?_) rfl (by kernel_rfl) (by kernel_rfl) (by kernel_rfl) (fun _ _ _ h => h) (Or.inl ⟨by simp only [Region.wanted], ?_⟩) hS ?_
  rotate_left
  · intro wz hSw
    clear hSw
    go_simp
    first | done | with_reducible rfl
  try simp only [Act.put, List.setIfInBounds_toArray, List.set_cons_zero, List.set_cons_succ]
  refine wpAnyH_ready (rs := [3, 6]) (by kernel_rfl) (by simp) ?_
  refine AllReadyH.cons (o := ⟨some 34, _, _, _, _, _⟩) rfl (fun K hK => ?_) (AllReadyH.cons (o := ⟨some 37, _, _, _, _, _⟩) rfl (fun K hK => ?_) (AllReadyH.nil))
  · have hmk := HN1.out
    go_simp
    clear hmk
    have hal1 : Below w4.heap.size w4 (World.alloc v0 (.cells (vbs (zeros nn)).toArray 5)) := hal0.alloc hal0.size _
    have hbnn : Bs (World.alloc v0 (.cells (vbs (zeros nn)).toArray 5)) (.slice (some ⟨v0.heap.size, 0, none⟩) nn nn) (zeros nn) := by
      have := Blk.bs (Blk.new v0 (vbs (zeros nn)).toArray 5) (by rw [zeros_length]; unfold maxLen; omega)
      rwa [zeros_length] at this
    generalize World.alloc v0 _ = v1 at *
    refine hK.out _ _ trivial (fun hS => ?_)
    clear hK K
    try simp only [Act.put, List.setIfInBounds_toArray, List.set_cons_zero, List.set_cons_succ]
    refine wpAnyH_ready (rs := [4, 6]) (by kernel_rfl) (by simp) ?_
    refine AllReadyH.cons (o := ⟨some 35, _, _, _, _, _⟩) rfl (fun K hK => ?_) (AllReadyH.cons (o := ⟨some 37, _, _, _, _, _⟩) rfl (fun K hK => ?_) (AllReadyH.nil))
    · have hcv := run_conv_bytes hbnn
      go_simp
      refine hK.out _ _ trivial (fun hS => ?_)
      clear hK K hcv hbnn
      try simp only [Act.put, List.setIfInBounds_toArray, List.set_cons_zero, List.set_cons_succ]
      refine wpAnyH_ready (rs := [6]) (by kernel_rfl) (by simp) ?_
      refine AllReadyH.cons (o := ⟨some 37, _, _, _, _, _⟩) rfl (fun K hK => ?_) (AllReadyH.nil)
      · have hmk := HN2.out
        go_simp
        clear hmk
        have hal2 : Below w4.heap.size w4 (World.alloc v1 (.cells (vbs (zeros m)).toArray 5)) := hal1.alloc hal1.size _
        have hbm : Bs (World.alloc v1 (.cells (vbs (zeros m)).toArray 5)) (.slice (some ⟨v1.heap.size, 0, none⟩) m m) (zeros m) := by
          have := Blk.bs (Blk.new v1 (vbs (zeros m)).toArray 5) (by rw [zeros_length]; unfold maxLen; omega)
          rwa [zeros_length] at this
        generalize World.alloc v1 _ = v2 at *
        refine hK.out _ _ trivial (fun hS => ?_)
        clear hK K
        try simp only [Act.put, List.setIfInBounds_toArray, List.set_cons_zero, List.set_cons_succ]
        refine wpAnyH_ready (rs := [7]) (by kernel_rfl) (by simp) ?_
        refine AllReadyH.cons (o := ⟨some 38, _, _, _, _, _⟩) rfl (fun K hK => ?_) (AllReadyH.nil)
        · have hcv := run_conv_bytes hbm
          go_simp
          refine hK.out _ _ trivial (fun hS => ?_)
          clear hK K hcv hbm
          try simp only [Act.put, List.setIfInBounds_toArray, List.set_cons_zero, List.set_cons_succ]
          refine wpAnyH_ready (rs := [8]) (by kernel_rfl) (by simp) ?_
          refine AllReadyH.cons (o := ⟨some 39, _, _, _, _, _⟩) rfl (fun K hK => ?_) AllReadyH.nil
          go_simp
          refine (HSET.out _ hal2).mono ?_
          rintro en w7 ⟨a8, e9, rfl, hcase⟩
          refine hK.out _ _ (trivial) (fun hS => ?_)
          clear hK K
          try simp only [Act.put, List.setIfInBounds_toArray, List.set_cons_zero, List.set_cons_succ]
          refine wpAnyH_take (i := 9) (oi := ⟨some 30, _, _, _, _, _⟩) (v := ?_) rfl (by kernel_rfl) (by kernel_rfl) (by kernel_rfl) (fun _ _ _ h => h) (Or.inl ⟨by simp only [Region.wanted], ?_⟩) hS ?_
          rotate_left
          · intro wz hSw
            clear hSw
            go_simp
            first | done | with_reducible rfl
          try simp only [Act.put, List.setIfInBounds_toArray, List.set_cons_zero, List.set_cons_succ]
          refine wpAnyH_take (i := 10) (oi := ⟨some 40, _, _, _, _, _⟩) (v := ?_) rfl (by kernel_rfl) (by kernel_rfl) (by kernel_rfl) (fun _ _ _ h => h) (Or.inl ⟨by simp only [Region.wanted], ?_⟩) hS ?_
          rotate_left
          · intro wz hSw
            clear hSw
            go_simp
            first | done | with_reducible rfl
          try simp only [Act.put, List.setIfInBounds_toArray, List.set_cons_zero, List.set_cons_succ]
          refine wpAnyH_take (i := 11) (oi := ⟨some 41, _, _, _, _, _⟩) (v := ?_) rfl (by kernel_rfl) (by kernel_rfl) (by kernel_rfl) (fun _ _ _ h => h) (Or.inl ⟨by simp only [Region.wanted], ?_⟩) hS ?_
          rotate_left
          · intro wz hSw
            clear hSw
            go_simp
            first | done | with_reducible rfl
          try simp only [Act.put, List.setIfInBounds_toArray, List.set_cons_zero, List.set_cons_succ]
          refine wpAnyH_take (i := 12) (oi := ⟨some 8, _, _, _, _, _⟩) (v := ?_) rfl (by kernel_rfl) (by kernel_rfl) (by kernel_rfl) (fun _ _ _ h => h) (Or.inl ⟨by simp only [Region.wanted], ?_⟩) hS ?_
          rotate_left
          · intro wz hSw
            clear hSw
            go_simp
            first | done | with_reducible rfl
          try simp only [Act.put, List.setIfInBounds_toArray, List.set_cons_zero, List.set_cons_succ]
          refine wpAnyH_take (i := 13) (oi := ⟨some 9, _, _, _, _, _⟩) (v := ?_) rfl (by kernel_rfl) (by kernel_rfl) (by kernel_rfl) (fun _ _ _ h => h) (Or.inl ⟨by simp only [Region.wanted], ?_⟩) hS ?_
          rotate_left
          · intro wz hSw
            clear hSw
            go_simp
            first | done | with_reducible rfl
          try simp only [Act.put, List.setIfInBounds_toArray, List.set_cons_zero, List.set_cons_succ]
          refine wpAnyH_done (by kernel_rfl) ?_ _
          clear HSET hS hal0 hal1 hal2 H4 H3 H1 HN1 HN2
          rcases hcase with ⟨f1, f2, rfl, rfl, hc⟩ | ⟨f, rfl, rfl, hc⟩
          · have HC := Lib.hid hc
            clear hc
            have g1 : (nn : Int) ≤ 140 := by omega
            have g2 : (nn : Int) + m ≤ 150 := by omega
            go_wp2_with fail
            refine HC.out.2.mono ?_
            rintro en w8 ⟨rfl, h8⟩
            have H8 := Lib.hid h8
            clear h8
            go_wp2_with fail
            go_ret
            exact ⟨rfl, H8.out⟩
          · have HC := Lib.hid hc
            clear hc
            by_cases g1 : (nn : Int) ≤ 140
            · have g2 : ¬ (nn : Int) + m ≤ 150 := by omega
              go_wp2_with fail
              refine HC.out.2.mono ?_
              rintro en w8 ⟨rfl, h8⟩
              have H8 := Lib.hid h8
              clear h8
              go_wp2_with fail
              go_ret
              exact ⟨rfl, H8.out⟩
            · clear f
              go_wp2_with fail
              refine HC.out.2.mono ?_
              rintro en w8 ⟨rfl, h8⟩
              have H8 := Lib.hid h8
              clear h8
              go_wp2_with fail
              go_ret
              exact ⟨rfl, H8.out⟩
    · have hmk := HN2.out
      go_simp
      clear hmk
      have hal2 : Below w4.heap.size w4 (World.alloc v1 (.cells (vbs (zeros m)).toArray 5)) := hal1.alloc hal1.size _
      have hbm : Bs (World.alloc v1 (.cells (vbs (zeros m)).toArray 5)) (.slice (some ⟨v1.heap.size, 0, none⟩) m m) (zeros m) := by
        have := Blk.bs (Blk.new v1 (vbs (zeros m)).toArray 5) (by rw [zeros_length]; unfold maxLen; omega)
        rwa [zeros_length] at this
      replace hbnn := hbnn.below ((Below.refl _ v1).alloc (Nat.le_refl _) (.cells (vbs (zeros m)).toArray 5))
      generalize World.alloc v1 _ = v2 at *
      refine hK.out _ _ trivial (fun hS => ?_)
      clear hK K
      try simp only [Act.put, List.setIfInBounds_toArray, List.set_cons_zero, List.set_cons_succ]
      refine wpAnyH_ready (rs := [4, 7]) (by kernel_rfl) (by simp) ?_
      refine AllReadyH.cons (o := ⟨some 35, _, _, _, _, _⟩) rfl (fun K hK => ?_) (AllReadyH.cons (o := ⟨some 38, _, _, _, _, _⟩) rfl (fun K hK => ?_) (AllReadyH.nil))
      · have hcv := run_conv_bytes hbnn
        go_simp
        refine hK.out _ _ trivial (fun hS => ?_)
        clear hK K hcv hbnn
        try simp only [Act.put, List.setIfInBounds_toArray, List.set_cons_zero, List.set_cons_succ]
        refine wpAnyH_ready (rs := [7]) (by kernel_rfl) (by simp) ?_
        refine AllReadyH.cons (o := ⟨some 38, _, _, _, _, _⟩) rfl (fun K hK => ?_) (AllReadyH.nil)
        · have hcv := run_conv_bytes hbm
          go_simp
          refine hK.out _ _ trivial (fun hS => ?_)
          clear hK K hcv hbm
          try simp only [Act.put, List.setIfInBounds_toArray, List.set_cons_zero, List.set_cons_succ]
          refine wpAnyH_ready (rs := [8]) (by kernel_rfl) (by simp) ?_
          refine AllReadyH.cons (o := ⟨some 39, _, _, _, _, _⟩) rfl (fun K hK => ?_) AllReadyH.nil
          go_simp
          refine (HSET.out _ hal2).mono ?_
          rintro en w7 ⟨a8, e9, rfl, hcase⟩
          refine hK.out _ _ (trivial) (fun hS => ?_)
          clear hK K
          try simp only [Act.put, List.setIfInBounds_toArray, List.set_cons_zero, List.set_cons_succ]
          refine wpAnyH_take (i := 9) (oi := ⟨some 30, _, _, _, _, _⟩) (v := ?_) rfl (by kernel_rfl) (by kernel_rfl) (by kernel_rfl) (fun _ _ _ h => h) (Or.inl ⟨by simp only [Region.wanted], ?_⟩) hS ?_
          rotate_left
          · intro wz hSw
            clear hSw
            go_simp
            first | done | with_reducible rfl
          try simp only [Act.put, List.setIfInBounds_toArray, List.set_cons_zero, List.set_cons_succ]
          refine wpAnyH_take (i := 10) (oi := ⟨some 40, _, _, _, _, _⟩) (v := ?_) rfl (by kernel_rfl) (by kernel_rfl) (by kernel_rfl) (fun _ _ _ h => h) (Or.inl ⟨by simp only [Region.wanted], ?_⟩) hS ?_
          rotate_left
          · intro wz hSw
            clear hSw
            go_simp
            first | done | with_reducible rfl
          try simp only [Act.put, List.setIfInBounds_toArray, List.set_cons_zero, List.set_cons_succ]
          refine wpAnyH_take (i := 11) (oi := ⟨some 41, _, _, _, _, _⟩) (v := ?_) rfl (by kernel_rfl) (by kernel_rfl) (by kernel_rfl) (fun _ _ _ h => h) (Or.inl ⟨by simp only [Region.wanted], ?_⟩) hS ?_
          rotate_left
          · intro wz hSw
            clear hSw
            go_simp
            first | done | with_reducible rfl
          try simp only [Act.put, List.setIfInBounds_toArray, List.set_cons_zero, List.set_cons_succ]
          refine wpAnyH_take (i := 12) (oi := ⟨some 8, _, _, _, _, _⟩) (v := ?_) rfl (by kernel_rfl) (by kernel_rfl) (by kernel_rfl) (fun _ _ _ h => h) (Or.inl ⟨by simp only [Region.wanted], ?_⟩) hS ?_
          rotate_left
          · intro wz hSw
            clear hSw
            go_simp
            first | done | with_reducible rfl
          try simp only [Act.put, List.setIfInBounds_toArray, List.set_cons_zero, List.set_cons_succ]
          refine wpAnyH_take (i := 13) (oi := ⟨some 9, _, _, _, _, _⟩) (v := ?_) rfl (by kernel_rfl) (by kernel_rfl) (by kernel_rfl) (fun _ _ _ h => h) (Or.inl ⟨by simp only [Region.wanted], ?_⟩) hS ?_
          rotate_left
          · intro wz hSw
            clear hSw
            go_simp
            first | done | with_reducible rfl
          try simp only [Act.put, List.setIfInBounds_toArray, List.set_cons_zero, List.set_cons_succ]
          refine wpAnyH_done (by kernel_rfl) ?_ _
          clear HSET hS hal0 hal1 hal2 H4 H3 H1 HN1 HN2
          rcases hcase with ⟨f1, f2, rfl, rfl, hc⟩ | ⟨f, rfl, rfl, hc⟩
          · have HC := Lib.hid hc
            clear hc
            have g1 : (nn : Int) ≤ 140 := by omega
            have g2 : (nn : Int) + m ≤ 150 := by omega
            go_wp2_with fail
            refine HC.out.2.mono ?_
            rintro en w8 ⟨rfl, h8⟩
            have H8 := Lib.hid h8
            clear h8
            go_wp2_with fail
            go_ret
            exact ⟨rfl, H8.out⟩
          · have HC := Lib.hid hc
            clear hc
            by_cases g1 : (nn : Int) ≤ 140
            · have g2 : ¬ (nn : Int) + m ≤ 150 := by omega
              go_wp2_with fail
              refine HC.out.2.mono ?_
              rintro en w8 ⟨rfl, h8⟩
              have H8 := Lib.hid h8
              clear h8
              go_wp2_with fail
              go_ret
              exact ⟨rfl, H8.out⟩
            · clear f
              go_wp2_with fail
              refine HC.out.2.mono ?_
              rintro en w8 ⟨rfl, h8⟩
              have H8 := Lib.hid h8
              clear h8
              go_wp2_with fail
              go_ret
              exact ⟨rfl, H8.out⟩
      · have hcv := run_conv_bytes hbm
        go_simp
        refine hK.out _ _ trivial (fun hS => ?_)
        clear hK K hcv hbm
        try simp only [Act.put, List.setIfInBounds_toArray, List.set_cons_zero, List.set_cons_succ]
        refine wpAnyH_ready (rs := [4]) (by kernel_rfl) (by simp) ?_
        refine AllReadyH.cons (o := ⟨some 35, _, _, _, _, _⟩) rfl (fun K hK => ?_) (AllReadyH.nil)
        · have hcv := run_conv_bytes hbnn
          go_simp
          refine hK.out _ _ trivial (fun hS => ?_)
          clear hK K hcv hbnn
          try simp only [Act.put, List.setIfInBounds_toArray, List.set_cons_zero, List.set_cons_succ]
          refine wpAnyH_ready (rs := [8]) (by kernel_rfl) (by simp) ?_
          refine AllReadyH.cons (o := ⟨some 39, _, _, _, _, _⟩) rfl (fun K hK => ?_) AllReadyH.nil
          go_simp
          refine (HSET.out _ hal2).mono ?_
          rintro en w7 ⟨a8, e9, rfl, hcase⟩
          refine hK.out _ _ (trivial) (fun hS => ?_)
          clear hK K
          try simp only [Act.put, List.setIfInBounds_toArray, List.set_cons_zero, List.set_cons_succ]
          refine wpAnyH_take (i := 9) (oi := ⟨some 30, _, _, _, _, _⟩) (v := ?_) rfl (by kernel_rfl) (by kernel_rfl) (by kernel_rfl) (fun _ _ _ h => h) (Or.inl ⟨by simp only [Region.wanted], ?_⟩) hS ?_
          rotate_left
          · intro wz hSw
            clear hSw
            go_simp
            first | done | with_reducible rfl
          try simp only [Act.put, List.setIfInBounds_toArray, List.set_cons_zero, List.set_cons_succ]
          refine wpAnyH_take (i := 10) (oi := ⟨some 40, _, _, _, _, _⟩) (v := ?_) rfl (by kernel_rfl) (by kernel_rfl) (by kernel_rfl) (fun _ _ _ h => h) (Or.inl ⟨by simp only [Region.wanted], ?_⟩) hS ?_
          rotate_left
          · intro wz hSw
            clear hSw
            go_simp
            first | done | with_reducible rfl
          try simp only [Act.put, List.setIfInBounds_toArray, List.set_cons_zero, List.set_cons_succ]
          refine wpAnyH_take (i := 11) (oi := ⟨some 41, _, _, _, _, _⟩) (v := ?_) rfl (by kernel_rfl) (by kernel_rfl) (by kernel_rfl) (fun _ _ _ h => h) (Or.inl ⟨by simp only [Region.wanted], ?_⟩) hS ?_
          rotate_left
          · intro wz hSw
            clear hSw
            go_simp
            first | done | with_reducible rfl
          try simp only [Act.put, List.setIfInBounds_toArray, List.set_cons_zero, List.set_cons_succ]
          refine wpAnyH_take (i := 12) (oi := ⟨some 8, _, _, _, _, _⟩) (v := ?_) rfl (by kernel_rfl) (by kernel_rfl) (by kernel_rfl) (fun _ _ _ h => h) (Or.inl ⟨by simp only [Region.wanted], ?_⟩) hS ?_
          rotate_left
          · intro wz hSw
            clear hSw
            go_simp
            first | done | with_reducible rfl
          try simp only [Act.put, List.setIfInBounds_toArray, List.set_cons_zero, List.set_cons_succ]
          refine wpAnyH_take (i := 13) (oi := ⟨some 9, _, _, _, _, _⟩) (v := ?_) rfl (by kernel_rfl) (by kernel_rfl) (by kernel_rfl) (fun _ _ _ h => h) (Or.inl ⟨by simp only [Region.wanted], ?_⟩) hS ?_
          rotate_left
          · intro wz hSw
            clear hSw
            go_simp
            first | done | with_reducible rfl
          try simp only [Act.put, List.setIfInBounds_toArray, List.set_cons_zero, List.set_cons_succ]
          refine wpAnyH_done (by kernel_rfl) ?_ _
          clear HSET hS hal0 hal1 hal2 H4 H3 H1 HN1 HN2
          rcases hcase with ⟨f1, f2, rfl, rfl, hc⟩ | ⟨f, rfl, rfl, hc⟩
          · have HC := Lib.hid hc
            clear hc
            have g1 : (nn : Int) ≤ 140 := by omega
            have g2 : (nn : Int) + m ≤ 150 := by omega
            go_wp2_with fail
            refine HC.out.2.mono ?_
            rintro en w8 ⟨rfl, h8⟩
            have H8 := Lib.hid h8
            clear h8
            go_wp2_with fail
            go_ret
            exact ⟨rfl, H8.out⟩
          · have HC := Lib.hid hc
            clear hc
            by_cases g1 : (nn : Int) ≤ 140
            · have g2 : ¬ (nn : Int) + m ≤ 150 := by omega
              go_wp2_with fail
              refine HC.out.2.mono ?_
              rintro en w8 ⟨rfl, h8⟩
              have H8 := Lib.hid h8
              clear h8
              go_wp2_with fail
              go_ret
              exact ⟨rfl, H8.out⟩
            · clear f
              go_wp2_with fail
              refine HC.out.2.mono ?_
              rintro en w8 ⟨rfl, h8⟩
              have H8 := Lib.hid h8
              clear h8
              go_wp2_with fail
              go_ret
              exact ⟨rfl, H8.out⟩
  · have hmk := HN2.out
    go_simp
    clear hmk
    have hal1 : Below w4.heap.size w4 (World.alloc v0 (.cells (vbs (zeros m)).toArray 5)) := hal0.alloc hal0.size _
    have hbm : Bs (World.alloc v0 (.cells (vbs (zeros m)).toArray 5)) (.slice (some ⟨v0.heap.size, 0, none⟩) m m) (zeros m) := by
      have := Blk.bs (Blk.new v0 (vbs (zeros m)).toArray 5) (by rw [zeros_length]; unfold maxLen; omega)
      rwa [zeros_length] at this
    generalize World.alloc v0 _ = v1 at *
    refine hK.out _ _ trivial (fun hS => ?_)
    clear hK K
    try simp only [Act.put, List.setIfInBounds_toArray, List.set_cons_zero, List.set_cons_succ]
    refine wpAnyH_ready (rs := [3, 7]) (by kernel_rfl) (by simp) ?_
    refine AllReadyH.cons (o := ⟨some 34, _, _, _, _, _⟩) rfl (fun K hK => ?_) (AllReadyH.cons (o := ⟨some 38, _, _, _, _, _⟩) rfl (fun K hK => ?_) (AllReadyH.nil))
    · have hmk := HN1.out
      go_simp
      clear hmk
      have hal2 : Below w4.heap.size w4 (World.alloc v1 (.cells (vbs (zeros nn)).toArray 5)) := hal1.alloc hal1.size _
      have hbnn : Bs (World.alloc v1 (.cells (vbs (zeros nn)).toArray 5)) (.slice (some ⟨v1.heap.size, 0, none⟩) nn nn) (zeros nn) := by
        have := Blk.bs (Blk.new v1 (vbs (zeros nn)).toArray 5) (by rw [zeros_length]; unfold maxLen; omega)
        rwa [zeros_length] at this
      replace hbm := hbm.below ((Below.refl _ v1).alloc (Nat.le_refl _) (.cells (vbs (zeros nn)).toArray 5))
      generalize World.alloc v1 _ = v2 at *
      refine hK.out _ _ trivial (fun hS => ?_)
      clear hK K
      try simp only [Act.put, List.setIfInBounds_toArray, List.set_cons_zero, List.set_cons_succ]
      refine wpAnyH_ready (rs := [4, 7]) (by kernel_rfl) (by simp) ?_
      refine AllReadyH.cons (o := ⟨some 35, _, _, _, _, _⟩) rfl (fun K hK => ?_) (AllReadyH.cons (o := ⟨some 38, _, _, _, _, _⟩) rfl (fun K hK => ?_) (AllReadyH.nil))
      · have hcv := run_conv_bytes hbnn
        go_simp
        refine hK.out _ _ trivial (fun hS => ?_)
        clear hK K hcv hbnn
        try simp only [Act.put, List.setIfInBounds_toArray, List.set_cons_zero, List.set_cons_succ]
        refine wpAnyH_ready (rs := [7]) (by kernel_rfl) (by simp) ?_
        refine AllReadyH.cons (o := ⟨some 38, _, _, _, _, _⟩) rfl (fun K hK => ?_) (AllReadyH.nil)
        · have hcv := run_conv_bytes hbm
          go_simp
          refine hK.out _ _ trivial (fun hS => ?_)
          clear hK K hcv hbm
          try simp only [Act.put, List.setIfInBounds_toArray, List.set_cons_zero, List.set_cons_succ]
          refine wpAnyH_ready (rs := [8]) (by kernel_rfl) (by simp) ?_
          refine AllReadyH.cons (o := ⟨some 39, _, _, _, _, _⟩) rfl (fun K hK => ?_) AllReadyH.nil
          go_simp
          refine (HSET.out _ hal2).mono ?_
          rintro en w7 ⟨a8, e9, rfl, hcase⟩
          refine hK.out _ _ (trivial) (fun hS => ?_)
          clear hK K
          try simp only [Act.put, List.setIfInBounds_toArray, List.set_cons_zero, List.set_cons_succ]
          refine wpAnyH_take (i := 9) (oi := ⟨some 30, _, _, _, _, _⟩) (v := ?_) rfl (by kernel_rfl) (by kernel_rfl) (by kernel_rfl) (fun _ _ _ h => h) (Or.inl ⟨by simp only [Region.wanted], ?_⟩) hS ?_
          rotate_left
          · intro wz hSw
            clear hSw
            go_simp
            first | done | with_reducible rfl
          try simp only [Act.put, List.setIfInBounds_toArray, List.set_cons_zero, List.set_cons_succ]
          refine wpAnyH_take (i := 10) (oi := ⟨some 40, _, _, _, _, _⟩) (v := ?_) rfl (by kernel_rfl) (by kernel_rfl) (by kernel_rfl) (fun _ _ _ h => h) (Or.inl ⟨by simp only [Region.wanted], ?_⟩) hS ?_
          rotate_left
          · intro wz hSw
            clear hSw
            go_simp
            first | done | with_reducible rfl
          try simp only [Act.put, List.setIfInBounds_toArray, List.set_cons_zero, List.set_cons_succ]
          refine wpAnyH_take (i := 11) (oi := ⟨some 41, _, _, _, _, _⟩) (v := ?_) rfl (by kernel_rfl) (by kernel_rfl) (by kernel_rfl) (fun _ _ _ h => h) (Or.inl ⟨by simp only [Region.wanted], ?_⟩) hS ?_
          rotate_left
          · intro wz hSw
            clear hSw
            go_simp
            first | done | with_reducible rfl
          try simp only [Act.put, List.setIfInBounds_toArray, List.set_cons_zero, List.set_cons_succ]
          refine wpAnyH_take (i := 12) (oi := ⟨some 8, _, _, _, _, _⟩) (v := ?_) rfl (by kernel_rfl) (by kernel_rfl) (by kernel_rfl) (fun _ _ _ h => h) (Or.inl ⟨by simp only [Region.wanted], ?_⟩) hS ?_
          rotate_left
          · intro wz hSw
            clear hSw
            go_simp
            first | done | with_reducible rfl
          try simp only [Act.put, List.setIfInBounds_toArray, List.set_cons_zero, List.set_cons_succ]
          refine wpAnyH_take (i := 13) (oi := ⟨some 9, _, _, _, _, _⟩) (v := ?_) rfl (by kernel_rfl) (by kernel_rfl) (by kernel_rfl) (fun _ _ _ h => h) (Or.inl ⟨by simp only [Region.wanted], ?_⟩) hS ?_
          rotate_left
          · intro wz hSw
            clear hSw
            go_simp
            first | done | with_reducible rfl
          try simp only [Act.put, List.setIfInBounds_toArray, List.set_cons_zero, List.set_cons_succ]
          refine wpAnyH_done (by kernel_rfl) ?_ _
          clear HSET hS hal0 hal1 hal2 H4 H3 H1 HN1 HN2
          rcases hcase with ⟨f1, f2, rfl, rfl, hc⟩ | ⟨f, rfl, rfl, hc⟩
          · have HC := Lib.hid hc
            clear hc
            have g1 : (nn : Int) ≤ 140 := by omega
            have g2 : (nn : Int) + m ≤ 150 := by omega
            go_wp2_with fail
            refine HC.out.2.mono ?_
            rintro en w8 ⟨rfl, h8⟩
            have H8 := Lib.hid h8
            clear h8
            go_wp2_with fail
            go_ret
            exact ⟨rfl, H8.out⟩
          · have HC := Lib.hid hc
            clear hc
            by_cases g1 : (nn : Int) ≤ 140
            · have g2 : ¬ (nn : Int) + m ≤ 150 := by omega
              go_wp2_with fail
              refine HC.out.2.mono ?_
              rintro en w8 ⟨rfl, h8⟩
              have H8 := Lib.hid h8
              clear h8
              go_wp2_with fail
              go_ret
              exact ⟨rfl, H8.out⟩
            · clear f
              go_wp2_with fail
              refine HC.out.2.mono ?_
              rintro en w8 ⟨rfl, h8⟩
              have H8 := Lib.hid h8
              clear h8
              go_wp2_with fail
              go_ret
              exact ⟨rfl, H8.out⟩
      · have hcv := run_conv_bytes hbm
        go_simp
        refine hK.out _ _ trivial (fun hS => ?_)
        clear hK K hcv hbm
        try simp only [Act.put, List.setIfInBounds_toArray, List.set_cons_zero, List.set_cons_succ]
        refine wpAnyH_ready (rs := [4]) (by kernel_rfl) (by simp) ?_
        refine AllReadyH.cons (o := ⟨some 35, _, _, _, _, _⟩) rfl (fun K hK => ?_) (AllReadyH.nil)
        · have hcv := run_conv_bytes hbnn
          go_simp
          refine hK.out _ _ trivial (fun hS => ?_)
          clear hK K hcv hbnn
          try simp only [Act.put, List.setIfInBounds_toArray, List.set_cons_zero, List.set_cons_succ]
          refine wpAnyH_ready (rs := [8]) (by kernel_rfl) (by simp) ?_
          refine AllReadyH.cons (o := ⟨some 39, _, _, _, _, _⟩) rfl (fun K hK => ?_) AllReadyH.nil
          go_simp
          refine (HSET.out _ hal2).mono ?_
          rintro en w7 ⟨a8, e9, rfl, hcase⟩
          refine hK.out _ _ (trivial) (fun hS => ?_)
          clear hK K
          try simp only [Act.put, List.setIfInBounds_toArray, List.set_cons_zero, List.set_cons_succ]
          refine wpAnyH_take (i := 9) (oi := ⟨some 30, _, _, _, _, _⟩) (v := ?_) rfl (by kernel_rfl) (by kernel_rfl) (by kernel_rfl) (fun _ _ _ h => h) (Or.inl ⟨by simp only [Region.wanted], ?_⟩) hS ?_
          rotate_left
          · intro wz hSw
            clear hSw
            go_simp
            first | done | with_reducible rfl
          try simp only [Act.put, List.setIfInBounds_toArray, List.set_cons_zero, List.set_cons_succ]
          refine wpAnyH_take (i := 10) (oi := ⟨some 40, _, _, _, _, _⟩) (v := ?_) rfl (by kernel_rfl) (by kernel_rfl) (by kernel_rfl) (fun _ _ _ h => h) (Or.inl ⟨by simp only [Region.wanted], ?_⟩) hS ?_
          rotate_left
          · intro wz hSw
            clear hSw
            go_simp
            first | done | with_reducible rfl
          try simp only [Act.put, List.setIfInBounds_toArray, List.set_cons_zero, List.set_cons_succ]
          refine wpAnyH_take (i := 11) (oi := ⟨some 41, _, _, _, _, _⟩) (v := ?_) rfl (by kernel_rfl) (by kernel_rfl) (by kernel_rfl) (fun _ _ _ h => h) (Or.inl ⟨by simp only [Region.wanted], ?_⟩) hS ?_
          rotate_left
          · intro wz hSw
            clear hSw
            go_simp
            first | done | with_reducible rfl
          try simp only [Act.put, List.setIfInBounds_toArray, List.set_cons_zero, List.set_cons_succ]
          refine wpAnyH_take (i := 12) (oi := ⟨some 8, _, _, _, _, _⟩) (v := ?_) rfl (by kernel_rfl) (by kernel_rfl) (by kernel_rfl) (fun _ _ _ h => h) (Or.inl ⟨by simp only [Region.wanted], ?_⟩) hS ?_
          rotate_left
          · intro wz hSw
            clear hSw
            go_simp
            first | done | with_reducible rfl
          try simp only [Act.put, List.setIfInBounds_toArray, List.set_cons_zero, List.set_cons_succ]
          refine wpAnyH_take (i := 13) (oi := ⟨some 9, _, _, _, _, _⟩) (v := ?_) rfl (by kernel_rfl) (by kernel_rfl) (by kernel_rfl) (fun _ _ _ h => h) (Or.inl ⟨by simp only [Region.wanted], ?_⟩) hS ?_
          rotate_left
          · intro wz hSw
            clear hSw
            go_simp
            first | done | with_reducible rfl
          try simp only [Act.put, List.setIfInBounds_toArray, List.set_cons_zero, List.set_cons_succ]
          refine wpAnyH_done (by kernel_rfl) ?_ _
          clear HSET hS hal0 hal1 hal2 H4 H3 H1 HN1 HN2
          rcases hcase with ⟨f1, f2, rfl, rfl, hc⟩ | ⟨f, rfl, rfl, hc⟩
          · have HC := Lib.hid hc
            clear hc
            have g1 : (nn : Int) ≤ 140 := by omega
            have g2 : (nn : Int) + m ≤ 150 := by omega
            go_wp2_with fail
            refine HC.out.2.mono ?_
            rintro en w8 ⟨rfl, h8⟩
            have H8 := Lib.hid h8
            clear h8
            go_wp2_with fail
            go_ret
            exact ⟨rfl, H8.out⟩
          · have HC := Lib.hid hc
            clear hc
            by_cases g1 : (nn : Int) ≤ 140
            · have g2 : ¬ (nn : Int) + m ≤ 150 := by omega
              go_wp2_with fail
              refine HC.out.2.mono ?_
              rintro en w8 ⟨rfl, h8⟩
              have H8 := Lib.hid h8
              clear h8
              go_wp2_with fail
              go_ret
              exact ⟨rfl, H8.out⟩
            · clear f
              go_wp2_with fail
              refine HC.out.2.mono ?_
              rintro en w8 ⟨rfl, h8⟩
              have H8 := Lib.hid h8
              clear h8
              go_wp2_with fail
              go_ret
              exact ⟨rfl, H8.out⟩
    · have hcv := run_conv_bytes hbm
      go_simp
      refine hK.out _ _ trivial (fun hS => ?_)
      clear hK K hcv hbm
      try simp only [Act.put, List.setIfInBounds_toArray, List.set_cons_zero, List.set_cons_succ]
      refine wpAnyH_ready (rs := [3]) (by kernel_rfl) (by simp) ?_
      refine AllReadyH.cons (o := ⟨some 34, _, _, _, _, _⟩) rfl (fun K hK => ?_) (AllReadyH.nil)
      · have hmk := HN1.out
        go_simp
        clear hmk
        have hal2 : Below w4.heap.size w4 (World.alloc v1 (.cells (vbs (zeros nn)).toArray 5)) := hal1.alloc hal1.size _
        have hbnn : Bs (World.alloc v1 (.cells (vbs (zeros nn)).toArray 5)) (.slice (some ⟨v1.heap.size, 0, none⟩) nn nn) (zeros nn) := by
          have := Blk.bs (Blk.new v1 (vbs (zeros nn)).toArray 5) (by rw [zeros_length]; unfold maxLen; omega)
          rwa [zeros_length] at this
        generalize World.alloc v1 _ = v2 at *
        refine hK.out _ _ trivial (fun hS => ?_)
        clear hK K
        try simp only [Act.put, List.setIfInBounds_toArray, List.set_cons_zero, List.set_cons_succ]
        refine wpAnyH_ready (rs := [4]) (by kernel_rfl) (by simp) ?_
        refine AllReadyH.cons (o := ⟨some 35, _, _, _, _, _⟩) rfl (fun K hK => ?_) (AllReadyH.nil)
        · have hcv := run_conv_bytes hbnn
          go_simp
          refine hK.out _ _ trivial (fun hS => ?_)
          clear hK K hcv hbnn
          try simp only [Act.put, List.setIfInBounds_toArray, List.set_cons_zero, List.set_cons_succ]
          refine wpAnyH_ready (rs := [8]) (by kernel_rfl) (by simp) ?_
          refine AllReadyH.cons (o := ⟨some 39, _, _, _, _, _⟩) rfl (fun K hK => ?_) AllReadyH.nil
          go_simp
          refine (HSET.out _ hal2).mono ?_
          rintro en w7 ⟨a8, e9, rfl, hcase⟩
          refine hK.out _ _ (trivial) (fun hS => ?_)
          clear hK K
          try simp only [Act.put, List.setIfInBounds_toArray, List.set_cons_zero, List.set_cons_succ]
          refine wpAnyH_take (i := 9) (oi := ⟨some 30, _, _, _, _, _⟩) (v := ?_) rfl (by kernel_rfl) (by kernel_rfl) (by kernel_rfl) (fun _ _ _ h => h) (Or.inl ⟨by simp only [Region.wanted], ?_⟩) hS ?_
          rotate_left
          · intro wz hSw
            clear hSw
            go_simp
            first | done | with_reducible rfl
          try simp only [Act.put, List.setIfInBounds_toArray, List.set_cons_zero, List.set_cons_succ]
          refine wpAnyH_take (i := 10) (oi := ⟨some 40, _, _, _, _, _⟩) (v := ?_) rfl (by kernel_rfl) (by kernel_rfl) (by kernel_rfl) (fun _ _ _ h => h) (Or.inl ⟨by simp only [Region.wanted], ?_⟩) hS ?_
          rotate_left
          · intro wz hSw
            clear hSw
            go_simp
            first | done | with_reducible rfl
          try simp only [Act.put, List.setIfInBounds_toArray, List.set_cons_zero, List.set_cons_succ]
          refine wpAnyH_take (i := 11) (oi := ⟨some 41, _, _, _, _, _⟩) (v := ?_) rfl (by kernel_rfl) (by kernel_rfl) (by kernel_rfl) (fun _ _ _ h => h) (Or.inl ⟨by simp only [Region.wanted], ?_⟩) hS ?_
          rotate_left
          · intro wz hSw
            clear hSw
            go_simp
            first | done | with_reducible rfl
          try simp only [Act.put, List.setIfInBounds_toArray, List.set_cons_zero, List.set_cons_succ]
          refine wpAnyH_take (i := 12) (oi := ⟨some 8, _, _, _, _, _⟩) (v := ?_) rfl (by kernel_rfl) (by kernel_rfl) (by kernel_rfl) (fun _ _ _ h => h) (Or.inl ⟨by simp only [Region.wanted], ?_⟩) hS ?_
          rotate_left
          · intro wz hSw
            clear hSw
            go_simp
            first | done | with_reducible rfl
          try simp only [Act.put, List.setIfInBounds_toArray, List.set_cons_zero, List.set_cons_succ]
          refine wpAnyH_take (i := 13) (oi := ⟨some 9, _, _, _, _, _⟩) (v := ?_) rfl (by kernel_rfl) (by kernel_rfl) (by kernel_rfl) (fun _ _ _ h => h) (Or.inl ⟨by simp only [Region.wanted], ?_⟩) hS ?_
          rotate_left
          · intro wz hSw
            clear hSw
            go_simp
            first | done | with_reducible rfl
          try simp only [Act.put, List.setIfInBounds_toArray, List.set_cons_zero, List.set_cons_succ]
          refine wpAnyH_done (by kernel_rfl) ?_ _
          clear HSET hS hal0 hal1 hal2 H4 H3 H1 HN1 HN2
          rcases hcase with ⟨f1, f2, rfl, rfl, hc⟩ | ⟨f, rfl, rfl, hc⟩
          · have HC := Lib.hid hc
            clear hc
            have g1 : (nn : Int) ≤ 140 := by omega
            have g2 : (nn : Int) + m ≤ 150 := by omega
            go_wp2_with fail
            refine HC.out.2.mono ?_
            rintro en w8 ⟨rfl, h8⟩
            have H8 := Lib.hid h8
            clear h8
            go_wp2_with fail
            go_ret
            exact ⟨rfl, H8.out⟩
          · have HC := Lib.hid hc
            clear hc
            by_cases g1 : (nn : Int) ≤ 140
            · have g2 : ¬ (nn : Int) + m ≤ 150 := by omega
              go_wp2_with fail
              refine HC.out.2.mono ?_
              rintro en w8 ⟨rfl, h8⟩
              have H8 := Lib.hid h8
              clear h8
              go_wp2_with fail
              go_ret
              exact ⟨rfl, H8.out⟩
            · clear f
              go_wp2_with fail
              refine HC.out.2.mono ?_
              rintro en w8 ⟨rfl, h8⟩
              have H8 := Lib.hid h8
              clear h8
              go_wp2_with fail
              go_ret
              exact ⟨rfl, H8.out⟩
end Go.Proofs.Ytcnfnpccbnnplaa
