/- The walk of the law DiskOwn. -/
import Derived.Test.YtejjeaknpbdeaaaKnown
import Derived.Test.YtejjeaknpbdeaaaLimits
namespace Go.Proofs.Ytejjeaknpbdeaaa
open Go.RowKit

theorem own_facts (l : List UInt8) (hl : l.length ≤ 512) : writeErr (Dsk.new 3) 1 l = 0 ∧ faultOf ((Dsk.new 3).write 1 l) 1 = 0 ∧ readOf ((Dsk.new 3).write 1 l) 1 = l ++ zeros (512 - l.length) := by
  obtain ⟨e1, e2⟩ := write_ok (new_good 3 1 (by decide)) hl
  have hs : (⟨l.toArray⟩ : ByteArray).size = l.length := by show l.toArray.size = _; simp
  refine ⟨e1, by rw [e2]; rfl, ?_⟩
  rw [e2]
  show pad ⟨l.toArray⟩ = _
  rw [pad, hs]

theorem own_fault0 : faultOf (Dsk.new 3) 1 = 0 := rfl
theorem own_read0 : readOf (Dsk.new 3) 1 = zeros 512 := rfl

theorem Own.moved {P : Nat → Prop} {w w' : World} {base : Nat} {v : Value} {l : List UInt8} (h : Own w base v l) (hm : Moved P w w') (hP : ∀ k, v.ownBlock = some k → ¬ P k) : Own w' base v l := owns_moved h hm hP

theorem Own.frozen {w : World} {base : Nat} {v : Value} {l : List UInt8} (h : Own w base v l) (g : Nat) (hg : v.ownBlock = some g) (j : Nat) : w.frozen? ⟨g, j, none⟩ = false := by
  rcases h.2 with ⟨rfl, _⟩ | ⟨g', cap, cur, rfl, _, hh, _⟩
  · simp [Value.ownBlock] at hg
  · simp [Value.ownBlock] at hg
    subst hg
    exact frozen_of_row w _ j cur _ hh

theorem Bs.takes {w : World} {ao : Option Addr} {cap : Nat} {l : List UInt8} (h : Bs w (.slice ao l.length cap) l) (n : Nat) (hn : n ≤ l.length) : Bs w (.slice ao n cap) (l.take n) := by
  obtain ⟨a, c, e, h1, h2, h3, h4⟩ := h
  simp only [Value.slice.injEq, true_and] at e
  obtain ⟨rfl, rfl⟩ := e
  have hlen : (l.take n).length = n := by simp; omega
  refine ⟨ao, cap, by rw [hlen], by omega, h2, h3, fun ad had j u hu => h4 ad had j u ?_⟩
  have hj : j < n := by
    have := (List.getElem?_eq_some_iff.1 hu).1
    rw [vbs_length, hlen] at this; exact this
  unfold vbs at hu ⊢
  rw [List.map_take, List.getElem?_take, if_pos hj] at hu
  exact hu

theorem own_walk (bo : Option Addr) (bc : Nat) (l : List UInt8) (x : Int) (w : World) (hbs : Bs w (.slice bo l.length bc) l) (hl1 : 0 < l.length) (hl : l.length ≤ 100) :
    Calls Try.prog 7 #[.slice bo l.length bc, .int .i64 x] w fun e w' => e = .returned (.bool true) ∧ Below w.heap.size w w' := by
  obtain ⟨m, hm, hml⟩ : ∃ m : Nat, withinOf x l.length = m ∧ m < l.length := ⟨(withinOf x l.length).toNat, by have := within_range x l.length (by omega); omega, by have := within_range x l.length (by omega); omega⟩
  have wx := within_any x l.length (by omega) (by omega)
  rw [hm] at wx
  have HX := Lib.hid wx
  obtain ⟨e1, e2, e3⟩ := own_facts l (by omega)
  have E1 := Lib.hid e1
  have E2 := Lib.hid e2
  have E3 := Lib.hid e3
  have hbc : l.length ≤ bc ∧ bc ≤ 9223372036854775807 := by
    obtain ⟨a, c, e, g1, g2, -⟩ := hbs
    simp only [Value.slice.injEq, true_and] at e
    obtain ⟨rfl, rfl⟩ := e
    exact ⟨g1, g2⟩
  have hl0 : ((l.length : Int) == 0) = false := by simpa using (by omega : (l.length : Int) ≠ 0)
  have hl100 : (l.length : Int) ≤ 100 := by omega
  clear wx hm e1 e2 e3
  go_enter Try.func7, Try.ntmps7
  go_wp2_with fail
  refine (known_any _).mono ?_
  rintro e w0 ⟨rfl, hb0⟩
  go_wp2_with fail
  refine (dnew_any 3 _).mono ?_
  rintro e w1 ⟨r, P, rfl, hd, hb1, hP⟩
  have hd : Dk w1 P r (Dsk.new 3) := hd
  have hd := hd.shrink
  go_wp2_with fail
  refine (dnew_any 3 _).mono ?_
  rintro e w2 ⟨q, Q, rfl, hx, hb2, hQ⟩
  have hx : Dk w2 Q q (Dsk.new 3) := hx
  have hx := hx.shrink
  have hd := hd.moved (Q := fun _ => False) (Moved.of_below hb2 _) (fun _ _ h => h)
  have s0 := hb0.size
  have s1 := hb1.size
  have s2 := hb2.size
  have hB2 := (hb0.trans (hb1.mono s0)).trans (hb2.mono (Nat.le_trans s0 s1))
  have hbs2 := hbs.below hB2
  have hbs2' := hbs2.below ((Below.refl _ w2).alloc (Nat.le_refl _) (.cells #[] 5))
  clear hb0 hb1 hb2
  go_wp2_with (at_builtin; refine wpList_append_bytes rfl _ _ rfl w2.heap.size _ _ rfl (Own.empty _ _ (Nat.le_refl _)) _ _ rfl hbs2' ?a3 ?a4 ?_)
  case a3 => simp; omega
  case a4 => simp
  intro vc w3 hc hg3
  have hm3 : Moved (fun k => w2.heap.size ≤ k) w2 w3 := ((Moved.refl _ w2).alloc _).grown hg3 (fun k hk => by simp [Value.ownBlock] at hk; omega)
  have s3 := hm3.size
  have hd := hd.moved hm3 (fun k hk h => by omega)
  have hx := hx.moved hm3 (fun k hk h => by omega)
  have hB3 := hB2.trans (hm3.below (fun k hk => by omega) hB2.size)
  obtain ⟨gc, cc, hvc, hc1, hc2, hc3, hc4, hcc⟩ := hc.at hl1
  have hc2' : cc ≤ 9223372036854775807 := hc2
  subst hvc
  have hvo : ∀ k, (Value.slice (some ⟨gc, 0, none⟩) l.length cc).ownBlock = some k → k = gc := fun k hk => by simp [Value.ownBlock] at hk; omega
  clear hg3 hm3 hbs2 hbs2' hcc hc2
  go_wp2_with fail
  refine (write_any _ r (Dsk.new 3) 1 _ l _ hd hc.bs (Nat.zero_le _) (Nat.zero_le _) (Nat.zero_le _)).mono ?_
  rw [E1.out]
  rintro e w4 ⟨rfl, P4, hd4, hm4, hP4⟩
  have hd4 := hd4.shrink
  have hx := hx.moved hm4 (fun k hk h => by have := hQ k hk.1; omega)
  have hc := hc.moved hm4 (fun k hk h => by have := hvo k hk; omega)
  have hB4 := hB3.trans (hm4.below (fun k hk => by have := hP k hk.1; omega) hB3.size)
  have s4 := hm4.size
  have hgc4 : ∀ k, P4 k → k ≠ gc := fun k hk => by
    rcases hP4 k hk with h | h <;> omega
  have hlow4 : ∀ k, P4 k → w0.heap.size ≤ k := fun k hk => by
    rcases hP4 k hk with h | h
    · exact hP k h.1
    · omega
  clear hm4
  obtain ⟨g', c', e', -, -, -, -, hcell⟩ := hc.at hl1
  simp only [Value.slice.injEq, Option.some.injEq, Addr.mk.injEq, and_true, true_and] at e'
  obtain ⟨rfl, rfl⟩ := e'
  have hcm := hcell m hml
  obtain ⟨z, hz⟩ : ∃ z : Int, z = (l[m].toNat : Int) := ⟨_, rfl⟩
  replace hcm : w4.cell? ⟨gc, m, none⟩ = some (.int .u8 z) := by rw [hcm, hz]; rfl
  have hfm : w4.frozen? ⟨gc, m, none⟩ = false := hc.out.frozenAt m
  clear hcell hz
  go_wp2_with fail
  refine (HX.out _).mono ?_
  rintro e w9 ⟨rfl, hw9⟩
  replace hw9 := hw9.symm
  subst hw9
  go_wp2_with fail
  have hm5 : ∀ u, Moved (· = gc) w4 (w4.setCell ⟨gc, m, none⟩ u) := fun u => (Moved.refl (· = gc) w4).setCell ⟨gc, m, none⟩ _ (.inl rfl)
  replace hm5 := hm5 (.int .u8 ((z + 1) % 256))
  generalize w4.setCell _ _ = w5 at hm5 ⊢
  have hd5 := hd4.moved hm5 (fun k hk h => hgc4 k hk.1 h)
  replace hx := hx.moved hm5 (fun k hk h => by omega)
  have hB5 := hB4.trans (hm5.below (fun k hk => by have := hB2.size; omega) hB4.size)
  have s5 := hm5.size
  clear hcm hfm hc hd hd4 hm5
  refine (read_any _ r _ 1 _ hd5).mono ?_
  rw [E2.out, E3.out]
  rintro e w6 ⟨vy, rfl, hy, hb6⟩
  obtain ⟨gy, cy, hvy, hy1, hy2, hy3, hy4, hyc⟩ := hy.word (by rw [List.length_append, zeros_length]; omega)
  have hy2' : cy ≤ 9223372036854775807 := hy2
  subst hvy
  have s6 := hb6.size
  have hd6 := hd5.moved (Moved.of_below hb6 (fun _ => False)) (fun _ _ h => h)
  replace hx := hx.moved (Moved.of_below hb6 (fun _ => False)) (fun _ _ h => h)
  have hB6 := hB5.trans (hb6.mono hB5.size)
  have hcm := hyc m (by rw [List.length_append]; omega)
  obtain ⟨z2, hz2⟩ : ∃ z2 : Int, z2 = (l[m].toNat : Int) := ⟨_, rfl⟩
  replace hcm : w6.cell? ⟨gy, m, none⟩ = some (.int .u8 z2) := by rw [hcm, hz2, List.getElem_append_left hml]; rfl
  have hfm : w6.frozen? ⟨gy, m, none⟩ = false := hy.frozen gy rfl m
  clear hyc hz2 hy hb6 hy2 hd5
  have hm512 : (m : Int) < 512 := by omega
  go_wp2_with fail
  refine (HX.out _).mono ?_
  rintro e w9 ⟨rfl, hw9⟩
  replace hw9 := hw9.symm
  subst hw9
  go_wp2_with fail
  have hm7 : ∀ u, Moved (· = gy) w6 (w6.setCell ⟨gy, m, none⟩ u) := fun u => (Moved.refl (· = gy) w6).setCell ⟨gy, m, none⟩ _ (.inl rfl)
  replace hm7 := hm7 (.int .u8 ((z2 + 1) % 256))
  generalize w6.setCell _ _ = w7 at hm7 ⊢
  have hd7 := hd6.moved hm7 (fun k hk h => by have := hk.2; omega)
  replace hx := hx.moved hm7 (fun k hk h => by have := hk.2; omega)
  have hB7 := hB6.trans (hm7.below (fun k hk => by have := hB5.size; omega) hB6.size)
  have s7 := hm7.size
  clear hcm hfm hd6 hm7
  refine (read_any _ r _ 1 _ hd7).mono ?_
  rw [E2.out, E3.out]
  rintro e w8 ⟨vz, rfl, hz, hb8⟩
  replace hx := hx.moved (Moved.of_below hb8 (fun _ => False)) (fun _ _ h => h)
  have hB8 := hB7.trans (hb8.mono hB7.size)
  go_wp2_with fail
  refine (read_any _ q _ 1 _ hx).mono ?_
  rw [own_fault0, own_read0]
  rintro e w9 ⟨vw, rfl, hw, hb9⟩
  have hB9 := hB8.trans (hb9.mono hB8.size)
  have hbz := (hz.below hb9).bs
  have hbw := hw.bs
  have hbb := hbs.below hB9
  have h512 : (l ++ zeros (512 - l.length)).length = 512 := by rw [List.length_append, zeros_length]; omega
  obtain ⟨gz, cz, hvz, hz1, hz2, -⟩ := hz.word h512
  obtain ⟨gw, cw, hvw, hw1, hw2, -⟩ := hw.word (zeros_length 512)
  have hz2' : cz ≤ 9223372036854775807 := hz2
  have hw2' : cw ≤ 9223372036854775807 := hw2
  subst hvz hvw
  have hbz' : Bs w9 (.slice (some ⟨gz, 0, none⟩) l.length cz) l := by
    have h' : Bs w9 (.slice (some ⟨gz, 0, none⟩) (l ++ zeros (512 - l.length)).length cz) (l ++ zeros (512 - l.length)) := by rw [h512]; exact hbz
    have := h'.takes l.length (by rw [List.length_append]; omega)
    rwa [List.take_left' rfl] at this
  have hal : ∀ o, Below w9.heap.size w9 (w9.alloc o) := fun o => (Below.refl _ w9).alloc (Nat.le_refl _) o
  have hcz := run_conv_bytes hbz'.drew
  have hcb := run_conv_bytes hbb.drew
  have hcw := run_conv_bytes hbw.drew
  have hcw2 := fun o => run_conv_bytes (hbw.below (hal o)).drew
  have hcn := run_conv_bytes (Bs.made w9 512 (by decide)).drew
  have hmk := run_make_bytes 512 512 rfl (by decide)
  have HB9 := Lib.hid hB9
  have HBA := Lib.hid (hB9.alloc hB9.size (.cells (vbs (zeros 512)).toArray 5))
  obtain ⟨X, hX⟩ : ∃ X : ByteArray, X = ⟨l.toArray⟩ := ⟨_, rfl⟩
  obtain ⟨Z, hZ⟩ : ∃ Z : ByteArray, Z = ⟨(zeros 512).toArray⟩ := ⟨_, rfl⟩
  rw [← hX] at hcz hcb
  rw [← hZ] at hcw hcn
  replace hcw2 : ∀ o, (convert 30 9 (.slice (some ⟨gw, 0, none⟩) 512 cw)).run Try.prog (w9.alloc o).drew = .ok (.string Z) (w9.alloc o).drew := fun o => by rw [hZ]; exact hcw2 o
  have hls : (l.length : Int) ≤ cz := by omega
  clear hX hZ hbz' hbz hbb hbw hz hw hal hB9 hB8 hB7 hB6 hB5 hB4 hB3 hB2 hb8 hb9 hx hd7 hP hQ hP4 hgc4 hlow4 E1 E2 E3 HX hz2 hw2 hbs h512
  go_wp2_with fail
  go_region
  all_goals go_wp2
  all_goals go_ret
  · exact ⟨rfl, HBA.out.drew⟩

theorem own_all (bo : Option Addr) (bc : Nat) (l : List UInt8) (x : Int) (w : World) (hbs : Bs w (.slice bo l.length bc) l) :
    Calls Try.prog 7 #[.slice bo l.length bc, .int .i64 x] w fun e w' => e = .returned (.bool true) ∧ Below w.heap.size w w' := by
  by_cases h0 : l.length = 0
  · obtain rfl : l = [] := List.eq_nil_of_length_eq_zero h0
    clear hbs h0
    go_enter Try.func7, Try.ntmps7
    go_wp2_with fail
    refine (known_any _).mono ?_
    rintro e w1 ⟨rfl, hb1⟩
    go_wp2_with fail
    go_ret
    exact ⟨rfl, hb1⟩
  by_cases hl : l.length ≤ 100
  · exact own_walk bo bc l x w hbs (by omega) hl
  · have hl0 : ((l.length : Int) == 0) = false := by simpa using (by omega : (l.length : Int) ≠ 0)
    have hl1 : (100 : Int) < l.length := by omega
    clear hbs h0 hl
    go_enter Try.func7, Try.ntmps7
    go_wp2_with fail
    refine (known_any _).mono ?_
    rintro e w1 ⟨rfl, hb1⟩
    go_wp2_with fail
    go_ret
    exact ⟨rfl, hb1⟩
end Go.Proofs.Ytejjeaknpbdeaaa
