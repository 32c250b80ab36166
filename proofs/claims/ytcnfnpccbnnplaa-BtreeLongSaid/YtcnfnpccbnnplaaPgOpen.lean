/- The pager: Open. -/
import Derived.Test.YtcnfnpccbnnplaaPgLoad
namespace Go.Proofs.Ytcnfnpccbnnplaa
open Go.RowKit Go.Maps
set_option maxRecDepth 100000

theorem open_small {w : World} {P : Nat → Prop} {r : Nat} {A : Ab} (hd : DkA w P r A) (hs : A.now.length < 403) :
    Calls Try.prog 11 #[.pointer (some ⟨r, 0, none⟩)] w fun e w' => e = .returned (.tuple #[.pointer none, .int .i64 1]) ∧ Below w.heap.size w w' := by
  have hal : Below w.heap.size w (w.alloc (.cells #[.int .i64 0, .slice none 0 0] 80)) := (Below.refl _ w).alloc (Nat.le_refl _) _
  have hsz : Calls Try.prog 41 #[.pointer (some ⟨r, 0, none⟩)] (w.alloc (.cells #[.int .i64 0, .slice none 0 0] 80)) fun e w' => e = .returned (.int .i64 (A.now.length : Int)) ∧ w' = (w.alloc (.cells #[.int .i64 0, .slice none 0 0] 80)) := to_size (DkTo.refl (hd.below hal))
  obtain ⟨n, hn⟩ : ∃ n, n = A.now.length := ⟨_, rfl⟩
  rw [← hn] at hsz hs
  have hs' : (n : Int) < 403 := by omega
  have HA := Lib.hid hal
  have HS := Lib.hid hsz
  clear hd hal hn hs hsz
  go_enter Try.func11, Try.ntmps11
  go_wp2_with fail
  refine wp_scope_jumps 0 (fun a' w' => ∃ u0 u1 u2 u3 u5 u7 u8 u9 u10 u11 u12 u13 u14 u15 u16 u17 u18 u19 u20 u21 u22 u23 u24 u25 u26 u27 u28 u29 : Value, a' = { tmps := #[u0, u1, u2, u3, .pointer none, u5, .int .i64 1, u7, u8, u9, u10, u11, u12, u13, u14, u15, u16, u17, u18, u19, u20, u21, u22, u23, u24, u25, u26, u27, u28, u29], defers := [] } ∧ w' = (w.alloc (.cells #[.int .i64 0, .slice none 0 0] 80))) (fun _ _ => 0) rfl ?_ ?_
  · go_wp2_with (first | (refine HS.out.mono ?_; rintro e w' ⟨rfl, he⟩; subst he) | fail)
    go_step3
    exact ⟨rfl, ⟨_, _, _, _, _, _, _, _, _, _, _, _, _, _, _, _, _, _, _, _, _, _, _, _, _, _, _, _, rfl, rfl⟩⟩
  · rintro a' w' ⟨u0, u1, u2, u3, u5, u7, u8, u9, u10, u11, u12, u13, u14, u15, u16, u17, u18, u19, u20, u21, u22, u23, u24, u25, u26, u27, u28, u29, rfl, rfl⟩
    go_wp2
    simp only [Exit.jump]
    go_ret2
    exact ⟨rfl, HA.out⟩

theorem open_good {w : World} {P : Nat → Prop} {r : Nat} {A : Ab} {N : Nat} {L : List Nat} {root : Int} (hd : DkA w P r A) (hsm : Small A 100000) (hs : 403 ≤ A.now.length) (h0 : A.recover.2.1 = 0) (he : Enc A.recover.2.2 N L root) :
    Calls Try.prog 11 #[.pointer (some ⟨r, 0, none⟩)] w fun e w' => ∃ p Q P', e = .returned (.tuple #[.pointer (some ⟨p, 0, none⟩), .int .i64 0]) ∧ Pg w' Q r p ⟨root, nextOf N L⟩ none ∧ DkA w' P' r A.recover.2.2 ∧
      Moved P w w' ∧ (∀ k, P' k → (P k ∨ w.heap.size ≤ k) ∧ k < w'.heap.size) ∧ ∀ k, Q k → w.heap.size ≤ k ∧ k < w'.heap.size ∧ ¬ P' k := by
  have hal : Below w.heap.size w (w.alloc (.cells #[.int .i64 0, .slice none 0 0] 80)) := (Below.refl _ w).alloc (Nat.le_refl _) _
  have hnb := Blk.new w #[.int .i64 0, .slice none 0 0] 80
  have hd0 := hd.shrink.below hal
  have hsz : Calls Try.prog 41 #[.pointer (some ⟨r, 0, none⟩)] (w.alloc (.cells #[.int .i64 0, .slice none 0 0] 80)) fun e w' => e = .returned (.int .i64 (A.now.length : Int)) ∧ w' = (w.alloc (.cells #[.int .i64 0, .slice none 0 0] 80)) := to_size (DkTo.refl hd0)
  have hrec := drecover_any _ _ r A hd0 hsm
  rw [h0] at hrec
  obtain ⟨n, hn⟩ : ∃ n, n = A.now.length := ⟨_, rfl⟩
  rw [← hn] at hsz hs
  have hs' : ¬ (n : Int) < 403 := by omega
  obtain ⟨x, hx⟩ : ∃ x, x = A.recover.1 := ⟨_, rfl⟩
  obtain ⟨B, hB⟩ : ∃ B, B = A.recover.2.2 := ⟨_, rfl⟩
  rw [← hx, ← hB] at hrec
  rw [← hB] at he ⊢
  have HA := Lib.hid hal
  have HS := Lib.hid hsz
  have HR := Lib.hid hrec
  have HE := Lib.hid he
  have HNB := Lib.hid hnb
  have hlen := nextOf_length N L
  have hmost := he.most
  clear hd hd0 hal hn hs hsz hrec he hnb hx hB h0 hsm
  go_enter Try.func11, Try.ntmps11
  go_wp2_with fail
  go_step3
  go_wp2_with (first | (refine HS.out.mono ?_; rintro e w' ⟨rfl, he⟩; subst he) | fail)
  refine HR.out.mono ?_
  rintro e w1 ⟨rfl, P1, hd1, hm1, hp1⟩
  have hb1 := HNB.out.moved hm1 (fun h => by omega)
  have c0 : w1.cell? ⟨w.heap.size, 0, none⟩ = some (.int .i64 0) := by rw [hb1.cell]; rfl
  have hl := load_any hd1.shrink HE.out
  have HD1 := Lib.hid hd1.shrink
  have HM1 := Lib.hid hm1
  have HP1 := Lib.hid hp1
  have HB1 := Lib.hid hb1
  clear hd1 hm1 hp1 hb1 HR c0
  go_wp2_with fail
  refine hl.mono ?_
  rintro e w2 ⟨g, rfl, hg, hgg, hb2⟩
  have hb12 := HB1.out.moved (Moved.of_below hb2 (fun _ => False)) (fun h => h)
  have c0 : w2.cell? ⟨w.heap.size, 0, none⟩ = some (.int .i64 0) := by rw [hb12.cell]; rfl
  have c1 : w2.cell? ⟨w.heap.size, 1, none⟩ = some (.slice none 0 0) := by rw [hb12.cell]; rfl
  have f0 := hb12.frozen 0
  have f1 := hb12.frozen 1
  have HG := Lib.hid hg
  have HB2 := Lib.hid hb2
  clear hl hg hb2 hb12
  go_wp2_with fail
  go_step3
  go_wp2
  rw [Exit.noGoto_ret]
  go_ret2
  have hsz1 : w.heap.size + 1 ≤ w1.heap.size := by have := HM1.out.size; simpa using this
  have hq1 : ∀ k, P1 k → (P k ∧ k < w.heap.size) ∨ w.heap.size + 1 ≤ k := fun k hk => (HP1.out k hk).imp_right (fun h => by simpa using h)
  have hm2 : Moved (· = w.heap.size) w2 (((w2.setCell ⟨w.heap.size, 0, none⟩ (.int .i64 root)).setCell ⟨w.heap.size, 1, none⟩ (.slice (some ⟨g, 0, none⟩) N N)).alloc (.cells #[.pointer (some ⟨r, 0, none⟩), .int .i64 root, .slice (some ⟨g, 0, none⟩) N N, .int .i64 0, .slice none 0 0, .map none] 86)) :=
    (((Moved.refl (· = w.heap.size) w2).setCell ⟨w.heap.size, 0, none⟩ _ (.inl rfl)).setCell ⟨w.heap.size, 1, none⟩ _ (.inl rfl)).alloc _
  have hm12 : Moved (· = w.heap.size) w1 (((w2.setCell ⟨w.heap.size, 0, none⟩ (.int .i64 root)).setCell ⟨w.heap.size, 1, none⟩ (.slice (some ⟨g, 0, none⟩) N N)).alloc (.cells #[.pointer (some ⟨r, 0, none⟩), .int .i64 root, .slice (some ⟨g, 0, none⟩) N N, .int .i64 0, .slice none 0 0, .map none] 86)) :=
    (Moved.of_below HB2.out _).trans hm2 (fun _ h => .inl h)
  have hnew := Blk.new ((w2.setCell ⟨w.heap.size, 0, none⟩ (.int .i64 root)).setCell ⟨w.heap.size, 1, none⟩ (.slice (some ⟨g, 0, none⟩) N N)) #[.pointer (some ⟨r, 0, none⟩), .int .i64 root, .slice (some ⟨g, 0, none⟩) N N, .int .i64 0, .slice none 0 0, .map none] 86
  have hsz2 : ((w2.setCell ⟨w.heap.size, 0, none⟩ (.int .i64 root)).setCell ⟨w.heap.size, 1, none⟩ (.slice (some ⟨g, 0, none⟩) N N)).heap.size = w2.heap.size := by simp
  rw [hsz2] at hnew
  have hgl := HG.out.lt
  have h12 := HB2.out.size
  have hwl := hm2.size
  generalize (((w2.setCell ⟨w.heap.size, 0, none⟩ (.int .i64 root)).setCell ⟨w.heap.size, 1, none⟩ (.slice (some ⟨g, 0, none⟩) N N)).alloc (.cells #[.pointer (some ⟨r, 0, none⟩), .int .i64 root, .slice (some ⟨g, 0, none⟩) N N, .int .i64 0, .slice none 0 0, .map none] 86)) = wf at hm2 hm12 hnew hwl ⊢
  have hpl := hnew.lt
  refine ⟨w2.heap.size, fun k => w1.heap.size ≤ k ∧ k < wf.heap.size, fun k => P1 k ∧ k < w1.heap.size, rfl, ?_, ?_, ?_, ?_, ?_⟩
  · refine ⟨g, N, ⟨by rw [hlen]; exact hnew, ?_, by rw [hlen]; exact Nat.le_refl _, by simp [maxLen]; omega, ⟨by omega, hpl⟩, ⟨hgg, by omega⟩, by omega⟩⟩
    refine ⟨_, HG.out.moved hm2 (by omega), ?_⟩
    rw [List.toList_toArray, List.take_of_length_le (by rw [ints_length]; exact Nat.le_refl _)]
  · exact HD1.out.moved hm12 (fun k hk e => by rcases hq1 k hk.1 with h | h; omega; omega)
  · have h1 : Moved P w w1 := ((Moved.refl P w).alloc _).trans HM1.out (fun k hk => .inl hk.1)
    exact h1.trans hm12 (fun k hk => .inr (by omega))
  · intro k hk
    refine ⟨(hq1 k hk.1).elim (fun h => .inl h.1) (fun h => .inr (by omega)), by omega⟩
  · intro k hk
    exact ⟨by omega, hk.2, fun h => by omega⟩
end Go.Proofs.Ytcnfnpccbnnplaa
