/- The walk of the law PagerTurns. -/
import Derived.Test.YtbdmlhmmdcdppaaPgBusy
namespace Go.Proofs.Ytbdmlhmmdcdppaa
open Go.RowKit Go.Maps
set_option maxRecDepth 100000

theorem within4_any (a n : Int) (hn : 0 < n) (hn2 : n ≤ 4611686018427387904) (w : World) :
    Calls Try.prog 12 #[.int .i64 a, .int .i64 n] w fun e w' => e = .returned (.int .i64 (withinOf a n)) ∧ w' = w := by
  have h1 := Int.tmod_lt_of_pos a hn
  have h2 : -n < a.tmod n := Int.lt_tmod_of_pos a hn
  have hz : (n == 0) = false := by simpa using (by omega : n ≠ 0)
  by_cases h0 : a.tmod n < 0
  · rw [withinOf, if_pos h0]
    go_enter Try.func12, Try.ntmps12
    go_wp2
    go_ret
    exact ⟨rfl, rfl⟩
  · rw [withinOf, if_neg h0]
    go_enter Try.func12, Try.ntmps12
    go_wp2
    go_ret
    exact ⟨rfl, rfl⟩

theorem Ps.less {w0 w : World} {X X' : Nat → Prop} {r p N c : Nat} {G : Lg} {H : Option Lg} (h : Ps w0 w X r p N c G H) (hX : ∀ k, X' k → X k) : Ps w0 w X' r p N c G H := by
  obtain ⟨A, K, T, h, k⟩ := h; exact ⟨A, K, T, h.less hX, k⟩
/-- A row of X was written, or a new one was made. -/
theorem Ps.grown {w0 w w' : World} {X X' : Nat → Prop} {r p N c : Nat} {G : Lg} {H : Option Lg} {row : Option Nat} (h : Ps w0 w X r p N c G H) (hg : w.grownBy w' row) (hr : ∀ k, row = some k → X k ∧ w0.heap.size ≤ k) (hX : ∀ k, X' k → X k ∨ (w.heap.size ≤ k ∧ k < w'.heap.size)) :
    Ps w0 w' X' r p N c G H := by
  obtain ⟨A, K, T, ⟨h1, h2, P, Q, h3, h4, h5, h6⟩, k⟩ := h
  have hm : Moved (fun k => row = some k) w w' := ⟨hg.os, hg.tape, hg.output, hg.size, fun k hk hne => hg.block k hk (fun e => hne e.symm)⟩
  have hs := hg.size
  refine ⟨A, K, T, ⟨h1.trans (hm.below (fun k hk => (hr k hk).2) h1.size), fun k hk => ?_, P, Q, h3.moved hm (fun k hk e => (h5 k hk).2.2 (hr k e).1), h4.moved hm (fun k hk e => (h6 k hk).2.2.1 (hr k e).1), fun k hk => ?_, fun k hk => ?_⟩, k⟩
  · rcases hX k hk with e | e
    · exact Nat.lt_of_lt_of_le (h2 k e) hs
    · exact e.2
  · have := h5 k hk
    exact ⟨this.1, by omega, fun e => by rcases hX k e with e | e; exact this.2.2 e; omega⟩
  · have := h6 k hk
    exact ⟨this.1, by omega, fun e => by rcases hX k e with e | e; exact this.2.2.1 e; omega, this.2.2.2⟩

/-- A row of numbers of the call's own. -/
def OwnN (base : Nat) (w : World) (v : Value) (l : List Int) : Prop := w.ownsRow base 3 1 v l.length (ints l)
theorem OwnN.nil (base : Nat) (w : World) : OwnN base w (.slice none 0 0) [] := World.ownsRow_nil _ _ _ _
theorem OwnN.moved {P : Nat → Prop} {base : Nat} {w w' : World} {v : Value} {l : List Int} (h : OwnN base w v l) (hm : Moved P w w') (hP : ∀ g, v.ownBlock = some g → ¬ P g) : OwnN base w' v l := owns_moved h hm hP
theorem OwnN.below {base : Nat} {w w' : World} {v : Value} {l : List Int} (h : OwnN base w v l) (hb : Below w.heap.size w w') : OwnN base w' v l := h.moved (Moved.of_below hb (fun _ => False)) (fun _ _ h => h)
theorem OwnN.lt {base : Nat} {w : World} {v : Value} {l : List Int} (h : OwnN base w v l) : ∀ q, v.ownBlock = some q → base ≤ q ∧ q < w.heap.size := fun q hq => World.ownsRow.lt h q hq
theorem OwnN.form {base : Nat} {w : World} {v : Value} {l : List Int} (h : OwnN base w v l) : ∃ so cap, v = .slice so l.length cap ∧ l.length ≤ cap ∧ cap ≤ maxLen := owns_form h
theorem OwnN.cell {base : Nat} {w : World} {v : Value} {l : List Int} (h : OwnN base w v l) (h0 : 0 < l.length) : ∃ g cap, v = .slice (some ⟨g, 0, none⟩) l.length cap ∧ ∀ j (hj : j < l.length), w.cell? ⟨g, j, none⟩ = some (.int .i64 l[j]) := by
  rcases h.2 with ⟨rfl, hn⟩ | ⟨g, cap, cur, rfl, hb, hh, h1, h2, h3, h4⟩
  · omega
  · refine ⟨g, cap, rfl, fun j hj => ?_⟩
    have hr : IRow w g l := ⟨cur, hh, by simpa using h4⟩
    exact hr.cell j hj

/-- What the pages are while they are dropped: the ones that are gone, the last one first, and those behind m. -/
def turnFree (m : Nat) (gone : List Nat) : List Nat := gone.reverse ++ List.range' (m + 1) (18 - m)
def nats (l : List Nat) : List Int := l.map fun i : Nat => (i : Int)
theorem turn_used {m : Nat} {gone : List Nat} {H : Lg} (hm : m ≤ 8) (hf : H.free = turnFree m gone) (i : Nat) (h1 : 1 ≤ i) (h2 : i ≤ m) : lgUsed 19 H i ↔ i ∉ gone := by
  unfold lgUsed
  rw [hf]
  unfold turnFree
  simp only [Int.toNat_natCast, List.mem_append, List.mem_reverse, List.mem_range'_1]
  constructor
  · rintro ⟨-, -, h⟩ e; exact h (.inl e)
  · intro h
    refine ⟨by omega, by omega, fun e => ?_⟩
    rcases e with e | e
    · exact h e
    · omega

def G0 : Lg := Lg.new 19
theorem nats_length (l : List Nat) : (nats l).length = l.length := by simp [nats]
theorem nats_snoc (l : List Nat) (a : Nat) : nats (l ++ [a]) = nats l ++ [(a : Int)] := by simp [nats]
theorem nats_at (l : List Nat) (j : Nat) (hj : j < (nats l).length) : (nats l)[j] = ((l[j]'(by simpa [nats] using hj) : Nat) : Int) := by simp [nats]
def OwnB (v : Value) (k : Nat) : Prop := v.ownBlock = some k

set_option maxHeartbeats 4000000 in
theorem turns_walk (n : Int) (v : Value) (l : List Int) (w : World) (hv : Nl w v l) :
    Calls Try.prog 6 #[.int .i64 n, v] w fun e w' => e = .returned (.bool true) ∧ Below w.heap.size w w' := by
  have HV := Lib.hid hv
  obtain ⟨ao, cap, rfl, -⟩ := id hv
  have hr := within_range n 8 (by decide)
  obtain ⟨y, hy⟩ : ∃ y, y = withinOf n 8 := ⟨_, rfl⟩
  rw [← hy] at hr
  obtain ⟨m, hm⟩ : ∃ m : Nat, (m : Int) = 1 + y := ⟨(1 + y).toNat, by omega⟩
  have hm8 : 1 ≤ m ∧ m ≤ 8 := by omega
  have hwt := within4_any n 8 (by decide) (by decide)
  rw [← hy] at hwt
  have HW := Lib.hid hwt
  obtain ⟨q, hq⟩ : ∃ q, q = l.length := ⟨_, rfl⟩
  have HQ := Lib.hid hq
  rw [← hq] at HV ⊢
  have HM := Lib.hid hm
  clear hv hwt hy hq hm
  go_enter Try.func6, Try.ntmps6
  go_wp2_with fail
  refine (known4_any w).mono ?_
  rintro e w0 ⟨rfl, h0⟩
  have H0 := Lib.hid h0
  clear h0
  go_wp2_with fail
  refine (HW.out w0).mono ?_
  rintro e w0' ⟨rfl, he⟩
  replace he := he.symm
  subst he
  go_wp2_with fail
  refine (nd_new (w0 := w) (X := NoX) 420 420 rfl (by omega) (by omega) H0.out (nox_lt _)).mono ?_
  rintro e w1 ⟨r, rfl, h1, -⟩
  have H1 := Lib.hid h1
  clear h1
  go_wp2_with fail
  refine (nd_open (N := 19) H1.out (by omega) (by omega)).mono ?_
  rintro e w2 ⟨p, rfl, h2, -⟩
  have H2 := Lib.hid h2
  clear h2
  go_wp2_with fail
  refine (ps_begin H2.out).mono ?_
  rintro e w3 ⟨rfl, h3, -⟩
  have H3 := Lib.hid h3
  clear h3
  rw [← HM.out]
  go_wp2_with fail
  go_loopw [7, 8, 9] (fun i _ _ wr => ∃ k : Nat, k ≤ m ∧ i = .int .i64 ((k : Int) + 1) ∧ ∃ H : Lg, H.free = List.range' (k + 1) (18 - k) ∧ Ps w wr NoX r p 19 k G0 (some H)) (fun i _ _ _ => m + 1 - (intOf i).toNat)
  case atStart => exact ⟨0, Nat.zero_le _, rfl, _, rfl, H3.out⟩
  case round =>
    obtain ⟨k, hk, rfl, H, hf, hps⟩ := hrel
    have HF := Lib.hid hf
    have HP := Lib.hid hps
    clear hf hps
    by_cases hlt : k < m
    · have hlt' : (k : Int) + 1 ≤ m := by omega
      have hnew : lgNew (some H) = ((k : Int) + 1, 0, some { H with free := List.range' (k + 1 + 1) (18 - (k + 1)), page := upd H.page (k + 1) (zeros 504) }) := by
        have hh := HF.out
        rw [show 18 - k = (18 - (k + 1)) + 1 by omega, List.range'_succ] at hh
        unfold lgNew
        simp only [hh]
        rfl
      have hc := ps_new HP.out (by omega)
      rw [hnew] at hc
      have HC := Lib.hid hc
      clear hc hnew
      go_wp2_with fail
      refine HC.out.mono ?_
      rintro e w4 ⟨rfl, h4, -⟩
      have H4 := Lib.hid h4
      clear h4
      go_wp2_with fail
      go_roundw
      case rel => exact ⟨k + 1, by omega, by go_num, _, rfl, H4.out⟩
      case measure => simp [intOf]; omega
    · obtain rfl : k = m := by omega
      have hlt' : ¬ (k : Int) + 1 ≤ k := by omega
      have HP0 := Lib.hid (HP.out.less (X' := OwnB (.slice none 0 0)) (fun j hj => by cases hj))
      have HF0 := Lib.hid (show H.free = turnFree k [] from HF.out)
      clear HP HF
      go_wp2_with fail
      go_loopw [10, 11, 12, 13, 14, 15] (fun gv i _ _ _ _ wr => ∃ j : Nat, j ≤ 8 ∧ i = .int .i64 j ∧ ∃ gone : List Nat, (∀ a ∈ gone, 1 ≤ a ∧ a ≤ k) ∧ gone.length ≤ j ∧ OwnN w.heap.size wr gv (nats gone) ∧ ∃ H : Lg, H.free = turnFree k gone ∧ Ps w wr (OwnB gv) r p 19 (k + j) G0 (some H)) (fun _ i _ _ _ _ _ => 9 - (intOf i).toNat)
      case atStart => exact ⟨0, by omega, rfl, [], by simp, Nat.le_refl _, OwnN.nil _ _, H, HF0.out, HP0.out⟩
      clear HP0 HF0
      case round =>
        obtain ⟨j, hj8, rfl, gone, hga, hgl, hown, H1, hf1, hp1⟩ := hrel
        have HGA := Lib.hid hga
        have HOWN := Lib.hid hown
        have HF1 := Lib.hid hf1
        have HP1 := Lib.hid hp1
        obtain ⟨so, cg, hgv, hcg1, hcg2⟩ := hown.form
        rw [nats_length] at hgv hcg1
        obtain ⟨ng, hng⟩ : ∃ ng, ng = gone.length := ⟨_, rfl⟩
        rw [← hng] at hgv hcg1 hgl
        have HNG := Lib.hid hng
        have hcg2' : cg ≤ 9223372036854775807 := hcg2
        subst hgv
        clear hga hown hf1 hp1 hng hcg2
        by_cases hq : j < q
        · by_cases h8 : j < 8
          · obtain ⟨b, off, cd, hsl, -, hcd, hcell⟩ := (HV.out.below HP1.out.below).at (by rw [← HQ.out]; omega)
            rw [← HQ.out] at hsl
            simp only [Value.slice.injEq, true_and] at hsl
            obtain ⟨rfl, rfl⟩ := hsl
            have cx := hcell j (by rw [← HQ.out]; exact hq)
            obtain ⟨x, hx⟩ : ∃ x, x = l[j]'(by rw [← HQ.out]; exact hq) := ⟨_, rfl⟩
            rw [← hx] at cx
            have hcd' : cap ≤ 9223372036854775807 := hcd
            have hz := within_range x k (by omega)
            have hwt := within4_any x k (by omega) (by omega) wr
            obtain ⟨z, hz0⟩ : ∃ z, z = withinOf x k := ⟨_, rfl⟩
            rw [← hz0] at hwt hz
            have HWT := Lib.hid hwt
            obtain ⟨a, ha⟩ : ∃ a : Nat, (a : Int) = 1 + z := ⟨(1 + z).toNat, by omega⟩
            have ha1 : 1 ≤ a ∧ a ≤ k := by omega
            have HA := Lib.hid ha
            clear hcell hx hwt hz0 ha hcd
            go_wp2_with fail
            refine HWT.out.mono ?_
            rintro e w5 ⟨rfl, he⟩
            replace he := he.symm
            subst he
            clear HWT
            go_wp2_with fail
            rw [← HA.out]
            go_loop [13, 14] (fun c i => ∃ s : Nat, s ≤ ng ∧ i = .int .i64 s ∧ c = .bool (decide (a ∈ gone.take s))) (fun _ i => ng - (intOf i).toNat)
            case atStart => exact ⟨0, Nat.zero_le _, rfl, by simp⟩
            case round =>
              obtain ⟨s, hs, rfl, rfl⟩ := hrel
              by_cases hsl : s < ng
              · have hsg : s < gone.length := by rw [← HNG.out]; exact hsl
                obtain ⟨g, cg', hgv, hcell⟩ := HOWN.out.cell (by rw [nats_length]; omega)
                rw [nats_length, ← HNG.out] at hgv
                simp only [Value.slice.injEq, true_and] at hgv
                obtain ⟨rfl, rfl⟩ := hgv
                have cs := hcell s (by rw [nats_length]; exact hsg)
                rw [nats_at] at cs
                obtain ⟨y1, hy1⟩ : ∃ y1 : Nat, y1 = gone[s] := ⟨_, rfl⟩
                rw [← hy1] at cs
                have htk : decide (a ∈ gone.take (s + 1)) = (decide (a ∈ gone.take s) || decide (y1 = a)) := by
                  rw [List.take_succ_eq_append_getElem hsg, ← hy1]
                  by_cases h1 : a ∈ gone.take s
                  · simp [h1]
                  · by_cases h2 : y1 = a
                    · simp [h2]
                    · have : ¬ a = y1 := fun e => h2 e.symm
                      simp [h1, h2, this]
                obtain ⟨d, hd⟩ : ∃ d, d = decide (a ∈ gone.take s) := ⟨_, rfl⟩
                rw [← hd] at htk ⊢
                have HTK := Lib.hid htk
                clear hcell htk hd hy1
                cases d
                · by_cases hya : y1 = a
                  · have e1 : ((y1 : Int) == (a : Int)) = true := by simp [hya]
                    have HYA := Lib.hid hya
                    clear hya
                    go_wp2_with fail
                    go_round
                    case rel => exact ⟨s + 1, by omega, by go_num, by rw [HTK.out]; simp [HYA.out]⟩
                    case measure => simp [intOf]; omega
                  · have e1 : ((y1 : Int) == (a : Int)) = false := by simp; omega
                    have HYA := Lib.hid hya
                    clear hya
                    go_wp2_with fail
                    go_round
                    case rel => exact ⟨s + 1, by omega, by go_num, by rw [HTK.out]; simp [HYA.out]⟩
                    case measure => simp [intOf]; omega
                · go_wp2_with fail
                  go_round
                  case rel => exact ⟨s + 1, by omega, by go_num, by rw [HTK.out]; simp⟩
                  case measure => simp [intOf]; omega
              · obtain rfl : s = ng := by omega
                have hall : gone.take s = gone := List.take_of_length_le (by rw [← HNG.out]; exact Nat.le_refl _)
                rw [hall]
                have hdr := ps_drop a HP1.out
                rw [lgDrop_some] at hdr
                have hus := turn_used (m := k) (H := H1) hm8.2 HF1.out a ha1.1 ha1.2
                clear hall
                by_cases hin : a ∈ gone
                · rw [if_neg (fun h => (hus.1 h) hin)] at hdr
                  have HDR := Lib.hid hdr
                  have hdt : decide (a ∈ gone) = true := by simp [hin]
                  rw [hdt]
                  have HIN := Lib.hid hin
                  clear hdr hus hin hdt
                  go_wp2_with fail
                  refine HDR.out.mono ?_
                  rintro e w6 ⟨rfl, h6, hm6⟩
                  have HP6 := Lib.hid h6
                  have HO6 := Lib.hid (HOWN.out.moved hm6 (fun g hg h => h.2 hg))
                  clear h6 hm6 HDR
                  go_wp2_with fail
                  go_roundw
                  case rel => exact ⟨j + 1, by omega, by go_num, gone, HGA.out, by rw [← HNG.out]; omega, HO6.out, H1, HF1.out, HP6.out⟩
                  case measure => simp [intOf]; omega
                · rw [if_pos (hus.2 hin)] at hdr
                  have HDR := Lib.hid hdr
                  have hdt : decide (a ∈ gone) = false := by simp [hin]
                  rw [hdt]
                  have HIN := Lib.hid hin
                  clear hdr hus hin hdt
                  go_wp2_with fail
                  refine HDR.out.mono ?_
                  rintro e w6 ⟨rfl, h6, hm6⟩
                  have HP6 := Lib.hid h6
                  have HO6 := Lib.hid (HOWN.out.moved hm6 (fun g hg h => h.2 hg))
                  have hal : Below w6.heap.size w6 (w6.alloc (.cells #[.int .i64 (a : Int)] 3)) := (Below.refl _ w6).alloc (Nat.le_refl _) _
                  have hnb := Blk.new w6 #[.int .i64 (a : Int)] 3
                  have HP7 := Lib.hid (HP6.out.grow hal)
                  have HO7 := Lib.hid (HO6.out.below hal)
                  have HNB := Lib.hid hnb
                  have hcl : ∀ (j : Nat) u, (ints [(a : Int)])[j]? = some u → (w6.alloc (.cells #[.int .i64 (a : Int)] 3)).cell? ((⟨w6.heap.size, 0, none⟩ : Addr).add j) = some u := by
                    intro j u hu
                    rw [Addr.add_lit, Nat.zero_add, hnb.cell]
                    simpa [ints] using hu
                  have HCL := Lib.hid hcl
                  have hown7 : (w6.alloc (.cells #[.int .i64 (a : Int)] 3)).ownsRow w.heap.size 3 1 (.slice so s cg) s (ints (nats gone)) := by
                    have := HO7.out
                    unfold OwnN at this
                    rw [nats_length, ← HNG.out] at this
                    exact this
                  have HOW := Lib.hid hown7
                  have hss : s + 1 ≤ 1000000000 := by omega
                  have hb7 := HP7.out.below.size
                  clear h6 hm6 HDR hal hnb hcl hown7
                  go_wp2_with (first | (with_reducible refine wpList_append_ints rfl _ _ rfl w.heap.size (.slice so s cg) s (ints (nats gone)) rfl HOW.out ⟨w6.heap.size, 0, none⟩ 1 1 [(a : Int)] rfl rfl HCL.out (by decide) hss hb7 ?_; intro g cap8 w8 hr8 hg8 hq8) | fail)
                  have hown8 : OwnN w.heap.size w8 (.slice (some ⟨g, 0, none⟩) (s + 1) cap8) (nats (gone ++ [a])) := by
                    unfold OwnN
                    rw [nats_snoc, List.length_append, nats_length, ← HNG.out]
                    have : ints (nats gone ++ [(a : Int)]) = ints (nats gone) ++ ints [(a : Int)] := by simp [ints]
                    rw [this]
                    exact hr8
                  have hps8 : Ps w w8 (OwnB (.slice (some ⟨g, 0, none⟩) (s + 1) cap8)) r p 19 (k + j + 1) G0 (some { H1 with free := (a : Int).toNat :: H1.free }) := HP7.out.grown hg8 (fun q hq => ⟨hq, (HO7.out.lt q hq).1⟩) (fun q hq => by
                    have hgq : g = q := Option.some.inj hq
                    subst hgq
                    rcases hq8 with e | e
                    · exact .inl e
                    · exact .inr ⟨by omega, (hown8.lt g rfl).2⟩)
                  have HO8 := Lib.hid hown8
                  have HP8 := Lib.hid hps8
                  clear hr8 hg8 hq8 hown8 hps8
                  go_roundw
                  case rel =>
                    refine ⟨j + 1, by omega, by go_num, gone ++ [a], fun b hb => ?_, ?_, HO8.out, _, ?_, HP8.out⟩
                    · rcases List.mem_append.1 hb with e | e
                      · exact HGA.out b e
                      · rw [List.mem_singleton.1 e]; exact ha1
                    · rw [List.length_append, ← HNG.out]; simp; omega
                    · show (a : Int).toNat :: H1.free = _
                      rw [HF1.out]
                      simp [turnFree]
                  case measure => simp [intOf]; omega
          · have h8' : ¬ (j : Int) < 8 := by omega
            have HP9 := Lib.hid (HP1.out.more (30 - ng) (by omega))
            clear HP1
            go_wp2_with fail
            go_loopw [16, 17, 18] (fun i _ _ wr => ∃ s : Nat, s ≤ ng ∧ i = .int .i64 ((s : Int) - 1) ∧ OwnN w.heap.size wr (.slice so ng cg) (nats gone) ∧ ∃ H : Lg, H.free = turnFree k (gone.take s) ∧ Ps w wr (OwnB (.slice so ng cg)) r p 19 (30 - s) G0 (some H)) (fun i _ _ _ => ((intOf i) + 1).toNat)
            case atStart => exact ⟨ng, Nat.le_refl _, rfl, HOWN.out, H1, by rw [List.take_of_length_le (by rw [← HNG.out]; exact Nat.le_refl _)]; exact HF1.out, HP9.out⟩
            clear HOWN HF1 HP9
            case round =>
              obtain ⟨s, hs, rfl, hown, H2, hf2, hp2⟩ := hrel
              have HO2 := Lib.hid hown
              have HF2 := Lib.hid hf2
              have HP2 := Lib.hid hp2
              clear hown hf2 hp2
              by_cases hs0 : s = 0
              · subst hs0
                have hnew : lgNew (some H2) = ((k : Int) + 1, 0, some { H2 with free := List.range' (k + 2) (17 - k), page := upd H2.page (k + 1) (zeros 504) }) := by
                  have hh := HF2.out
                  unfold turnFree at hh
                  rw [show 18 - k = (17 - k) + 1 by omega, List.range'_succ] at hh
                  simp at hh
                  unfold lgNew
                  simp only [hh]
                  rfl
                have hc := ps_new HP2.out (by omega)
                rw [hnew] at hc
                have HC := Lib.hid hc
                clear hc hnew
                go_wp2_with fail
                refine HC.out.mono ?_
                rintro e w9 ⟨rfl, h9, -⟩
                have H9 := Lib.hid h9.below
                clear h9
                go_wp2_with fail
                go_ret
                exact ⟨rfl, H9.out⟩
              · obtain ⟨s1, rfl⟩ : ∃ s1, s = s1 + 1 := ⟨s - 1, by omega⟩
                have hsg : s1 < gone.length := by rw [← HNG.out]; omega
                obtain ⟨g, cg', hgv, hcell⟩ := HO2.out.cell (by rw [nats_length]; omega)
                rw [nats_length, ← HNG.out] at hgv
                simp only [Value.slice.injEq, true_and] at hgv
                obtain ⟨rfl, rfl⟩ := hgv
                obtain ⟨y1, hy1⟩ : ∃ y1 : Nat, y1 = gone[s1] := ⟨_, rfl⟩
                have hfree : H2.free = y1 :: turnFree k (gone.take s1) := by
                  rw [HF2.out, List.take_succ_eq_append_getElem hsg, ← hy1]
                  simp [turnFree]
                have hnew : lgNew (some H2) = ((y1 : Int), 0, some { H2 with free := turnFree k (gone.take s1), page := upd H2.page y1 (zeros 504) }) := by
                  unfold lgNew
                  simp only [hfree]
                have hc := ps_new HP2.out (by omega)
                rw [hnew] at hc
                have HC := Lib.hid hc
                have HY := Lib.hid hy1
                have e1 : (((s1 + 1 : Nat) : Int) - 1) = (s1 : Int) := by omega
                rw [e1]
                clear hc hnew hfree hcell hy1 e1
                go_wp2_with fail
                refine HC.out.mono ?_
                rintro e w9 ⟨rfl, h9, hm9⟩
                have HO9 := Lib.hid (HO2.out.moved hm9 (fun q hq h => h.2 hq))
                have HP9 := Lib.hid (h9.more (30 - s1) (by omega))
                obtain ⟨g', cg'', hgv, hcell⟩ := HO9.out.cell (by rw [nats_length]; omega)
                rw [nats_length, ← HNG.out] at hgv
                simp only [Value.slice.injEq, Option.some.injEq, Addr.mk.injEq, true_and, and_true] at hgv
                obtain ⟨rfl, rfl⟩ := hgv
                have cs := hcell s1 (by rw [nats_length]; exact hsg)
                rw [nats_at, ← HY.out] at cs
                have hs1 : s1 < ng := by omega
                clear h9 hm9 hcell HC
                go_wp2_with fail
                go_roundw
                case rel => exact ⟨s1, by omega, by go_num, HO9.out, _, rfl, HP9.out⟩
                case measure => simp [intOf]
        · have hq' : ¬ (j : Int) < q := by omega
          have HP9 := Lib.hid (HP1.out.more (30 - ng) (by omega))
          clear HP1
          go_wp2_with fail
          go_loopw [16, 17, 18] (fun i _ _ wr => ∃ s : Nat, s ≤ ng ∧ i = .int .i64 ((s : Int) - 1) ∧ OwnN w.heap.size wr (.slice so ng cg) (nats gone) ∧ ∃ H : Lg, H.free = turnFree k (gone.take s) ∧ Ps w wr (OwnB (.slice so ng cg)) r p 19 (30 - s) G0 (some H)) (fun i _ _ _ => ((intOf i) + 1).toNat)
          case atStart => exact ⟨ng, Nat.le_refl _, rfl, HOWN.out, H1, by rw [List.take_of_length_le (by rw [← HNG.out]; exact Nat.le_refl _)]; exact HF1.out, HP9.out⟩
          clear HOWN HF1 HP9
          case round =>
            obtain ⟨s, hs, rfl, hown, H2, hf2, hp2⟩ := hrel
            have HO2 := Lib.hid hown
            have HF2 := Lib.hid hf2
            have HP2 := Lib.hid hp2
            clear hown hf2 hp2
            by_cases hs0 : s = 0
            · subst hs0
              have hnew : lgNew (some H2) = ((k : Int) + 1, 0, some { H2 with free := List.range' (k + 2) (17 - k), page := upd H2.page (k + 1) (zeros 504) }) := by
                have hh := HF2.out
                unfold turnFree at hh
                rw [show 18 - k = (17 - k) + 1 by omega, List.range'_succ] at hh
                simp at hh
                unfold lgNew
                simp only [hh]
                rfl
              have hc := ps_new HP2.out (by omega)
              rw [hnew] at hc
              have HC := Lib.hid hc
              clear hc hnew
              go_wp2_with fail
              refine HC.out.mono ?_
              rintro e w9 ⟨rfl, h9, -⟩
              have H9 := Lib.hid h9.below
              clear h9
              go_wp2_with fail
              go_ret
              exact ⟨rfl, H9.out⟩
            · obtain ⟨s1, rfl⟩ : ∃ s1, s = s1 + 1 := ⟨s - 1, by omega⟩
              have hsg : s1 < gone.length := by rw [← HNG.out]; omega
              obtain ⟨g, cg', hgv, hcell⟩ := HO2.out.cell (by rw [nats_length]; omega)
              rw [nats_length, ← HNG.out] at hgv
              simp only [Value.slice.injEq, true_and] at hgv
              obtain ⟨rfl, rfl⟩ := hgv
              obtain ⟨y1, hy1⟩ : ∃ y1 : Nat, y1 = gone[s1] := ⟨_, rfl⟩
              have hfree : H2.free = y1 :: turnFree k (gone.take s1) := by
                rw [HF2.out, List.take_succ_eq_append_getElem hsg, ← hy1]
                simp [turnFree]
              have hnew : lgNew (some H2) = ((y1 : Int), 0, some { H2 with free := turnFree k (gone.take s1), page := upd H2.page y1 (zeros 504) }) := by
                unfold lgNew
                simp only [hfree]
              have hc := ps_new HP2.out (by omega)
              rw [hnew] at hc
              have HC := Lib.hid hc
              have HY := Lib.hid hy1
              have e1 : (((s1 + 1 : Nat) : Int) - 1) = (s1 : Int) := by omega
              rw [e1]
              clear hc hnew hfree hcell hy1 e1
              go_wp2_with fail
              refine HC.out.mono ?_
              rintro e w9 ⟨rfl, h9, hm9⟩
              have HO9 := Lib.hid (HO2.out.moved hm9 (fun q hq h => h.2 hq))
              have HP9 := Lib.hid (h9.more (30 - s1) (by omega))
              obtain ⟨g', cg'', hgv, hcell⟩ := HO9.out.cell (by rw [nats_length]; omega)
              rw [nats_length, ← HNG.out] at hgv
              simp only [Value.slice.injEq, Option.some.injEq, Addr.mk.injEq, true_and, and_true] at hgv
              obtain ⟨rfl, rfl⟩ := hgv
              have cs := hcell s1 (by rw [nats_length]; exact hsg)
              rw [nats_at, ← HY.out] at cs
              have hs1 : s1 < ng := by omega
              clear h9 hm9 hcell HC
              go_wp2_with fail
              go_roundw
              case rel => exact ⟨s1, by omega, by go_num, HO9.out, _, rfl, HP9.out⟩
              case measure => simp [intOf]
end Go.Proofs.Ytbdmlhmmdcdppaa
