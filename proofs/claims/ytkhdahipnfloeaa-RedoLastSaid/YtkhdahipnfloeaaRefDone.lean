/- triadref2's disk: done, Sync, Crash. -/
import Derived.Test.YtkhdahipnfloeaaRef
import Derived.RegionTactic
import Derived.BigRegion
import Derived.ChangeAlike
namespace Go.Proofs.Ytkhdahipnfloeaa
open Go.RowKit
set_option maxRecDepth 100000

/-- What the kept sectors are, behind the first i Writes, those of F done. -/
def laidF (kept : List ByteArray) (l : List (Nat × ByteArray)) (F : Nat → Bool) : Nat → List ByteArray
  | 0 => kept
  | i + 1 => if F i then (laidF kept l F i).set (l.getD i (0, ByteArray.empty)).1 (l.getD i (0, ByteArray.empty)).2 else laidF kept l F i
theorem laid_eq (kept : List ByteArray) (l : List (Nat × ByteArray)) (keep : List Bool) (i : Nat) : laid kept l keep i = laidF kept l (fun j => keep.getD j false) i := by
  induction i with
  | zero => rfl
  | succ i ih => unfold laid laidF; rw [ih]
theorem laidF_length (kept : List ByteArray) (l : List (Nat × ByteArray)) (F : Nat → Bool) (i : Nat) : (laidF kept l F i).length = kept.length := by
  induction i with
  | zero => rfl
  | succ i ih => unfold laidF; split <;> simp [ih]
theorem laidF_snoc (kept : List ByteArray) (l : List (Nat × ByteArray)) (F : Nat → Bool) (q : Nat × ByteArray) (i : Nat) (hi : i ≤ l.length) : laidF kept (l ++ [q]) F i = laidF kept l F i := by
  induction i with
  | zero => rfl
  | succ i ih =>
    have hil : i < l.length := by omega
    unfold laidF
    rw [ih (by omega)]
    simp only [List.getD_eq_getElem?_getD, List.getElem?_append_left hil]
theorem laidF_step (kept : List ByteArray) (l : List (Nat × ByteArray)) (F : Nat → Bool) (i : Nat) (hi : i < l.length) : laidF kept l F (i + 1) = if F i then (laidF kept l F i).set l[i].1 l[i].2 else laidF kept l F i := by
  rw [laidF, List.getD_eq_getElem?_getD, List.getElem?_eq_getElem hi]
  rfl

theorem rcells_at : ∀ (l : List (Nat × ByteArray)) (vs : List Value) (_ : vs.length = l.length) (i : Nat) (hi : i < l.length) (hj : i < vs.length), (rcells l vs)[i * 2]? = some (.int .i64 (l[i].1 : Int)) ∧ (rcells l vs)[i * 2 + 1]? = some vs[i]
  | [], _, _, i, hi, _ => by simp at hi
  | p :: t, [], h, _, _, _ => by simp at h
  | p :: t, v :: vt, h, 0, _, _ => by simp [rcells]
  | p :: t, v :: vt, h, i + 1, hi, hj => by
    have e : rcells (p :: t) (v :: vt) = .int .i64 (p.1 : Int) :: v :: rcells t vt := rfl
    have := rcells_at t vt (by simpa using h) i (by simpa using hi) (by simpa using hj)
    rw [e, show (i + 1) * 2 = i * 2 + 1 + 1 from by omega]
    simpa using this

theorem RkAt.drew {w : World} {Q : Nat → Prop} {x : Nat} {sS sL : Value} {vS vL : List Value} {s : Dsk} (h : RkAt w Q x sS sL vS vL s) : RkAt w.drew Q x sS sL vS vL s :=
  ⟨h.q, h.n1, h.n2, h.n3, h.top, h.lenS, h.lenL, h.rowS, h.rowL, h.conS, h.conL, h.most, h.ats, h.short⟩

/-- S[at] = v, v one of the sectors of L. -/
theorem RkAt.setS {w : World} {Q : Nat → Prop} {x : Nat} {gS n cap : Nat} {sL : Value} {vS vL : List Value} {s : Dsk} (h : RkAt w Q x (.slice (some ⟨gS, 0, none⟩) n cap) sL vS vL s) (i : Nat) (hi : i < s.since.length) (hj : i < vL.length) :
    RkAt (w.setCell ⟨gS, s.since[i].1, none⟩ vL[i]) Q x (.slice (some ⟨gS, 0, none⟩) n cap) sL (vS.set s.since[i].1 vL[i]) vL { s with kept := s.kept.set s.since[i].1 s.since[i].2 } ∧ Moved Q w (w.setCell ⟨gS, s.since[i].1, none⟩ vL[i]) := by
  obtain ⟨k, hk⟩ : ∃ k, k = s.since[i].1 := ⟨_, rfl⟩
  obtain ⟨b, hb⟩ : ∃ b, b = s.since[i].2 := ⟨_, rfl⟩
  obtain ⟨v, hv⟩ : ∃ v, v = vL[i] := ⟨_, rfl⟩
  have hkl : k < s.kept.length := by rw [hk]; exact h.ats _ (List.getElem_mem _)
  have hcon := h.conL i hi
  rw [← hk, ← hb, ← hv]
  rw [← hb, ← hv] at hcon
  have hnl := h.rowS
  have hn : n = s.kept.length := by
    obtain ⟨so, c, e, -⟩ := owns_form hnl
    simp only [Value.slice.injEq] at e
    exact e.2.1
  subst hn
  have hm : Moved (· = gS) w (w.setCell ⟨gS, k, none⟩ v) := (Moved.refl (· = gS) w).setCell ⟨gS, k, none⟩ _ (.inl rfl)
  have hx : x ≠ gS := fun e => h.n1 (by rw [e]; rfl)
  have hctl : Ctl x (.slice (some ⟨gS, 0, none⟩) s.kept.length cap) sL gS := .inr (.inl rfl)
  refine ⟨⟨h.q, h.n1, h.n2, h.n3, h.top.moved hm hx, ?_, h.lenL, ?_, owns_moved h.rowL hm (fun j hj e => h.n3 gS rfl (by rw [hj, e])), ?_, fun j hj => (h.conL j hj).moved hm (fun g hg e => hg.2 (by rw [e]; exact hctl)), ?_, ?_, ?_⟩, hm.mono (by rintro j rfl; exact h.q _ hctl)⟩
  · show (vS.set k v).length = (s.kept.set k b).length
    rw [List.length_set, List.length_set, h.lenS]
  · have := (h.rowS.stored k v).1
    show World.ownsRow _ 0 _ 1 _ (s.kept.set k b).length _
    rw [List.length_set]
    exact this
  · intro j hj
    have hj' : j < s.kept.length := by simpa using hj
    have hjv : j < vS.length := by rw [h.lenS]; exact hj'
    show Con _ _ ((vS.set k v)[j]'_) (pad ((s.kept.set k b)[j]'_))
    rw [List.getElem_set, List.getElem_set]
    by_cases e : k = j
    · rw [if_pos e, if_pos e]
      exact hcon.moved hm (fun g hg e' => hg.2 (by rw [e']; exact hctl))
    · rw [if_neg e, if_neg e]
      exact (h.conS j hj').moved hm (fun g hg e' => hg.2 (by rw [e']; exact hctl))
  · show (s.kept.set k b).length ≤ 3000
    rw [List.length_set]; exact h.most
  · intro p hp
    show p.1 < (s.kept.set k b).length
    rw [List.length_set]; exact h.ats p hp
  · refine ⟨fun y hy => ?_, h.short.2⟩
    rcases List.mem_or_eq_of_mem_set hy with hy | rfl
    · exact h.short.1 y hy
    · rw [hb]; exact h.short.2 _ (List.getElem_mem _)

theorem RkAt.emptied {w : World} {Q : Nat → Prop} {x : Nat} {sS sL : Value} {vS vL : List Value} {s : Dsk} (h : RkAt w Q x sS sL vS vL s) :
    RkAt (w.setCell ⟨x, 1, none⟩ (.slice none 0 0)) Q x sS (.slice none 0 0) vS [] { s with now := s.kept, since := [] } ∧ Moved Q w (w.setCell ⟨x, 1, none⟩ (.slice none 0 0)) := by
  have hm : Moved (· = x) w (w.setCell ⟨x, 1, none⟩ (.slice none 0 0)) := (Moved.refl (· = x) w).setCell ⟨x, 1, none⟩ _ (.inl rfl)
  have hc : ∀ k, Ctl x sS (.slice none 0 0) k → Ctl x sS sL k := by
    rintro k (e | e | e)
    · exact .inl e
    · exact .inr (.inl e)
    · simp [Value.ownBlock] at e
  refine ⟨⟨fun k hk => h.q k (hc k hk), h.n1, by simp [Value.ownBlock], fun k _ => by simp [Value.ownBlock], h.top.set 1 (.slice none 0 0), h.lenS, rfl, owns_moved h.rowS hm (fun k hk e => h.n1 (by rw [hk, e])), World.ownsRow_nil _ _ _ _,
    fun i hi => ((h.conS i hi).moved hm (fun g hg e => hg.2 (.inl e))).mono (fun g _ hg => ⟨hg.1, fun hk => hg.2 (hc g hk)⟩), fun i hi => by simp at hi, h.most, by simp, h.short.1, by simp⟩, hm.mono (by rintro j rfl; exact h.q _ (.inl rfl))⟩

def Dsk.did (s : Dsk) (F : Nat → Bool) : Dsk := { s with now := laidF s.kept s.since F s.since.length, kept := laidF s.kept s.since F s.since.length, since := [] }

set_option maxHeartbeats 2000000 in
theorem done_any (Q : Nat → Prop) (x : Nat) (s : Dsk) (kv : Value) (keep : List Bool) (all : Bool) (w : World) (h : Rk w Q x s) (hv : Bl w kv keep) (hP : 0 < keep.length → ∀ k, kv.ownBlock = some k → ¬ Q k) (hsl : s.since.length ≤ 1073741824) :
    Calls Try.prog 48 #[.pointer (some ⟨x, 0, none⟩), kv, .bool all] w fun e w' => e = .returned (.tuple #[]) ∧ Rk w' Q x (s.did fun i => all || keep.getD i false) ∧ Moved Q w w' := by
  obtain ⟨sS, sL, vS, vL, h⟩ := h
  obtain ⟨n, hn⟩ : ∃ n, n = s.since.length := ⟨_, rfl⟩
  obtain ⟨so, cap, hsv, hc1, hc2⟩ := owns_form h.rowL
  obtain ⟨F, hF⟩ : ∃ F : Nat → Bool, F = fun i => all || keep.getD i false := ⟨_, rfl⟩
  rw [← hF]
  rw [← hn] at hsl hsv hc1
  have hc2' : cap ≤ 9223372036854775807 := hc2
  have HN := Lib.hid hn
  have HF := Lib.hid hF
  have hbv := hv
  obtain ⟨ao, kc, rfl, hk1, hk2, -⟩ := hv
  have hk2' : kc ≤ 9223372036854775807 := hk2
  clear hn hc2 hF
  go_enter Try.func48, Try.ntmps48
  go_wp2_with fail
  go_loopw [6] (fun i wr => ∃ (k : Nat) (vS' : List Value), k ≤ n ∧ i = .int .i64 k ∧ RkAt wr Q x sS sL vS' vL { s with kept := laidF s.kept s.since F k } ∧ Moved Q w wr) (fun i _ => n - (intOf i).toNat)
  case atStart => exact ⟨0, vS, Nat.zero_le _, rfl, h, Moved.refl _ _⟩
  case round =>
    obtain ⟨k, vS', hk, rfl, hA, hM⟩ := hrel
    obtain ⟨c0, c1, -, -, -, cf⟩ := hA.cells
    have f1 := cf 1
    rw [hsv] at c1
    clear cf
    by_cases hlt : k < n
    · have hks : k < s.since.length := by rw [← HN.out]; exact hlt
      have hkv : k < vL.length := by rw [hA.lenL]; exact hks
      obtain ⟨g, cap', hsv', -, hgl⟩ := hA.rowL.form (by show 0 < s.since.length; omega)
      obtain ⟨rfl, rfl⟩ : so = some ⟨g, 0, none⟩ ∧ cap = cap' := by
        rw [hsv'] at hsv
        simp only [Value.slice.injEq] at hsv
        exact ⟨hsv.1.symm, hsv.2.2.symm⟩
      have hw1 := hA.rowL.cells (g := g) (by rw [hsv]; rfl) (k * 2) _ (rcells_at s.since vL hA.lenL k hks hkv).1
      have hw2 := hA.rowL.cells (g := g) (by rw [hsv]; rfl) (k * 2 + 1) _ (rcells_at s.since vL hA.lenL k hks hkv).2
      simp only [Addr.add_lit, Nat.zero_add] at hw1 hw2
      have hlaid := laidF_step s.kept s.since F k hks
      have hbr := hbv.moved hM hP
      by_cases hFk : F k = true
      · rw [if_pos hFk] at hlaid
        have hkp : 0 < (laidF s.kept s.since F k).length := by
          have := hA.ats _ (List.getElem_mem hks)
          exact Nat.lt_of_le_of_lt (Nat.zero_le _) this
        obtain ⟨gS, capS, hsS, -, hgS⟩ := hA.rowS.form hkp
        have hmost : (laidF s.kept s.since F k).length ≤ 3000 := hA.most
        have hat : s.since[k].1 < (laidF s.kept s.since F k).length := hA.ats _ (List.getElem_mem hks)
        have hcapS : (laidF s.kept s.since F k).length ≤ capS ∧ capS ≤ 9223372036854775807 := by
          obtain ⟨a', c', e, g1, g2⟩ := owns_form hA.rowS
          rw [hsS] at e
          simp only [Value.slice.injEq] at e
          obtain ⟨-, -, rfl⟩ := e
          exact ⟨g1, g2⟩
        subst hsS
        have hset := hA.setS k hks hkv
        have hold := hA.rowS.cellAt s.since[k].1 (by rw [Nat.mul_one]; exact hat)
        have hfz := hA.rowS.frozenAt s.since[k].1
        obtain ⟨old, hold'⟩ : ∃ old, wr.cell? ⟨gS, s.since[k].1, none⟩ = some old := ⟨vS'[s.since[k].1]'(by rw [hA.lenS]; exact hat), by rw [hold]; exact List.getElem?_eq_getElem _⟩
        have HR1 : Hid (RkAt (wr.setCell ⟨gS, s.since[k].1, none⟩ vL[k]) Q x (.slice (some ⟨gS, 0, none⟩) (laidF s.kept s.since F k).length capS) sL (vS'.set s.since[k].1 vL[k]) vL { s with kept := laidF s.kept s.since F (k + 1) }) := by rw [hlaid]; exact hset.1
        have HR2 := Lib.hid (hM.trans hset.2 (fun j hj => .inl hj))
        obtain ⟨a, ha⟩ : ∃ a, a = s.since[k].1 := ⟨_, rfl⟩
        obtain ⟨vo, vl, vc, hv⟩ : ∃ vo vl vc, vL[k] = .slice vo vl vc := by
          obtain ⟨⟨vo, vc, e, -⟩, -⟩ := hA.conL k hks
          exact ⟨vo, _, vc, e⟩
        obtain ⟨vS2, hvS2⟩ : ∃ l, l = vS'.set s.since[k].1 vL[k] := ⟨_, rfl⟩
        rw [← hvS2] at HR1
        rw [← ha, hv] at HR1 HR2
        rw [← ha] at hw1 hold' hfz hat
        rw [hv] at hw2
        obtain ⟨m, hm⟩ : ∃ m, m = (laidF s.kept s.since F k).length := ⟨_, rfl⟩
        replace c0 : wr.cell? ⟨x, 0, none⟩ = some (.slice (some ⟨gS, 0, none⟩) m capS) := by rw [c0, hm]
        rw [← hm] at hat hcapS
        have hat' : (a : Int) < m := by omega
        have HFk := Lib.hid hFk
        have hbr := Lib.hid hbr
        clear hset hold hlaid hv hvS2 ha hA hM hm hmost hkp hsv hsv' hFk h
        cases hall : all with
        | true =>
          clear HF HFk
          go_wp2
          go_region
          go_wp2
          go_roundw
          case rel => exact ⟨k + 1, vS2, by omega, by go_num, HR1.out.drew, HR2.out.drew⟩
          case measure => simp [intOf]; omega
        | false =>
          have hke : keep.getD k false = true := by have := HFk.out; rw [HF.out, hall] at this; simpa using this
          have hkl : k < keep.length := by
            apply Nat.lt_of_not_le
            intro hle
            rw [List.getD_eq_getElem?_getD, List.getElem?_eq_none hle] at hke
            cases hke
          obtain ⟨kb, ko, kc', e, -, -, hkc⟩ := hbr.out.at (by omega)
          simp only [Value.slice.injEq, true_and] at e
          obtain ⟨rfl, rfl⟩ := e
          have hck := hkc k hkl
          have hkb := World.block_lt_of_cell? _ _ hck
          clear hkc
          have hkt : keep[k] = true := by rw [List.getD_eq_getElem?_getD, List.getElem?_eq_getElem hkl] at hke; exact hke
          rw [hkt] at hck
          clear hke hkt HF HFk
          go_wp2
          go_region
          go_wp2
          go_roundw
          case rel => exact ⟨k + 1, vS2, by omega, by go_num, HR1.out.drew, HR2.out.drew⟩
          case measure => simp [intOf]; omega
      · have hFk' : F k = false := by simpa using hFk
        rw [hFk'] at hlaid
        have hlaid : laidF s.kept s.since F (k + 1) = laidF s.kept s.since F k := hlaid
        have HR1 : Hid (RkAt wr Q x sS sL vS' vL { s with kept := laidF s.kept s.since F (k + 1) }) := by rw [hlaid]; exact hA
        have HR2 := Lib.hid hM
        have hor : (all || keep.getD k false) = false := by have := hFk'; rw [HF.out] at this; exact this
        simp only [Bool.or_eq_false_iff] at hor
        obtain ⟨rfl, hke⟩ := hor
        have hbr := Lib.hid hbr
        clear hlaid hFk' hA hM hsv hsv' hFk h HF c0
        by_cases hkl : k < keep.length
        · obtain ⟨kb, ko, kc', e, -, -, hkc⟩ := hbr.out.at (by omega)
          simp only [Value.slice.injEq, true_and] at e
          obtain ⟨rfl, rfl⟩ := e
          have hck := hkc k hkl
          have hkb := World.block_lt_of_cell? _ _ hck
          clear hkc
          have hkt : keep[k] = false := by rw [List.getD_eq_getElem?_getD, List.getElem?_eq_getElem hkl] at hke; exact hke
          rw [hkt] at hck
          clear hke hkt
          go_wp2
          go_roundw
          case rel => exact ⟨k + 1, vS', by omega, by go_num, HR1.out, HR2.out⟩
          case measure => simp [intOf]; omega
        · clear hke
          go_wp2
          go_roundw
          case rel => exact ⟨k + 1, vS', by omega, by go_num, HR1.out, HR2.out⟩
          case measure => simp [intOf]; omega
    · obtain rfl : k = n := by omega
      have hE := hA.emptied
      have HR1 : Hid (RkAt (wr.setCell ⟨x, 1, none⟩ (.slice none 0 0)) Q x sS (.slice none 0 0) vS' [] (s.did F)) := by
        have e : s.did F = { s with now := laidF s.kept s.since F k, kept := laidF s.kept s.since F k, since := [] } := by rw [Dsk.did, ← HN.out]
        rw [e]; exact hE.1
      have HR2 := Lib.hid (hM.trans hE.2 (fun j hj => .inl hj))
      clear hE hA hM hsv h HF
      go_wp2
      go_end0
      exact ⟨rfl, ⟨_, _, _, _, HR1.out⟩, HR2.out⟩
end Go.Proofs.Ytkhdahipnfloeaa
