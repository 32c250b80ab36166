/- Package disk: Crash. -/
import Derived.Test.YtkhdahipnfloeaaSync
namespace Go.Proofs.Ytkhdahipnfloeaa
open Go.RowKit
set_option maxRecDepth 100000

/-- A slice of bools that reads as l, wherever it lies. -/
def Bl (w : World) (v : Value) (l : List Bool) : Prop :=
  ∃ ao cap, v = .slice ao l.length cap ∧ l.length ≤ cap ∧ cap ≤ maxLen ∧ (ao = none → cap = 0) ∧ ∀ ad, ao = some ad → ∀ j u, (l.map Value.bool)[j]? = some u → w.cell? (ad.add j) = some u
theorem Bl.moved {P : Nat → Prop} {w w' : World} {v : Value} {l : List Bool} (h : Bl w v l) (hm : Moved P w w') (hP : 0 < l.length → ∀ k, v.ownBlock = some k → ¬ P k) : Bl w' v l := by
  obtain ⟨ao, cap, rfl, h1, h2, h3, h4⟩ := h
  refine ⟨ao, cap, rfl, h1, h2, h3, fun ad had j u hu => ?_⟩
  have hc := h4 ad had j u hu
  subst had
  have hlt := World.block_lt_of_cell? w _ hc
  rw [block_add] at hlt
  have h0 : 0 < l.length := by
    have := (List.getElem?_eq_some_iff.1 hu).1
    rw [List.length_map] at this; omega
  rw [World.cell?_of_block (w := w) (hm.block _ (by rw [block_add]; exact hlt) (by rw [block_add]; exact hP h0 _ rfl))]
  exact hc
theorem Bl.at {w : World} {v : Value} {l : List Bool} (h : Bl w v l) (hl : 0 < l.length) :
    ∃ b off cap, v = .slice (some ⟨b, off, none⟩) l.length cap ∧ l.length ≤ cap ∧ cap ≤ maxLen ∧ ∀ j (hj : j < l.length), w.cell? ⟨b, off + j, none⟩ = some (.bool l[j]) := by
  obtain ⟨ao, cap, rfl, h1, h2, h3, h4⟩ := h
  cases ao with
  | none => have := h3 rfl; omega
  | some ad =>
    obtain ⟨b, off, spot⟩ := ad
    have key : ∀ j (hj : j < l.length), w.cell? ((⟨b, off, spot⟩ : Addr).add j) = some (.bool l[j]) := fun j hj => h4 _ rfl j _ (by simp [hj])
    have hs : spot = none := by simpa [Addr.add] using World.cell?_spot (key 0 hl)
    subst hs
    refine ⟨b, off, cap, rfl, h1, h2, fun j hj => ?_⟩
    have := key j hj
    rwa [Addr.add_lit] at this
theorem Bl.nil (w : World) : Bl w (.slice none 0 0) [] := ⟨none, 0, rfl, by simp, by simp [maxLen], fun _ => rfl, fun ad h => by cases h⟩

/-- What Crash makes of the kept rows, from the first i Writes. -/
def laid (kept : List ByteArray) (l : List (Nat × ByteArray)) (keep : List Bool) : Nat → List ByteArray
  | 0 => kept
  | i + 1 => if keep.getD i false then (laid kept l keep i).set (l.getD i (0, ByteArray.empty)).1 (l.getD i (0, ByteArray.empty)).2 else laid kept l keep i
theorem laid_length (kept : List ByteArray) (l : List (Nat × ByteArray)) (keep : List Bool) (i : Nat) : (laid kept l keep i).length = kept.length := by
  induction i with
  | zero => rfl
  | succ i ih => unfold laid; split <;> simp [ih]
theorem laid_short (kept : List ByteArray) (l : List (Nat × ByteArray)) (keep : List Bool) (h1 : ∀ x ∈ kept, x.size ≤ 512) (h2 : ∀ p ∈ l, p.2.size ≤ 512) (i : Nat) : ∀ x ∈ laid kept l keep i, x.size ≤ 512 := by
  induction i with
  | zero => exact h1
  | succ i ih =>
    unfold laid
    split
    · intro x hx
      rcases List.mem_or_eq_of_mem_set hx with hx | rfl
      · exact ih x hx
      · by_cases hi : i < l.length
        · rw [List.getD_eq_getElem?_getD, List.getElem?_eq_getElem hi]; exact h2 _ (List.getElem_mem _)
        · rw [List.getD_eq_getElem?_getD, List.getElem?_eq_none (by omega)]; decide
    · exact ih

def Dsk.crash (s : Dsk) (keep : List Bool) : Dsk := { s with now := laid s.kept s.since keep s.since.length, kept := laid s.kept s.since keep s.since.length, since := [], stop := 0, dead := false }

theorem DkAt.relaid {w w' : World} {P : Nat → Prop} {r bn bk : Nat} {sv : Value} {s : Dsk} (h : DkAt w P r bn bk sv s) (l : List ByteArray) (hl : l.length = s.now.length) (hs : ∀ x ∈ l, x.size ≤ 512) (hb : Blk w' bk (strs l).toArray 9) (hm : Moved (· = bk) w w') :
    DkAt w' P r bn bk sv { s with kept := l } ∧ Moved P w w' := by
  refine ⟨⟨h.n1, h.n2, h.n3, h.n4, h.n5, h.n6, h.p1, h.p2, h.p3, h.p4, Blk.moved h.top hm h.n2, h.bnow.moved hm h.n3, hb, hl, h.most, owns_moved h.row hm (fun k hk e => h.n6 (by rw [hk, e])), h.ats, h.short.1, hs, h.short.2.2⟩, hm.mono (by rintro j rfl; exact h.p3)⟩

theorem DkAt.alloc {w : World} {P : Nat → Prop} {r bn bk : Nat} {sv : Value} {s : Dsk} (h : DkAt w P r bn bk sv s) (o : Obj) : DkAt (w.alloc o) P r bn bk sv s :=
  ⟨h.n1, h.n2, h.n3, h.n4, h.n5, h.n6, h.p1, h.p2, h.p3, h.p4, Blk.alloc h.top o, h.bnow.alloc o, h.bkept.alloc o, h.len, h.most, h.row.alloc o, h.ats, h.short⟩

theorem wcells_at (l : List (Nat × ByteArray)) (i : Nat) (hi : i < l.length) : (wcells l)[i * 2]? = some (.int .i64 (l[i].1 : Int)) ∧ (wcells l)[i * 2 + 1]? = some (.string l[i].2) := by
  induction l generalizing i with
  | nil => simp at hi
  | cons p t ih =>
    have e : wcells (p :: t) = .int .i64 (p.1 : Int) :: .string p.2 :: wcells t := rfl
    rw [e]
    cases i with
    | zero => simp
    | succ i =>
      have := ih i (by simpa using hi)
      rw [show (i + 1) * 2 = i * 2 + 1 + 1 from by omega]
      simpa using this

theorem crash_any (P : Nat → Prop) (r : Nat) (s : Dsk) (v : Value) (keep : List Bool) (w : World) (h : Dk w P r s) (hv : Bl w v keep) (hP : 0 < keep.length → ∀ k, v.ownBlock = some k → ¬ P k) (hsl : s.since.length ≤ 1073741824) :
    Calls Try.prog 21 #[.pointer (some ⟨r, 0, none⟩), v] w fun e w' => e = .returned (.tuple #[]) ∧ Dk w' P r (s.crash keep) ∧ Moved P w w' := by
  obtain ⟨bn, bk, sv, h⟩ := h
  obtain ⟨n, hn⟩ : ∃ n, n = s.since.length := ⟨_, rfl⟩
  obtain ⟨so, cap, hsv⟩ : ∃ so cap, sv = .slice so n cap := by
    rcases h.row.2 with ⟨e, e0⟩ | ⟨g, cap, cur, e, -⟩
    · exact ⟨none, 0, by rw [e, hn, e0]⟩
    · exact ⟨_, cap, by rw [e, hn]⟩
  rw [← hn] at hsl
  obtain ⟨c0, c1, c2, -, -, -, cf⟩ := h.top.cells
  have HN := Lib.hid hn
  have HSH := Lib.hid h.short
  rw [hsv] at c2
  have hbv := hv
  obtain ⟨ao, kc, rfl, hk1, hk2, -⟩ := hv
  have hk2' : kc ≤ 9223372036854775807 := hk2
  clear hn
  go_enter Try.func21, Try.ntmps21
  go_wp2_with fail
  go_loopw [11] (fun i wr => ∃ k : Nat, k ≤ n ∧ i = .int .i64 k ∧ DkAt wr P r bn bk sv { s with kept := laid s.kept s.since keep k } ∧ Moved P w wr) (fun i _ => n - (intOf i).toNat)
  case atStart => exact ⟨0, Nat.zero_le _, rfl, h, Moved.refl _ _⟩
  case round =>
    obtain ⟨k, hk, rfl, hA, hM⟩ := hrel
    by_cases hlt : k < n
    · have hks : k < s.since.length := by rw [← HN.out]; exact hlt
      obtain ⟨g, cap', hsv', -, hgl⟩ := h.row.form (by omega)
      obtain ⟨rfl, rfl⟩ : so = some ⟨g, 0, none⟩ ∧ cap = cap' := by
        rw [hsv'] at hsv
        simp only [Value.slice.injEq] at hsv
        exact ⟨hsv.1.symm, hsv.2.2.symm⟩
      obtain ⟨a, ha⟩ : ∃ a, a = s.since[k].1 := ⟨_, rfl⟩
      obtain ⟨b, hb⟩ : ∃ b, b = s.since[k].2 := ⟨_, rfl⟩
      have hw1 := hA.row.cells (g := g) (by rw [hsv]; rfl) (k * 2) _ (wcells_at s.since k hks).1
      have hw2 := hA.row.cells (g := g) (by rw [hsv]; rfl) (k * 2 + 1) _ (wcells_at s.since k hks).2
      simp only [Addr.add_lit, Nat.zero_add] at hw1 hw2
      rw [← ha] at hw1
      rw [← hb] at hw2
      have hlaid : laid s.kept s.since keep (k + 1) = if keep.getD k false then (laid s.kept s.since keep k).set a b else laid s.kept s.since keep k := by
        rw [laid, List.getD_eq_getElem?_getD (l := s.since), List.getElem?_eq_getElem hks]
        simp [ha, hb]
      have HA := Lib.hid hA
      have HM := Lib.hid hM
      have HL := Lib.hid hlaid
      have hbr := Lib.hid (hbv.moved hM hP)
      have HAL : a < s.now.length := by rw [ha]; exact HA.out.ats _ (List.getElem_mem _)
      have HBL : b.size ≤ 512 := by rw [hb]; exact HA.out.short.2.2 _ (List.getElem_mem _)
      clear hA hM hlaid ha hb c0 c1 c2 h hsv hsv'
      by_cases hkk : k < keep.length
      · obtain ⟨kb, ko, kc', e, -, -, hkc⟩ := hbr.out.at (by omega)
        simp only [Value.slice.injEq, true_and] at e
        obtain ⟨rfl, rfl⟩ := e
        have hck := hkc k hkk
        have hkl := World.block_lt_of_cell? _ _ hck
        clear hkc
        cases hkb : keep[k] with
        | false =>
          rw [hkb] at hck
          have hg : keep.getD k false = false := by rw [List.getD_eq_getElem?_getD, List.getElem?_eq_getElem hkk]; exact hkb
          have HG := Lib.hid hg
          clear hg hkb
          go_wp2
          go_roundw
          case rel => exact ⟨k + 1, by omega, by go_num, by rw [HL.out, HG.out]; exact HA.out.alloc _, HM.out.alloc _⟩
          case measure => simp [intOf]; omega
        | true =>
          rw [hkb] at hck
          have hg : keep.getD k false = true := by rw [List.getD_eq_getElem?_getD, List.getElem?_eq_getElem hkk]; exact hkb
          have HG := Lib.hid hg
          clear hg hkb
          go_wp2
          have hA1 := HA.out.alloc (.cells #[.int .i64 (a : Int), .string b] 79)
          have hM1 := Lib.hid (HM.out.alloc (.cells #[.int .i64 (a : Int), .string b] 79))
          have hB1 := Blk.new wr #[.int .i64 (a : Int), .string b] 79
          generalize (World.alloc _ _) = w1 at hA1 hM1 hB1 ⊢
          generalize wr.heap.size = q at hB1 ⊢
          have d0 : w1.cell? ⟨q, 0, none⟩ = some (.int .i64 (a : Int)) := hB1.cell 0
          have d1 : w1.cell? ⟨q, 1, none⟩ = some (.string b) := hB1.cell 1
          obtain ⟨-, c1, -⟩ := hA1.top.cells
          have c1 : w1.cell? ⟨r, 1, none⟩ = some (.slice (some ⟨bk, 0, none⟩) s.now.length s.now.length) := c1
          have hlk : (laid s.kept s.since keep k).length = s.now.length := hA1.len
          obtain ⟨old, hak⟩ : ∃ old, w1.cell? ⟨bk, a, none⟩ = some (.string old) := ⟨(laid s.kept s.since keep k)[a], by rw [hA1.bkept.cell]; simp [strs, hlk, HAL]⟩
          have hfk : w1.frozen? ⟨bk, a, none⟩ = false := hA1.bkept.frozen a
          have hR := hA1.relaid (w' := w1.setCell ⟨bk, a, none⟩ (.string b)) (laid s.kept s.since keep (k + 1)) (by rw [laid_length]; exact HA.out.len ▸ (laid_length ..).symm) (laid_short _ _ _ HSH.out.2.1 HSH.out.2.2 _)
            (by have := hA1.bkept.set a (.string b); rw [strs_set] at this; rw [HL.out, HG.out]; exact this) ((Moved.refl (· = bk) w1).setCell ⟨bk, a, none⟩ _ (.inl rfl))
          have HR1 := Lib.hid hR.1.drew
          have HR2 := Lib.hid (hM1.out.trans hR.2.drew (fun j hj => .inl hj))
          clear hR hA1 hB1 hlk hM1
          have HAL' : (a : Int) < s.now.length := by omega
          have hmost := Lib.hid HA.out.most
          go_region
          go_wp2
          go_roundw
          case rel => exact ⟨k + 1, by omega, by go_num, HR1.out, HR2.out⟩
          case measure => simp [intOf]; omega
      · have hg : keep.getD k false = false := by rw [List.getD_eq_getElem?_getD, List.getElem?_eq_none (by omega)]; rfl
        have HG := Lib.hid hg
        clear hg
        go_wp2
        go_roundw
        case rel => exact ⟨k + 1, by omega, by go_num, by rw [HL.out, HG.out]; exact HA.out.alloc _, HM.out.alloc _⟩
        case measure => simp [intOf]; omega
    · obtain rfl : k = n := by omega
      obtain ⟨c0, c1, c2, -, -, -, cf⟩ := hA.top.cells
      have N1 := hA.n1
      have HA := Lib.hid hA
      have HM := Lib.hid hM
      have c0 : wr.cell? ⟨r, 0, none⟩ = some (.slice (some ⟨bn, 0, none⟩) s.now.length s.now.length) := c0
      have c1 : wr.cell? ⟨r, 1, none⟩ = some (.slice (some ⟨bk, 0, none⟩) s.now.length s.now.length) := c1
      have HL : Hid ((laid s.kept s.since keep k).length = s.now.length) := hA.len
      have HS : Hid (k = s.since.length) := HN
      clear hA hM cf h c2 hsv
      go_wp2_with fail
      go_region_law (refine step_copy_row rfl (.tmp 39) (.tmp 43) rfl bn bk _ rfl rfl s.now (laid s.kept s.since keep k) rfl HL.out HA.out.bnow.drew HA.out.bkept.drew ?_; intro w2 hb2 hm2)
      all_goals (
        have HZ := HA.out.drew.emptied bn (.inl rfl) (laid s.kept s.since keep k) (.inr rfl) (fun _ => rfl) (fun e => absurd e HA.out.n3) hb2 hm2
        have HZ2 := Lib.hid (HM.out.drew.trans HZ.2 (fun j hj => .inl hj))
        have hm4 : Moved (· = r) (w2.setCell ⟨r, 2, none⟩ (.slice none 0 0)) (((w2.setCell ⟨r, 2, none⟩ (.slice none 0 0)).setCell ⟨r, 4, none⟩ (.int .i64 0)).setCell ⟨r, 5, none⟩ (.bool false)) :=
          ((Moved.refl (· = r) _).setCell ⟨r, 4, none⟩ _ (.inl rfl)).setCell ⟨r, 5, none⟩ _ (.inl rfl)
        have HZ1 := Lib.hid (HZ.1.retop (s' := s.crash keep) hm4 (by rw [HS.out]; rfl) (by rw [HS.out]; rfl) rfl (by
          have := (Blk.set HZ.1.top 4 (.int .i64 0)).set 5 (.bool false)
          unfold Top Dsk.crash
          rw [← HS.out]
          exact this))
        have HZ3 := Lib.hid (HZ2.out.trans hm4 (by rintro j rfl; exact .inl HA.out.p1))
        obtain ⟨-, -, d2, -, d4, d5, df⟩ := Top.cells (Blk.moved (Blk.drew HA.out.top) hm2 N1)
        have e2 := df 2
        have e4 := df 4
        have e5 := df 5
        clear df HZ HM HL HA hb2 hm2 hm4 HZ2
        go_wp2_with fail
        go_end0
        exact ⟨rfl, ⟨_, _, _, HZ1.out⟩, HZ3.out⟩)
end Go.Proofs.Ytkhdahipnfloeaa
