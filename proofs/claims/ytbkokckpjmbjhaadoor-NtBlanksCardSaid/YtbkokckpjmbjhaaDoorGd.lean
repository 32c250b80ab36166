/- RedoA4 -/
import Derived.Test.YtbkokckpjmbjhaaDoorGc
namespace Go.Proofs.YtbkokckpjmbjhaaDoor
open Go.RowKit
set_option maxRecDepth 100000
section
theorem Bs.moved0 {P : Nat → Prop} {w w' : World} {v : Value} {l : List UInt8} (h : Bs w v l) (hm : Moved P w w') (hP : 0 < l.length → ∀ k, v.ownBlock = some k → ¬ P k) : Bs w' v l := by
  by_cases h0 : 0 < l.length
  · exact h.moved hm (hP h0)
  · obtain rfl : l = [] := List.eq_nil_of_length_eq_zero (by omega)
    obtain ⟨ao, cap, rfl, h1, h2, h3, h4⟩ := h
    exact ⟨ao, cap, rfl, h1, h2, h3, fun ad had j u hu => by simp [vbs] at hu⟩
/-- A page's two cells, and what its slice reads as; its blocks are of S. -/
def PuAt (w : World) (S : Nat → Prop) (b o : Nat) (p : Int × List UInt8) : Prop :=
  w.cell? ⟨b, o, none⟩ = some (.int .i64 p.1) ∧ ∃ u, w.cell? ⟨b, o + 1, none⟩ = some u ∧ Bs w u p.2 ∧ (0 < p.2.length → ∀ g, u.ownBlock = some g → S g)
/-- A slice of pages that reads as l; all its blocks are of S. -/
def Pus (w : World) (S : Nat → Prop) (v : Value) (l : Pages) : Prop :=
  ∃ ao cap, v = .slice ao l.length cap ∧ l.length ≤ cap ∧ cap ≤ maxLen ∧ ∀ k (hk : k < l.length), ∃ b off, ao = some ⟨b, off, none⟩ ∧ S b ∧ PuAt w S b (off + k * 2) l[k]
theorem PuAt.moved {w w' : World} {S P : Nat → Prop} {b o : Nat} {p : Int × List UInt8} (h : PuAt w S b o p) (hb : S b) (hm : Moved P w w') (hS : ∀ g, S g → ¬ P g) : PuAt w' S b o p := by
  obtain ⟨h0, u, h1, h2, h3⟩ := h
  have hlt : b < w.heap.size := World.block_lt_of_cell? w _ h0
  have hc : ∀ j, w'.cell? ⟨b, j, none⟩ = w.cell? ⟨b, j, none⟩ := fun j => World.cell?_of_block (a := ⟨b, j, none⟩) (hm.block b hlt (hS b hb))
  exact ⟨(hc _).trans h0, u, (hc _).trans h1, h2.moved0 hm (fun h0 k hk => hS k (h3 h0 k hk)), h3⟩
theorem Pus.moved {w w' : World} {S P : Nat → Prop} {v : Value} {l : Pages} (h : Pus w S v l) (hm : Moved P w w') (hS : ∀ g, S g → ¬ P g) : Pus w' S v l := by
  obtain ⟨ao, cap, e, h1, h2, hE⟩ := h
  refine ⟨ao, cap, e, h1, h2, fun k hk => ?_⟩
  obtain ⟨b, off, e', hb, hA⟩ := hE k hk
  exact ⟨b, off, e', hb, hA.moved hb hm hS⟩
theorem Pus.below {w w' : World} {S : Nat → Prop} {v : Value} {l : Pages} (h : Pus w S v l) (hb : Below w.heap.size w w') : Pus w' S v l := h.moved (Moved.of_below hb (fun _ => False)) (fun _ _ h => h)
end
section
/-- A slice of texts that reads as l, wherever it lies. -/
def Ss (w : World) (v : Value) (l : List ByteArray) : Prop :=
  ∃ ao cap, v = .slice ao l.length cap ∧ l.length ≤ cap ∧ cap ≤ maxLen ∧ (ao = none → cap = 0) ∧ ∀ ad, ao = some ad → ∀ j u, (strs l)[j]? = some u → w.cell? (ad.add j) = some u
theorem Ss.at {w : World} {v : Value} {l : List ByteArray} (h : Ss w v l) (hl : 0 < l.length) :
    ∃ b off cap, v = .slice (some ⟨b, off, none⟩) l.length cap ∧ l.length ≤ cap ∧ cap ≤ maxLen ∧ ∀ j (hj : j < l.length), w.cell? ⟨b, off + j, none⟩ = some (.string l[j]) := by
  obtain ⟨ao, cap, rfl, h1, h2, h3, h4⟩ := h
  cases ao with
  | none => have := h3 rfl; omega
  | some ad =>
    obtain ⟨b, off, spot⟩ := ad
    have key : ∀ j (hj : j < l.length), w.cell? ((⟨b, off, spot⟩ : Addr).add j) = some (.string l[j]) := fun j hj => h4 _ rfl j _ (by simp [strs, hj])
    have hs : spot = none := by simpa [Addr.add] using World.cell?_spot (key 0 hl)
    subst hs
    refine ⟨b, off, cap, rfl, h1, h2, fun j hj => ?_⟩
    have := key j hj
    rwa [Addr.add_lit] at this
end
section
theorem draws {B : Nat} {a w : World} (h : Below B a w) (n : Nat) : Below B a (w.drewN n) := ⟨h.os, h.tape, h.output, h.size, h.block⟩
/-- What fits has seen of the first k pages. -/
def OkTo (n : Nat) (l : Pages) (k : Nat) : Prop := ∀ i (hi : i < l.length), i < k → 401 ≤ l[i].1 ∧ l[i].1 < n ∧ l[i].2.length ≤ 504 ∧ ∀ j (hj : j < i), l[j].1 ≠ l[i].1
theorem okTo_all {n : Nat} {l : Pages} (h : OkTo n l l.length) (h0 : l.length ≠ 0) (h4 : l.length ≤ 400) : fitsOf n l = 0 := by
  rw [fits_iff]
  refine ⟨h0, h4, fun p hp => ?_, ?_⟩
  · obtain ⟨i, hi, rfl⟩ := List.getElem_of_mem hp
    exact ⟨(h i hi hi).1, (h i hi hi).2.1, (h i hi hi).2.2.1⟩
  · rw [List.Nodup, List.pairwise_iff_getElem]
    intro j i hj hi hji
    have hi' : i < l.length := by simpa using hi
    have := (h i hi' hi').2.2.2 j hji
    simpa using this
theorem fits_bad {n : Nat} {l : Pages} {i : Nat} (hi : i < l.length) (h4 : l.length ≤ 400) (h : ¬ (401 ≤ l[i].1 ∧ l[i].1 < n ∧ l[i].2.length ≤ 504)) : fitsOf n l = 1 := by
  unfold fitsOf
  rw [if_neg (by omega), if_neg (by omega), if_neg]
  intro ho
  simp only [okPages, Bool.and_eq_true, List.all_eq_true, decide_eq_true_eq] at ho
  have := ho.1 _ (List.getElem_mem hi)
  exact h ⟨this.1.1, this.1.2, this.2⟩
theorem fits_twice {n : Nat} {l : Pages} {j i : Nat} (hi : i < l.length) (hj : j < i) (h4 : l.length ≤ 400) (h : l[j].1 = l[i].1) : fitsOf n l = 1 := by
  unfold fitsOf
  rw [if_neg (by omega), if_neg (by omega), if_neg]
  intro ho
  simp only [okPages, Bool.and_eq_true, decide_eq_true_eq] at ho
  have := ho.2
  rw [List.Nodup, List.pairwise_iff_getElem] at this
  exact this j i (by simp; omega) (by simpa using hi) hj (by simpa using h)
end
section
def Wops (ws : List (Nat × List UInt8)) : List Dop := ws.map fun p => Dop.W p.1 p.2
theorem run_take_ok {A Ak : Ab} {ws : List (Nat × List UInt8)} {k : Nat} (hk : k < ws.length) (h : A.run (Wops (ws.take k)) = (0, Ak)) (he : Ak.writeErr ws[k].1 ws[k].2 = 0) : A.run (Wops (ws.take (k + 1))) = (0, Ak.write ws[k].1 ws[k].2) := by
  unfold Wops at h ⊢
  rw [List.take_succ_eq_append_getElem hk, List.map_append, run_append, h, if_pos rfl]
  show (if Ak.writeErr ws[k].1 ws[k].2 = 0 then _ else _) = _
  rw [if_pos he]
  rfl
theorem run_take_all {A Ak : Ab} {ws : List (Nat × List UInt8)} {k : Nat} (hk : ws.length ≤ k) (h : A.run (Wops (ws.take k)) = (0, Ak)) (rest : List Dop) : A.run (Wops ws ++ rest) = Ak.run rest := by
  rw [List.take_of_length_le hk] at h
  rw [run_append, h, if_pos rfl]
theorem run_take_bad {A Ak : Ab} {ws : List (Nat × List UInt8)} {k : Nat} (hk : k < ws.length) (h : A.run (Wops (ws.take k)) = (0, Ak)) (he : Ak.writeErr ws[k].1 ws[k].2 ≠ 0) (rest : List Dop) : A.run (Wops ws ++ rest) = (Ak.writeErr ws[k].1 ws[k].2, Ak.write ws[k].1 ws[k].2) := by
  have e : Wops ws = Wops (ws.take k) ++ (Dop.W ws[k].1 ws[k].2 :: Wops (ws.drop (k + 1))) := by
    unfold Wops
    have e1 := List.take_append_drop k ws
    rw [List.drop_eq_getElem_cons hk] at e1
    rw [← List.map_cons (f := fun p : Nat × List UInt8 => Dop.W p.1 p.2), ← List.map_append, e1]
  rw [e, List.append_assoc, run_append, h, if_pos rfl]
  show (if Ak.writeErr ws[k].1 ws[k].2 = 0 then _ else _) = _
  rw [if_neg he]
theorem Small.mono {A : Ab} {k m : Nat} (h : Small A k) (hk : k ≤ m) : Small A m := ⟨Nat.le_trans h.1 hk, Nat.le_trans h.2.1 hk, h.2.2⟩
theorem Small.step {A : Ab} {k : Nat} (h : Small A k) : Small A.step (k + 1) := ⟨Nat.succ_le_succ h.1, Nat.le_succ_of_le h.2.1, Nat.le_trans (Nat.sub_le _ _) h.2.2⟩
theorem Small.write {A : Ab} {k : Nat} (h : Small A k) (i : Int) (b : List UInt8) : Small (A.write i b) (k + 1) := by
  unfold Ab.write
  split
  · refine ⟨Nat.succ_le_succ h.1, ?_, Nat.le_trans (Nat.sub_le _ _) h.2.2⟩
    show (A.since ++ [_]).length ≤ _
    rw [List.length_append]
    exact Nat.succ_le_succ h.2.1
  · exact h.mono (Nat.le_succ _)
theorem Small.sync {A : Ab} {k : Nat} (h : Small A k) : Small A.sync (k + 1) := by
  unfold Ab.sync
  split
  · exact h.mono (Nat.le_succ _)
  · split
    · exact h.step
    · exact ⟨h.step.1, Nat.zero_le _, h.step.2.2⟩
theorem homeWs_get (l : Pages) (k : Nat) (h : k < l.length) : (homeWs l)[k]'(by simpa [homeWs] using h) = (l[k].1.toNat, page l[k].2) := by simp [homeWs]
end
section
theorem Pus.takes {w : World} {S : Nat → Prop} {ao : Option Addr} {n cap : Nat} {l : Pages} (h : Pus w S (.slice ao n cap) l) (k : Nat) (hk : k ≤ l.length) : Pus w S (.slice ao k cap) (l.take k) := by
  obtain ⟨ao', cap', e, h1, h2, h3⟩ := h
  simp only [Value.slice.injEq] at e
  obtain ⟨rfl, rfl, rfl⟩ := e
  have hl : (l.take k).length = k := by rw [List.length_take]; omega
  refine ⟨ao, cap, by rw [hl], by omega, h2, fun j hj => ?_⟩
  obtain ⟨b, off, e, hS, hA⟩ := h3 j (by omega)
  refine ⟨b, off, e, hS, ?_⟩
  rw [List.getElem_take]
  exact hA
end
section
theorem bodyWs_get (j k : Nat) (l : Pages) (h : k < l.length) : (bodyWs j l)[k]'(by rw [bodyWs_length]; exact h) = (j + k, le l[k].1 8 ++ page l[k].2) := by
  induction l generalizing j k with
  | nil => simp at h
  | cons q t ih =>
    cases k with
    | zero => simp [bodyWs]
    | succ k =>
      have := ih (j + 1) k (by simpa using h)
      simp only [bodyWs, List.getElem_cons_succ, this]
      rw [show j + 1 + k = j + (k + 1) by omega]
theorem bs_magic (w : World) (fr : Nat × Nat) : Bs (w.alloc (.cells #[.int .u8 84, .int .u8 82, .int .u8 73, .int .u8 65, .int .u8 68, .int .u8 76, .int .u8 79, .int .u8 71] 5 fr)) (.slice (some ⟨w.heap.size, 0, none⟩) 8 8) magic := by
  refine ⟨some ⟨w.heap.size, 0, none⟩, 8, rfl, by simp [magic], by simp [maxLen], (fun h => by cases h), fun ad had j u hu => ?_⟩
  cases had
  rw [Addr.add_lit, Nat.zero_add, World.cell?_alloc_mark, ← Array.getElem?_toList]
  exact hu
end
section
def pcells (l : Pages) (vs : List Value) : List Value := (l.zip vs).flatMap fun p => [.int .i64 p.1.1, p.2]
theorem pcells_at : ∀ (l : Pages) (vs : List Value) (_ : vs.length = l.length) (i : Nat) (hi : i < l.length) (hj : i < vs.length), (pcells l vs)[i * 2]? = some (.int .i64 l[i].1) ∧ (pcells l vs)[i * 2 + 1]? = some vs[i]
  | [], _, _, i, hi, _ => by simp at hi
  | p :: t, [], h, _, _, _ => by simp at h
  | p :: t, v :: vt, h, 0, _, _ => by simp [pcells]
  | p :: t, v :: vt, h, i + 1, hi, hj => by
    have e : pcells (p :: t) (v :: vt) = .int .i64 p.1 :: v :: pcells t vt := rfl
    have := pcells_at t vt (by simpa using h) i (by simpa using hi) (by simpa using hj)
    rw [e, show (i + 1) * 2 = i * 2 + 1 + 1 from by omega]
    simpa using this
theorem pcells_snoc (l : Pages) (vs : List Value) (h : vs.length = l.length) (p : Int × List UInt8) (v : Value) : pcells (l ++ [p]) (vs ++ [v]) = pcells l vs ++ [.int .i64 p.1, v] := by
  unfold pcells
  rw [List.zip_append h.symm]
  simp
/-- Each sector has 512 bytes. -/
def Full (A : Ab) : Prop := ∀ i : Int, A.fault i = 0 → (A.read i).length = 512
theorem Full.of {s : Dsk} (h : ∀ x ∈ s.now, x.size ≤ 512) : Full (abs s) := by
  intro i hi
  unfold Ab.read
  rw [if_pos hi]
  have hr : 0 ≤ i ∧ i < s.now.length := by
    unfold Ab.fault at hi
    rw [abs_len] at hi
    split at hi
    · simp at hi
    · split at hi
      · assumption
      · simp at hi
  have hlt : i.toNat < (s.now.map pad).length := by rw [List.length_map]; omega
  show ((s.now.map pad).getD i.toNat []).length = 512
  rw [List.getD_eq_getElem?_getD, List.getElem?_eq_getElem hlt]
  show ((s.now.map pad)[i.toNat]).length = 512
  rw [List.getElem_map]
  exact pad_length _ (h _ (List.getElem_mem _))
end
section
end
section
theorem pagesOf_none {K : List (List UInt8)} {i : Nat} (h : pagesOf K i = none) : ∀ m, i ≤ m → pagesOf K m = none := by
  intro m hm
  induction m with
  | zero => obtain rfl : i = 0 := by omega
            exact h
  | succ m ih =>
    by_cases e : i = m + 1
    · subst e; exact h
    · unfold pagesOf
      rw [ih (by omega)]
theorem pagesOf_length {K : List (List UInt8)} : ∀ (i : Nat) (l : Pages), pagesOf K i = some l → l.length = i ∧ ∀ p ∈ l, 401 ≤ p.1 ∧ p.1 < K.length
  | 0, l, h => by simp [pagesOf] at h; subst h; simp
  | i + 1, l, h => by
    unfold pagesOf at h
    split at h
    · simp at h
    · rename_i l' h'
      have ih := pagesOf_length i l' h'
      split at h
      · rename_i hc
        simp only [Option.some.injEq] at h
        subst h
        refine ⟨by simp [ih.1], fun p hp => ?_⟩
        rcases List.mem_append.1 hp with hp | hp
        · exact ih.2 p hp
        · simp at hp; subst hp; exact hc
      · simp at h
def recOf (A : Ab) (n : Int) : Option Pages → Int × Int × Ab
  | none => (0, 9, A)
  | some l => if (A.run (homesOps l)).1 = 0 then (n, 0, (A.run (homesOps l)).2) else (0, (A.run (homesOps l)).1, (A.run (homesOps l)).2)
end
section
theorem zeros_add (a b : Nat) : zeros a ++ zeros b = zeros (a + b) := by simp [zeros]
theorem sec_page (b : List UInt8) (h : b.length ≤ 504) : sec (page b) = sec b := by
  unfold sec
  rw [page_length b h, page, List.append_assoc, zeros_add]
  congr 2
  omega
theorem sec_body (a : Int) (b : List UInt8) (h : b.length ≤ 504) : sec (le a 8 ++ page b) = sec (le a 8 ++ b) := by
  unfold sec
  rw [List.length_append, List.length_append, le_length, page_length b h, page, List.append_assoc, List.append_assoc, List.append_assoc, zeros_add]
  congr 3
  omega
end
section
/-- The frame of synced at its label. -/
def SyncedOut (e : Int) (a' : Act) : Prop := ∃ u0 u1 u2 u3 u4 u5 u6 u8 u9 u10 u11 u12 u13 u14 u15 u16 u17 u18 u19 u20 u21 u22 u23 u24 u25 u26 u27 u28 u29 u30 : Value, a' = { tmps := #[u0, u1, u2, u3, u4, u5, u6, .int .i64 e, u8, u9, u10, u11, u12, u13, u14, u15, u16, u17, u18, u19, u20, u21, u22, u23, u24, u25, u26, u27, u28, u29, u30], defers := [] }
theorem write_alike {A : Ab} {i : Int} {b b' : List UInt8} (h : sec b = sec b') (h1 : b.length ≤ 512) (h2 : b'.length ≤ 512) : A.write i b = A.write i b' ∧ A.writeErr i b = A.writeErr i b' := by
  unfold Ab.write Ab.writeErr
  rw [h]
  have e1 : (512 < b.length) = False := by simp; omega
  have e2 : (512 < b'.length) = False := by simp; omega
  have e3 : (b.length ≤ 512) = True := by simp [h1]
  have e4 : (b'.length ≤ 512) = True := by simp [h2]
  simp only [e1, e2, e3, e4]
  exact ⟨trivial, trivial⟩
end
end Go.Proofs.YtbkokckpjmbjhaaDoor
