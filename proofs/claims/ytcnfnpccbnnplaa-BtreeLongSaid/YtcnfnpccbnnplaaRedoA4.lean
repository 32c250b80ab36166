/- Pus, Strs, Fits, Homes, Fault, Commit, Row, Good, Recover, Clos, Synced: what speaks of packages code, disk and redo alone. -/
import Derived.Test.YtcnfnpccbnnplaaPlain4
import Derived.Laws.CopyOwn
import Derived.Deep.AppendLies
import Derived.BigQuiet
import Derived.Deep.QuietTactic
import Derived.Deep.RegionHeld3
namespace Go.Proofs.Ytcnfnpccbnnplaa
open Go.RowKit
set_option maxRecDepth 100000

section
theorem Bs.moved0 {P : Nat → Prop} {w w' : World} {v : Value} {l : List UInt8} (h : Bs w v l) (hm : Moved P w w') (hP : 0 < l.length → ∀ k, v.ownBlock = some k → ¬ P k) : Bs w' v l := by
  by_cases h0 : 0 < l.length
  · exact h.moved hm (hP h0)
  · obtain rfl : l = [] := List.eq_nil_of_length_eq_zero (by omega)
    obtain ⟨ao, cap, rfl, h1, h2, h3, h4⟩ := h
    exact ⟨ao, cap, rfl, h1, h2, h3, fun ad had j u hu => by simp [vbs] at hu⟩
/-- A page's two cells, and what its slice reads as; its blocks are of S. -/
def PuAt (w : World) (S : Nat → Prop) (b o : Nat) (p : Int × List UInt8) : Prop :=
  w.cell? ⟨b, o, none⟩ = some (.int .i64 p.1) ∧ ∃ u, w.cell? ⟨b, o + 1, none⟩ = some u ∧ Bs w u p.2 ∧ (0 < p.2.length → ∀ g, u.ownBlock = some g → S g)
/-- A slice of pages that reads as l; all its blocks are of S. -/
def Pus (w : World) (S : Nat → Prop) (v : Value) (l : Pages) : Prop :=
  ∃ ao cap, v = .slice ao l.length cap ∧ l.length ≤ cap ∧ cap ≤ maxLen ∧ ∀ k (hk : k < l.length), ∃ b off, ao = some ⟨b, off, none⟩ ∧ S b ∧ PuAt w S b (off + k * 2) l[k]

theorem PuAt.moved {w w' : World} {S P : Nat → Prop} {b o : Nat} {p : Int × List UInt8} (h : PuAt w S b o p) (hb : S b) (hm : Moved P w w') (hS : ∀ g, S g → ¬ P g) : PuAt w' S b o p := by
  obtain ⟨h0, u, h1, h2, h3⟩ := h
  have hlt : b < w.heap.size := World.block_lt_of_cell? w _ h0
  have hc : ∀ j, w'.cell? ⟨b, j, none⟩ = w.cell? ⟨b, j, none⟩ := fun j => World.cell?_of_block (a := ⟨b, j, none⟩) (hm.block b hlt (hS b hb))
  exact ⟨(hc _).trans h0, u, (hc _).trans h1, h2.moved0 hm (fun h0 k hk => hS k (h3 h0 k hk)), h3⟩
theorem Pus.moved {w w' : World} {S P : Nat → Prop} {v : Value} {l : Pages} (h : Pus w S v l) (hm : Moved P w w') (hS : ∀ g, S g → ¬ P g) : Pus w' S v l := by
  obtain ⟨ao, cap, e, h1, h2, hE⟩ := h
  refine ⟨ao, cap, e, h1, h2, fun k hk => ?_⟩
  obtain ⟨b, off, e', hb, hA⟩ := hE k hk
  exact ⟨b, off, e', hb, hA.moved hb hm hS⟩
theorem Pus.below {w w' : World} {S : Nat → Prop} {v : Value} {l : Pages} (h : Pus w S v l) (hb : Below w.heap.size w w') : Pus w' S v l := h.moved (Moved.of_below hb (fun _ => False)) (fun _ _ h => h)
theorem Pus.nil (w : World) (S : Nat → Prop) : Pus w S (.slice none 0 0) [] := ⟨none, 0, rfl, by simp, by simp [maxLen], fun k hk => by simp at hk⟩

/-! ### page -/

/-- copy(x, b), x a new row of N bytes, b a slice of bytes. -/
theorem wpList_copy_new {w : World} {ops : Array Oper} {rest : List Oper} {o : Oper} {a : Act} {Q : Exit → Act → World → Prop} (N : Nat) (hgd : o.guard = none) (d x : Operand)
    (ho : o.op = .call { callee := .builtin .copy, args := #[d, x], argTypes := #[37, 37] }) (g : Nat) (v : Value) (l : List UInt8)
    (hd : a.eval d = .slice (some ⟨g, 0, none⟩) N N) (hx : a.eval x = v) (hb : Bs w v l) (hl : l.length ≤ N) (hg : Blk w g (vbs (zeros N)).toArray 5)
    (h : ∀ w', Blk w' g (vbs (l ++ zeros (N - l.length))).toArray 5 → w.grownBy w' (some g) → wpList Try.prog ops Q rest (a.put o.dst (goInt l.length)) w') : wpList Try.prog ops Q (o :: rest) a w := by
  have hsz : (Try.prog.info? 5).map (·.size) = some 1 := by kernel_rfl
  obtain ⟨ao, cap, rfl, h1, h2, h3, h4⟩ := hb
  by_cases h0 : l.length = 0
  · obtain rfl : l = [] := List.eq_nil_of_length_eq_zero h0
    refine wpList_copy_nothing hgd d x _ _ ho 5 Try.underlying37 hsz _ _ _ _ _ _ hd hx (by simp) ?_
    exact h w (by simpa using hg) (World.grownBy.refl _ _)
  · cases ao with
    | none => have := h3 rfl; omega
    | some ad =>
      refine wpList_copy_own hgd d x _ _ ho 5 Try.underlying37 hsz g 0 N N ad l.length cap hd hx _ 5 hg (vbs l) (by rw [vbs_length]; exact (Nat.min_eq_left hl).symm) (fun j u hu => h4 ad rfl j u hu) (by rw [vbs_length, List.size_toArray, vbs_length, zeros_length]; omega) (vbs_oneCell l) ?_
      have e : splice (vbs (zeros N)) 0 (vbs l) = vbs (l ++ zeros (N - l.length)) := by
        unfold splice
        rw [List.take_zero, List.nil_append, Nat.zero_add, vbs_length, vbs_append]
        congr 1
        unfold vbs
        rw [← List.map_drop, zeros_drop]
      unfold splice at e
      rw [e, vbs_length]
      exact h _ (setRow_heap w g _ _ _ _ hg) ⟨rfl, rfl, rfl, by simp [World.setRow], fun k _ hk => setRow_other w g k _ (fun e => hk (by simp [e]))⟩

/-! ### Few -/

def FewP (l : Pages) : Prop := (∀ k (hk : k < l.length), l[k].2.length ≤ 600) ∧ l.length ≤ 410
end

section
/-- A slice of texts that reads as l, wherever it lies. -/
def Ss (w : World) (v : Value) (l : List ByteArray) : Prop :=
  ∃ ao cap, v = .slice ao l.length cap ∧ l.length ≤ cap ∧ cap ≤ maxLen ∧ (ao = none → cap = 0) ∧ ∀ ad, ao = some ad → ∀ j u, (strs l)[j]? = some u → w.cell? (ad.add j) = some u
theorem Ss.at {w : World} {v : Value} {l : List ByteArray} (h : Ss w v l) (hl : 0 < l.length) :
    ∃ b off cap, v = .slice (some ⟨b, off, none⟩) l.length cap ∧ l.length ≤ cap ∧ cap ≤ maxLen ∧ ∀ j (hj : j < l.length), w.cell? ⟨b, off + j, none⟩ = some (.string l[j]) := by
  obtain ⟨ao, cap, rfl, h1, h2, h3, h4⟩ := h
  cases ao with
  | none => have := h3 rfl; omega
  | some ad =>
    obtain ⟨b, off, spot⟩ := ad
    have key : ∀ j (hj : j < l.length), w.cell? ((⟨b, off, spot⟩ : Addr).add j) = some (.string l[j]) := fun j hj => h4 _ rfl j _ (by simp [strs, hj])
    have hs : spot = none := by simpa [Addr.add] using World.cell?_spot (key 0 hl)
    subst hs
    refine ⟨b, off, cap, rfl, h1, h2, fun j hj => ?_⟩
    have := key j hj
    rwa [Addr.add_lit] at this

/-- A row of the call's own. -/
def OwnS (w : World) (base : Nat) (v : Value) (l : List ByteArray) : Prop := w.ownsRow base 9 1 v l.length (strs l)
theorem OwnS.ss {w : World} {base : Nat} {v : Value} {l : List ByteArray} (h : OwnS w base v l) : Ss w v l := by
  have hc := fun g (hg : v.ownBlock = some g) => World.ownsRow.cells h hg
  rcases h.2 with ⟨rfl, hn⟩ | ⟨g, cap, cur, rfl, hb, hh, h1, h2, h3, h4⟩
  · obtain rfl : l = [] := List.eq_nil_of_length_eq_zero hn
    exact ⟨none, 0, rfl, by simp, by simp [maxLen], fun _ => rfl, fun ad h => by cases h⟩
  · refine ⟨some ⟨g, 0, none⟩, cap, rfl, h1, h2, (fun h => by cases h), fun ad had j u hu => ?_⟩
    cases had
    exact hc g rfl j u hu

theorem wpList_append_str {w : World} {ops : Array Oper} {rest : List Oper} {o : Oper} {a : Act} {Q : Exit → Act → World → Prop} (hgd : o.guard = none) (s x : Operand)
    (ho : o.op = .call { callee := .builtin .append, args := #[s, x], argTypes := #[55, 55] }) (w0 : Nat) (hw0 : w0 ≤ w.heap.size)
    (lv : Value) (l : List ByteArray) (hs : a.eval s = lv) (hown : OwnS w w0 lv l)
    (g0 : Nat) (hx : a.eval x = .slice (some ⟨g0, 0, none⟩) 1 1) (b : ByteArray) (hg : Blk w g0 #[.string b] 9) (hl : l.length ≤ 1073741824)
    (h : ∀ v' w', OwnS w' w0 v' (l ++ [b]) → w.grownBy w' lv.ownBlock → (∀ g, lv.ownBlock = some g → w0 ≤ g) → wpList Try.prog ops Q rest (a.put o.dst v') w') :
    wpList Try.prog ops Q (o :: rest) a w := by
  obtain ⟨i0, hi, hz0, hz1, hz2⟩ := info_parts Try.infoStr
  refine wpList_append_lies w hgd s x _ ho w0 9 i0 _ 1 16 Try.underlying55 hi hz0 hz1 hz2 rfl (by decide) lv l.length (strs l) hs hown ⟨g0, 0, none⟩ 1 1 [.string b] hx rfl ?_ ?_ (by decide) (by simp [maxLen]; omega) (by omega) hw0 _ rfl ?_
  · intro j u hj
    rw [show (⟨g0, 0, none⟩ : Addr).add j = ⟨g0, j, none⟩ from by unfold Addr.add; split <;> simp_all, hg.cell]
    simpa using hj
  · intro u hu
    simp at hu
    subst hu
    rfl
  · intro g cap w' k1 k2 k3 _
    refine h _ w' ?_ k2 (fun q hq => (World.ownsRow.lt hown q hq).1)
    unfold OwnS
    rw [show strs (l ++ [b]) = strs l ++ [.string b] from by simp [strs]]
    simpa using k1

def homesOf (A : Ab) : List ByteArray := (A.now.drop 401).map fun s => ⟨s.toArray⟩

theorem homesOf_get (A : Ab) (k : Nat) (h : k < (homesOf A).length) : (homesOf A)[k] = ⟨(A.now.getD (401 + k) []).toArray⟩ := by
  have h' : 401 + k < A.now.length := by
    have := h
    simp [homesOf] at this
    omega
  have e : (homesOf A)[k]? = some ⟨(A.now.getD (401 + k) []).toArray⟩ := by
    unfold homesOf
    rw [List.getElem?_map, List.getElem?_drop, List.getElem?_eq_getElem h', List.getD_eq_getElem?_getD, List.getElem?_eq_getElem h']
    rfl
  rw [List.getElem?_eq_getElem h] at e
  exact Option.some.inj e

theorem draws' {B : Nat} {a w : World} (h : Below B a w) (n : Nat) : Below B a (w.drewN n) := ⟨h.os, h.tape, h.output, h.size, h.block⟩
end

section
theorem draws {B : Nat} {a w : World} (h : Below B a w) (n : Nat) : Below B a (w.drewN n) := ⟨h.os, h.tape, h.output, h.size, h.block⟩

/-- What fits has seen of the first k pages. -/
def OkTo (n : Nat) (l : Pages) (k : Nat) : Prop := ∀ i (hi : i < l.length), i < k → 401 ≤ l[i].1 ∧ l[i].1 < n ∧ l[i].2.length ≤ 504 ∧ ∀ j (hj : j < i), l[j].1 ≠ l[i].1

theorem okTo_all {n : Nat} {l : Pages} (h : OkTo n l l.length) (h0 : l.length ≠ 0) (h4 : l.length ≤ 400) : fitsOf n l = 0 := by
  rw [fits_iff]
  refine ⟨h0, h4, fun p hp => ?_, ?_⟩
  · obtain ⟨i, hi, rfl⟩ := List.getElem_of_mem hp
    exact ⟨(h i hi hi).1, (h i hi hi).2.1, (h i hi hi).2.2.1⟩
  · rw [List.Nodup, List.pairwise_iff_getElem]
    intro j i hj hi hji
    have hi' : i < l.length := by simpa using hi
    have := (h i hi' hi').2.2.2 j hji
    simpa using this
theorem fits_bad {n : Nat} {l : Pages} {i : Nat} (hi : i < l.length) (h4 : l.length ≤ 400) (h : ¬ (401 ≤ l[i].1 ∧ l[i].1 < n ∧ l[i].2.length ≤ 504)) : fitsOf n l = 1 := by
  unfold fitsOf
  rw [if_neg (by omega), if_neg (by omega), if_neg]
  intro ho
  simp only [okPages, Bool.and_eq_true, List.all_eq_true, decide_eq_true_eq] at ho
  have := ho.1 _ (List.getElem_mem hi)
  exact h ⟨this.1.1, this.1.2, this.2⟩
theorem fits_twice {n : Nat} {l : Pages} {j i : Nat} (hi : i < l.length) (hj : j < i) (h4 : l.length ≤ 400) (h : l[j].1 = l[i].1) : fitsOf n l = 1 := by
  unfold fitsOf
  rw [if_neg (by omega), if_neg (by omega), if_neg]
  intro ho
  simp only [okPages, Bool.and_eq_true, decide_eq_true_eq] at ho
  have := ho.2
  rw [List.Nodup, List.pairwise_iff_getElem] at this
  exact this j i (by simp; omega) (by simpa using hi) hj (by simpa using h)
end

section
def Wops (ws : List (Nat × List UInt8)) : List Dop := ws.map fun p => Dop.W p.1 p.2

theorem run_take_ok {A Ak : Ab} {ws : List (Nat × List UInt8)} {k : Nat} (hk : k < ws.length) (h : A.run (Wops (ws.take k)) = (0, Ak)) (he : Ak.writeErr ws[k].1 ws[k].2 = 0) : A.run (Wops (ws.take (k + 1))) = (0, Ak.write ws[k].1 ws[k].2) := by
  unfold Wops at h ⊢
  rw [List.take_succ_eq_append_getElem hk, List.map_append, run_append, h, if_pos rfl]
  show (if Ak.writeErr ws[k].1 ws[k].2 = 0 then _ else _) = _
  rw [if_pos he]
  rfl
theorem run_take_all {A Ak : Ab} {ws : List (Nat × List UInt8)} {k : Nat} (hk : ws.length ≤ k) (h : A.run (Wops (ws.take k)) = (0, Ak)) (rest : List Dop) : A.run (Wops ws ++ rest) = Ak.run rest := by
  rw [List.take_of_length_le hk] at h
  rw [run_append, h, if_pos rfl]
theorem run_take_bad {A Ak : Ab} {ws : List (Nat × List UInt8)} {k : Nat} (hk : k < ws.length) (h : A.run (Wops (ws.take k)) = (0, Ak)) (he : Ak.writeErr ws[k].1 ws[k].2 ≠ 0) (rest : List Dop) : A.run (Wops ws ++ rest) = (Ak.writeErr ws[k].1 ws[k].2, Ak.write ws[k].1 ws[k].2) := by
  have e : Wops ws = Wops (ws.take k) ++ (Dop.W ws[k].1 ws[k].2 :: Wops (ws.drop (k + 1))) := by
    unfold Wops
    have e1 := List.take_append_drop k ws
    rw [List.drop_eq_getElem_cons hk] at e1
    rw [← List.map_cons (f := fun p : Nat × List UInt8 => Dop.W p.1 p.2), ← List.map_append, e1]
  rw [e, List.append_assoc, run_append, h, if_pos rfl]
  show (if Ak.writeErr ws[k].1 ws[k].2 = 0 then _ else _) = _
  rw [if_neg he]

theorem Small.mono {A : Ab} {k m : Nat} (h : Small A k) (hk : k ≤ m) : Small A m := ⟨Nat.le_trans h.1 hk, Nat.le_trans h.2.1 hk, h.2.2⟩
theorem Small.step {A : Ab} {k : Nat} (h : Small A k) : Small A.step (k + 1) := ⟨Nat.succ_le_succ h.1, Nat.le_succ_of_le h.2.1, Nat.le_trans (Nat.sub_le _ _) h.2.2⟩
theorem Small.write {A : Ab} {k : Nat} (h : Small A k) (i : Int) (b : List UInt8) : Small (A.write i b) (k + 1) := by
  unfold Ab.write
  split
  · refine ⟨Nat.succ_le_succ h.1, ?_, Nat.le_trans (Nat.sub_le _ _) h.2.2⟩
    show (A.since ++ [_]).length ≤ _
    rw [List.length_append]
    exact Nat.succ_le_succ h.2.1
  · exact h.mono (Nat.le_succ _)
theorem Small.sync {A : Ab} {k : Nat} (h : Small A k) : Small A.sync (k + 1) := by
  unfold Ab.sync
  split
  · exact h.mono (Nat.le_succ _)
  · split
    · exact h.step
    · exact ⟨h.step.1, Nat.zero_le _, h.step.2.2⟩

theorem write_len (A : Ab) (i : Int) (b : List UInt8) : (A.write i b).now.length = A.now.length := by
  unfold Ab.write
  split
  · show (A.now.set _ _).length = _; rw [List.length_set]
  · rfl
theorem sync_len (A : Ab) : A.sync.now.length = A.now.length := by
  unfold Ab.sync
  split
  · rfl
  · split <;> rfl

theorem PuAt.kept {w w' : World} {S P : Nat → Prop} {b o : Nat} {a : Int} {u : Value} (h0 : w.cell? ⟨b, o, none⟩ = some (.int .i64 a)) (h1 : w.cell? ⟨b, o + 1, none⟩ = some u) (hb : S b) (hm : Moved P w w') (hS : ∀ g, S g → ¬ P g) :
    w'.cell? ⟨b, o, none⟩ = some (.int .i64 a) ∧ w'.cell? ⟨b, o + 1, none⟩ = some u := by
  have hlt : b < w.heap.size := World.block_lt_of_cell? w _ h0
  have hc : ∀ j, w'.cell? ⟨b, j, none⟩ = w.cell? ⟨b, j, none⟩ := fun j => World.cell?_of_block (a := ⟨b, j, none⟩) (hm.block b hlt (hS b hb))
  exact ⟨(hc _).trans h0, (hc _).trans h1⟩

theorem homes_split (l : Pages) : homesOps l = Wops (homeWs l) ++ [Dop.S, Dop.W 0 [], Dop.S] := by
  unfold homesOps ph
  rw [List.append_assoc]
  rfl
theorem homeWs_get (l : Pages) (k : Nat) (h : k < l.length) : (homeWs l)[k]'(by simpa [homeWs] using h) = (l[k].1.toNat, page l[k].2) := by simp [homeWs]
end

section
theorem home_any (w w1 : World) (P : Nat → Prop) (r : Nat) (A : Ab) (at1 : Int) (h : DkTo w P w1 r A) :
    Calls Try.prog 113 #[.pointer (some ⟨r, 0, none⟩), .int .i64 at1] w1 fun e w' => e = .returned (.bool (decide (401 ≤ at1 ∧ at1 < A.now.length))) ∧ w' = w1 := by
  have hsz := to_size h
  obtain ⟨N, hN⟩ : ∃ N, N = A.now.length := ⟨_, rfl⟩
  rw [← hN] at hsz ⊢
  clear hN h
  by_cases h1 : 401 ≤ at1
  · rw [show decide (401 ≤ at1 ∧ at1 < (N : Int)) = decide (at1 < (N : Int)) by simp [h1]]
    go_enter Try.func113, Try.ntmps113
    go_wp2_with (go_at_call 41; refine hsz.mono ?_; rintro e w' ⟨rfl, hw⟩; replace hw := hw.symm; subst hw)
    go_ret
    exact ⟨rfl, rfl⟩
  · rw [show decide (401 ≤ at1 ∧ at1 < (N : Int)) = false by simp [h1]]
    clear hsz
    go_enter Try.func113, Try.ntmps113
    go_wp2_with fail
    go_ret
    exact ⟨rfl, rfl⟩

/-- The closure of fault: is p's place that of the page ahead? -/
theorem ahead_any (a : Int) (u : Value) (b : Nat) (at1 : Int) (w : World) (h : w.cell? ⟨b, 0, none⟩ = some (.int .i64 at1)) :
    Calls Try.prog 112 #[.agg #[.int .i64 a, u], .pointer (some ⟨b, 0, none⟩)] w fun e w' => e = .returned (.bool (a == at1)) ∧ Below w.heap.size w w' := by
  have hlt := World.block_lt_of_cell? w _ h
  go_enter Try.func112, Try.ntmps112
  go_wp2_with fail
  go_ret
  exact ⟨rfl, (Below.refl _ w).alloc (Nat.le_refl _) _⟩

theorem Pus.takes {w : World} {S : Nat → Prop} {ao : Option Addr} {n cap : Nat} {l : Pages} (h : Pus w S (.slice ao n cap) l) (k : Nat) (hk : k ≤ l.length) : Pus w S (.slice ao k cap) (l.take k) := by
  obtain ⟨ao', cap', e, h1, h2, h3⟩ := h
  simp only [Value.slice.injEq] at e
  obtain ⟨rfl, rfl, rfl⟩ := e
  have hl : (l.take k).length = k := by rw [List.length_take]; omega
  refine ⟨ao, cap, by rw [hl], by omega, h2, fun j hj => ?_⟩
  obtain ⟨b, off, e, hS, hA⟩ := h3 j (by omega)
  refine ⟨b, off, e, hS, ?_⟩
  rw [List.getElem_take]
  exact hA

theorem index_any (v : Value) (l : Pages) (S : Nat → Prop) (b : Nat) (at1 : Int) (w : World) (hp : Pus w S v l) (h : w.cell? ⟨b, 0, none⟩ = some (.int .i64 at1)) :
    Calls Try.prog 129 #[v, .func (.func 112) #[] #[.pointer (some ⟨b, 0, none⟩)]] w fun e w' =>
      (∃ j, e = .returned (.int .i64 j) ∧ decide (0 ≤ j) = l.any (fun q => q.1 == at1)) ∧ Below w.heap.size w w' := by
  obtain ⟨ao, cap, rfl, hc1, hc2, hE⟩ := hp
  have hc2' : cap ≤ 9223372036854775807 := hc2
  obtain ⟨n, hn⟩ : ∃ n, n = l.length := ⟨_, rfl⟩
  have HE := Lib.hid hE
  have HN := Lib.hid hn
  have HC := Lib.hid h
  rw [← hn] at hc1 ⊢
  clear hE hn hc2 h
  go_enter Try.func129, Try.ntmps129
  go_wp2_with fail
  go_loopw [5, 8] (fun _ i wr => ∃ k : Nat, k ≤ n ∧ i = .int .i64 k ∧ Below w.heap.size w wr ∧ (l.take k).any (fun q => q.1 == at1) = false) (fun _ i _ => n - (intOf i).toNat)
  case atStart => exact ⟨0, Nat.zero_le _, rfl, Below.refl _ _, by simp⟩
  case round =>
    obtain ⟨k, hk, rfl, hb, hno⟩ := hrel
    have HB := Lib.hid hb
    have HNO := Lib.hid hno
    clear hb hno
    by_cases hlt : k < n
    · have hkl : k < l.length := by rw [← HN.out]; exact hlt
      obtain ⟨g, off, rfl, hSb, hA⟩ := HE.out k hkl
      obtain ⟨c0, u, c1, -⟩ := hA.moved hSb (Moved.of_below HB.out (fun _ => False)) (fun _ _ h => h)
      have hc := (HB.out.cell (p := ⟨b, 0, none⟩) (World.block_lt_of_cell? _ _ HC.out)).trans HC.out
      obtain ⟨at2, hat⟩ : ∃ m : Int, m = l[k].1 := ⟨_, rfl⟩
      rw [← hat] at c0
      have hnext : (l.take (k + 1)).any (fun q => q.1 == at1) = (at2 == at1) := by
        rw [List.take_succ_eq_append_getElem hkl, List.any_append, HNO.out, hat]
        simp
      have HNX := Lib.hid hnext
      have hcall := ahead_any at2 u b at1 wr hc
      clear hat hnext hA hSb
      go_wp2_with fail
      refine hcall.mono ?_
      rintro e w2 ⟨rfl, hb2⟩
      have HB2 := Lib.hid (HB.out.trans (hb2.mono HB.out.size))
      clear hcall hb2 HB
      cases heq : (at2 == at1)
      · go_wp2_with fail
        go_roundw
        case rel => exact ⟨k + 1, by omega, by go_num, HB2.out, by rw [HNX.out]; exact heq⟩
        case measure => simp [intOf]; omega
      · go_wp2_with fail
        go_ret
        refine ⟨⟨_, rfl, ?_⟩, HB2.out⟩
        have hany : l.any (fun q => q.1 == at1) = true := by
          have h1 := HNX.out
          rw [heq, List.any_eq_true] at h1
          obtain ⟨q, hq, e⟩ := h1
          rw [List.any_eq_true]
          exact ⟨q, List.mem_of_mem_take hq, e⟩
        rw [hany]
        simp
    · obtain rfl : k = n := by omega
      go_wp2_with fail
      go_ret
      refine ⟨⟨_, rfl, ?_⟩, HB.out⟩
      have := HNO.out
      rw [HN.out, List.take_length] at this
      rw [this]
      rfl

theorem contains_any (v : Value) (l : Pages) (S : Nat → Prop) (b : Nat) (at1 : Int) (w : World) (hp : Pus w S v l) (h : w.cell? ⟨b, 0, none⟩ = some (.int .i64 at1)) :
    Calls Try.prog 111 #[v, .func (.func 112) #[] #[.pointer (some ⟨b, 0, none⟩)]] w fun e w' =>
      e = .returned (.bool (l.any (fun q => q.1 == at1))) ∧ Below w.heap.size w w' := by
  have hix := index_any v l S b at1 w hp h
  obtain ⟨ao, cap, rfl, -⟩ := hp
  clear h
  go_enter Try.func111, Try.ntmps111
  go_wp2_with fail
  refine hix.mono ?_
  rintro e w2 ⟨⟨j, rfl, hj⟩, hb⟩
  go_wp2_with fail
  go_ret
  rw [← hj]
  exact ⟨rfl, hb⟩

set_option maxHeartbeats 1000000 in
theorem fault2_any (v : Value) (l : Pages) (S : Nat → Prop) (w w1 : World) (P : Nat → Prop) (r : Nat) (A : Ab) (h : DkTo w P w1 r A) (hp : Pus w1 S v l) :
    Calls Try.prog 83 #[.pointer (some ⟨r, 0, none⟩), v] w1 fun e w' => e = .returned (.int .i64 (fitsOf A.now.length l)) ∧ Below w1.heap.size w1 w' := by
  have hp' := hp
  obtain ⟨ao, cap, rfl, hc1, hc2, hE⟩ := hp
  have hc2' : cap ≤ 9223372036854775807 := hc2
  obtain ⟨N, hN⟩ : ∃ N, N = A.now.length := ⟨_, rfl⟩
  rw [← hN]
  by_cases h0 : l.length = 0
  · have e : fitsOf N l = 1 := by unfold fitsOf; rw [if_pos h0]
    rw [e, h0]
    clear h hE
    go_enter Try.func83, Try.ntmps83
    go_wp2
    go_ret
    exact ⟨rfl, Below.refl _ _⟩
  by_cases h4 : 400 < l.length
  · have e : fitsOf N l = 4 := by unfold fitsOf; rw [if_neg h0, if_pos h4]
    rw [e]
    have h0' : (l.length : Int) ≠ 0 := by omega
    have h4' : (400 : Int) < l.length := by omega
    clear h hE
    go_enter Try.func83, Try.ntmps83
    go_wp2
    go_ret
    exact ⟨rfl, Below.refl _ _⟩
  obtain ⟨n, hn⟩ : ∃ n, n = l.length := ⟨_, rfl⟩
  have HE := Lib.hid hE
  have HP := Lib.hid hp'
  have HN := Lib.hid hn
  have H4 := Lib.hid h4
  have H0 := Lib.hid h0
  have HNN := Lib.hid hN
  have HX := Lib.hid h
  rw [← hn] at hc1 HP ⊢
  have h0' : (n : Int) ≠ 0 := by omega
  have h4' : ¬ (400 : Int) < n := by omega
  clear hE hn hc2 h0 h4 hN h hp'
  go_enter Try.func83, Try.ntmps83
  go_wp2_with fail
  go_loopw [5, 6, 7, 16] (fun _ _ _ i wr => ∃ k : Nat, k ≤ n ∧ i = .int .i64 k ∧ Below w1.heap.size w1 wr ∧ OkTo N l k) (fun _ _ _ i _ => n - (intOf i).toNat)
  case atStart => exact ⟨0, Nat.zero_le _, rfl, Below.refl _ _, fun i hi h => absurd h (Nat.not_lt_zero _)⟩
  case round =>
    obtain ⟨k, hk, rfl, hb, hO⟩ := hrel
    have HO := Lib.hid hO
    have HB := Lib.hid hb
    clear hO
    by_cases hlt : k < n
    · have hkl : k < l.length := by rw [← HN.out]; exact hlt
      obtain ⟨b, off, rfl, hSb, hA⟩ := HE.out k hkl
      obtain ⟨c0, u, c1, hbs, -⟩ := hA.moved hSb (Moved.of_below hb (fun _ => False)) (fun _ _ h => h)
      obtain ⟨bo, bc, rfl, hb1, hb2, -⟩ := hbs
      have hb2' : bc ≤ 9223372036854775807 := hb2
      obtain ⟨m1, hm1⟩ : ∃ m, m = l[k].2.length := ⟨_, rfl⟩
      obtain ⟨at1, hat⟩ : ∃ m, m = l[k].1 := ⟨_, rfl⟩
      rw [← hm1] at c1 hb1
      rw [← hat] at c0
      have HM1 := Lib.hid hm1
      have HAT := Lib.hid hat
      have hpt := (HP.out.moved (Moved.of_below hb (fun _ => False)) (fun _ _ h => h)).takes k (by omega)
      have HPT := Lib.hid hpt
      clear hm1 hb2 hat hb hA hSb hpt
      obtain ⟨B, hB⟩ : ∃ B, B = (l.take k).any (fun q => q.1 == at1) := ⟨_, rfl⟩
      have HBB := Lib.hid hB
      clear hB
      have hal : Below wr.heap.size wr (wr.alloc (.cells #[.int .i64 at1, .slice bo m1 bc] 139)) := (Below.refl _ wr).alloc (Nat.le_refl _) _
      have hbk := Blk.new wr #[.int .i64 at1, .slice bo m1 bc] 139
      have hcall := contains_any _ (l.take k) S wr.heap.size at1 _ (HPT.out.below hal) (hbk.cell 0)
      rw [← HBB.out] at hcall
      have HCL := Lib.hid hcall
      have HAL := Lib.hid hal
      have HBK := Lib.hid hbk
      clear hal hbk hcall
      go_wp2_with fail
      refine HCL.out.mono ?_
      rintro e w2 ⟨rfl, hb2⟩
      have d0 : w2.cell? ⟨wr.heap.size, 0, none⟩ = some (.int .i64 at1) := (hb2.cell (by simp)).trans (HBK.out.cell 0)
      have d1 : w2.cell? ⟨wr.heap.size, 1, none⟩ = some (.slice bo m1 bc) := (hb2.cell (by simp)).trans (HBK.out.cell 1)
      have HB2 := Lib.hid (HB.out.trans ((HAL.out.trans (hb2.mono HAL.out.size)).mono HB.out.size))
      have hhome := home_any w w2 P r A at1 (HX.out.grow HB2.out)
      rw [← HNN.out] at hhome
      have HH := Lib.hid hhome
      clear hb2 hhome HAL HBK HCL HB c0 c1
      generalize wr.heap.size = pb at d0 d1 ⊢
      cases B
      · by_cases h1 : 401 ≤ at1 ∧ at1 < N
        · have dd : decide (401 ≤ at1 ∧ at1 < (N : Int)) = true := by simpa using h1
          have HH1 := Lib.hid h1
          rw [dd] at HH
          clear h1 dd
          by_cases h3 : (504 : Int) < m1
          · have d3 : decide ((504 : Int) < m1) = true := by simpa using h3
            have bad : fitsOf N l = 1 := fits_bad hkl (by have := H4.out; omega) (by rw [← HAT.out, ← HM1.out]; omega)
            have BAD := Lib.hid bad
            clear bad
            go_wp2_with (go_at_call 113; refine HH.out.mono ?_; rintro e wz ⟨rfl, hwz⟩; replace hwz := hwz.symm; subst hwz)
            go_ret
            exact ⟨by rw [BAD.out]; rfl, HB2.out⟩
          · have d3 : decide ((504 : Int) < m1) = false := by simpa using h3
            go_wp2_with (go_at_call 113; refine HH.out.mono ?_; rintro e wz ⟨rfl, hwz⟩; replace hwz := hwz.symm; subst hwz)
            go_roundw
            case rel =>
              refine ⟨k + 1, by omega, by go_num, HB2.out, fun p hp hpi => ?_⟩
              by_cases e : p < k
              · exact HO.out p hp e
              · obtain rfl : p = k := by omega
                rw [← HAT.out, ← HM1.out]
                refine ⟨HH1.out.1, HH1.out.2, by omega, fun j hj e => ?_⟩
                have hB := HBB.out
                have : (l.take p).any (fun q => q.1 == at1) = true := by
                  rw [List.any_eq_true]
                  refine ⟨l[j], ?_, by simpa using e⟩
                  rw [List.mem_take_iff_getElem]
                  exact ⟨j, by omega, rfl⟩
                rw [this] at hB
                exact absurd hB (by decide)
            case measure => simp [intOf]; omega
        · have dd : decide (401 ≤ at1 ∧ at1 < (N : Int)) = false := by simpa using h1
          rw [dd] at HH
          have bad : fitsOf N l = 1 := fits_bad hkl (by have := H4.out; omega) (by rw [← HAT.out, ← HM1.out]; omega)
          have BAD := Lib.hid bad
          clear bad h1 dd
          go_wp2_with (go_at_call 113; refine HH.out.mono ?_; rintro e wz ⟨rfl, hwz⟩; replace hwz := hwz.symm; subst hwz)
          go_ret
          exact ⟨by rw [BAD.out]; rfl, HB2.out⟩
      · have hany := HBB.out.symm
        rw [List.any_eq_true] at hany
        obtain ⟨q, hq, e⟩ := hany
        rw [List.mem_take_iff_getElem] at hq
        obtain ⟨j, hj, rfl⟩ := hq
        have bad : fitsOf N l = 1 := fits_twice hkl (j := j) (by omega) (by have := H4.out; omega) (by rw [← HAT.out]; simpa using e)
        have BAD := Lib.hid bad
        clear bad e hj HH
        go_wp2_with fail
        go_ret
        exact ⟨by rw [BAD.out]; rfl, HB2.out⟩
    · obtain rfl : k = n := by omega
      go_wp2_with fail
      go_ret
      refine ⟨?_, HB.out⟩
      rw [okTo_all (by rw [← HN.out]; exact HO.out) H0.out (by have := H4.out; omega)]
      rfl
end

section
theorem bodyWs_get (j k : Nat) (l : Pages) (h : k < l.length) : (bodyWs j l)[k]'(by rw [bodyWs_length]; exact h) = (j + k, le l[k].1 8 ++ page l[k].2) := by
  induction l generalizing j k with
  | nil => simp at h
  | cons q t ih =>
    cases k with
    | zero => simp [bodyWs]
    | succ k =>
      have := ih (j + 1) k (by simpa using h)
      simp only [bodyWs, List.getElem_cons_succ, this]
      rw [show j + 1 + k = j + (k + 1) by omega]

def tailOps (l : Pages) : List Dop := [Dop.S, Dop.W 0 (headOf l.length), Dop.S] ++ homesOps l
theorem commit_split (l : Pages) : commitOps l = Wops (bodyWs 1 l) ++ tailOps l := by
  unfold commitOps ph tailOps
  rw [List.append_assoc]
  rfl

theorem Own.front0 (w : World) (base : Nat) : Own w base (.slice none 0 0) [] := ⟨by simp [vbs], .inl ⟨rfl, rfl⟩⟩

theorem bs_magic (w : World) (fr : Nat × Nat) : Bs (w.alloc (.cells #[.int .u8 84, .int .u8 82, .int .u8 73, .int .u8 65, .int .u8 68, .int .u8 76, .int .u8 79, .int .u8 71] 5 fr)) (.slice (some ⟨w.heap.size, 0, none⟩) 8 8) magic := by
  refine ⟨some ⟨w.heap.size, 0, none⟩, 8, rfl, by simp [magic], by simp [maxLen], (fun h => by cases h), fun ad had j u hu => ?_⟩
  cases had
  rw [Addr.add_lit, Nat.zero_add, World.cell?_alloc_mark, ← Array.getElem?_toList]
  exact hu

theorem spare_below {w w' : World} {base : Nat} {v : Value} {L : List UInt8} (h : Spare w w' base (.slice none 0 0) [] v L) : Below w.heap.size w w' := grownBy_below h.grown
end

section
theorem Try.infoPu : (Try.prog.info? 139).map (fun i => (i.zero, i.size, i.bytes)) = some (some (.agg #[.int .i64 0, .slice none 0 0]), 2, 32) := by kernel_rfl

def pcells (l : Pages) (vs : List Value) : List Value := (l.zip vs).flatMap fun p => [.int .i64 p.1.1, p.2]
theorem pcells_at : ∀ (l : Pages) (vs : List Value) (_ : vs.length = l.length) (i : Nat) (hi : i < l.length) (hj : i < vs.length), (pcells l vs)[i * 2]? = some (.int .i64 l[i].1) ∧ (pcells l vs)[i * 2 + 1]? = some vs[i]
  | [], _, _, i, hi, _ => by simp at hi
  | p :: t, [], h, _, _, _ => by simp at h
  | p :: t, v :: vt, h, 0, _, _ => by simp [pcells]
  | p :: t, v :: vt, h, i + 1, hi, hj => by
    have e : pcells (p :: t) (v :: vt) = .int .i64 p.1 :: v :: pcells t vt := rfl
    have := pcells_at t vt (by simpa using h) i (by simpa using hi) (by simpa using hj)
    rw [e, show (i + 1) * 2 = i * 2 + 1 + 1 from by omega]
    simpa using this
theorem pcells_snoc (l : Pages) (vs : List Value) (h : vs.length = l.length) (p : Int × List UInt8) (v : Value) : pcells (l ++ [p]) (vs ++ [v]) = pcells l vs ++ [.int .i64 p.1, v] := by
  unfold pcells
  rw [List.zip_append h.symm]
  simp

/-- A row of the call's own (blocks from w0 on) that reads as l; the pages' bytes lie in blocks from w0 on, or of T. -/
def PRow (T : Nat → Prop) (w0 : Nat) (w : World) (lv : Value) (l : Pages) : Prop :=
  ∃ vs : List Value, vs.length = l.length ∧ w.ownsRow w0 139 2 lv l.length (pcells l vs) ∧ ∀ j (hj : j < l.length) (hv : j < vs.length), Bs w vs[j] l[j].2 ∧ (0 < l[j].2.length → ∀ g, vs[j].ownBlock = some g → T g ∨ (w0 ≤ g ∧ g < w.heap.size ∧ lv.ownBlock ≠ some g))

theorem PRow.nil (T : Nat → Prop) (w0 : Nat) (w : World) : PRow T w0 w (.slice none 0 0) [] := ⟨[], rfl, World.ownsRow_nil _ _ _ _, fun j hj => by simp at hj⟩
theorem PRow.below {T : Nat → Prop} {w0 : Nat} {w w' : World} {lv : Value} {l : Pages} (h : PRow T w0 w lv l) (hb : Below w.heap.size w w') : PRow T w0 w' lv l := by
  obtain ⟨vs, h1, h2, h3⟩ := h
  exact ⟨vs, h1, owns_moved h2 (Moved.of_below hb (fun _ => False)) (fun _ _ h => h), fun j hj hv => ⟨(h3 j hj hv).1.below hb, fun h0 g hg => ((h3 j hj hv).2 h0 g hg).imp_right fun e => ⟨e.1, Nat.lt_of_lt_of_le e.2.1 hb.size, e.2.2⟩⟩⟩
theorem PRow.form {T : Nat → Prop} {w0 : Nat} {w : World} {lv : Value} {l : Pages} (h : PRow T w0 w lv l) : ∃ so cap, lv = .slice so l.length cap ∧ l.length ≤ cap ∧ cap ≤ maxLen := by
  obtain ⟨vs, h1, h2, h3⟩ := h
  exact owns_form h2
theorem PRow.lt {T : Nat → Prop} {w0 : Nat} {w : World} {lv : Value} {l : Pages} (h : PRow T w0 w lv l) : ∀ q, lv.ownBlock = some q → w0 ≤ q ∧ q < w.heap.size := by
  obtain ⟨vs, h1, h2, h3⟩ := h
  exact fun q hq => h2.lt q hq
theorem PRow.pus {T : Nat → Prop} {w0 : Nat} {w : World} {lv : Value} {l : Pages} (h : PRow T w0 w lv l) : Pus w (fun g => T g ∨ (w0 ≤ g ∧ g < w.heap.size)) lv l := by
  obtain ⟨vs, h1, h2, h3⟩ := h
  by_cases h0 : l.length = 0
  · obtain ⟨so, cap, rfl, k1, k2⟩ := owns_form h2
    exact ⟨so, cap, rfl, k1, k2, fun k hk => by omega⟩
  · obtain ⟨g, cap, hsv, -, -⟩ := h2.form (by omega)
    obtain ⟨so, c', e, k1, k2⟩ := owns_form h2
    rw [hsv] at e
    simp only [Value.slice.injEq, true_and] at e
    obtain ⟨rfl, rfl⟩ := e
    subst hsv
    refine ⟨_, cap, rfl, k1, k2, fun k hk => ?_⟩
    have hv : k < vs.length := by omega
    have hlt := h2.lt g rfl
    have c1 := h2.cells (g := g) rfl (k * 2) _ (pcells_at l vs h1 k hk hv).1
    have c2 := h2.cells (g := g) rfl (k * 2 + 1) _ (pcells_at l vs h1 k hk hv).2
    simp only [Addr.add_lit, Nat.zero_add] at c1 c2
    refine ⟨g, 0, rfl, .inr ⟨hlt.1, hlt.2⟩, ?_, vs[k], ?_, (h3 k hk hv).1, fun h0 q hq => ((h3 k hk hv).2 h0 q hq).imp_right fun e => ⟨e.1, e.2.1⟩⟩
    · rw [Nat.zero_add]; exact c1
    · rw [Nat.zero_add]; exact c2

theorem PRow.appended {T : Nat → Prop} {w0 : Nat} {w1 w2 : World} {lv : Value} {l : Pages} {vs : List Value} (h1 : vs.length = l.length)
    (h3 : ∀ j (hj : j < l.length) (hv : j < vs.length), Bs w1 vs[j] l[j].2 ∧ (0 < l[j].2.length → ∀ g, vs[j].ownBlock = some g → T g ∨ (w0 ≤ g ∧ g < w1.heap.size ∧ lv.ownBlock ≠ some g))) (hT : ∀ g, T g → g < w0) (hL : ∀ q, lv.ownBlock = some q → w0 ≤ q)
    (a : Int) (b : List UInt8) (v : Value) (hb : Bs w1 v b) (hv : 0 < b.length → ∀ g, v.ownBlock = some g → T g ∨ (w0 ≤ g ∧ g < w1.heap.size ∧ lv.ownBlock ≠ some g)) (g cap : Nat)
    (k1 : w2.ownsRow w0 139 2 (.slice (some ⟨g, 0, none⟩) (l.length + 1) cap) (l.length + 1) (pcells l vs ++ [.int .i64 a, v])) (k2 : w1.grownBy w2 lv.ownBlock) (k3 : lv.ownBlock = some g ∨ w1.heap.size ≤ g) :
    PRow T w0 w2 (.slice (some ⟨g, 0, none⟩) (l.length + 1) cap) (l ++ [(a, b)]) := by
  have hm : Moved (fun j => lv.ownBlock = some j) w1 w2 := ⟨k2.os, k2.tape, k2.output, k2.size, fun k hk hne => k2.block k hk (fun e => hne e.symm)⟩
  have key : ∀ (u : Value) (c : List UInt8), Bs w1 u c → (0 < c.length → ∀ q, u.ownBlock = some q → T q ∨ (w0 ≤ q ∧ q < w1.heap.size ∧ lv.ownBlock ≠ some q)) → Bs w2 u c ∧ (0 < c.length → ∀ q, u.ownBlock = some q → T q ∨ (w0 ≤ q ∧ q < w2.heap.size ∧ (Value.slice (some ⟨g, 0, none⟩) (l.length + 1) cap).ownBlock ≠ some q)) := by
    intro u c hu hq
    refine ⟨hu.moved0 hm (fun h0 k hk e => ?_), fun h0 q hqq => (hq h0 q hqq).imp_right fun hr => ⟨hr.1, Nat.lt_of_lt_of_le hr.2.1 k2.size, fun e => ?_⟩⟩
    · rcases hq h0 k hk with ht | hr
      · have := hT k ht
        have := hL k e
        omega
      · exact hr.2.2 e
    · simp only [Value.ownBlock, Option.some.injEq] at e
      subst e
      rcases k3 with k3 | k3
      · exact hr.2.2 k3
      · omega
  refine ⟨vs ++ [v], by simp [h1], ?_, fun j hj hv' => ?_⟩
  · rw [pcells_snoc _ _ h1]; simpa using k1
  · by_cases e : j < l.length
    · have hjv : j < vs.length := by omega
      simp only [List.getElem_append_left hjv, List.getElem_append_left e]
      exact key _ _ (h3 j e hjv).1 (h3 j e hjv).2
    · have hj' : j = l.length := by rw [List.length_append] at hj; simp at hj; omega
      subst hj'
      have e1 : (vs ++ [v])[l.length]'hv' = v := by
        rw [List.getElem_append_right (by omega)]; simp [h1]
      have e2 : (l ++ [(a, b)])[l.length]'hj = (a, b) := by
        rw [List.getElem_append_right (Nat.le_refl _)]; simp
      simp only [e1, e2]
      exact key _ _ hb hv

/-- l = append(l, api.Put{a, v}) -/
theorem wpList_append_pu {w : World} {ops : Array Oper} {rest : List Oper} {o : Oper} {a : Act} {Q : Exit → Act → World → Prop} (hgd : o.guard = none) (s x : Operand)
    (ho : o.op = .call { callee := .builtin .append, args := #[s, x], argTypes := #[93, 93] }) (T : Nat → Prop) (w0 : Nat) (hT : ∀ g, T g → g < w0) (hw0 : w0 ≤ w.heap.size)
    (lv : Value) (l : Pages) (hs : a.eval s = lv) (hown : PRow T w0 w lv l)
    (g0 : Nat) (hx : a.eval x = .slice (some ⟨g0, 0, none⟩) 1 1) (at1 : Int) (v : Value) (b : List UInt8) (hb : Bs w v b) (hv : 0 < b.length → ∀ g, v.ownBlock = some g → T g ∨ (w0 ≤ g ∧ g < w.heap.size ∧ lv.ownBlock ≠ some g))
    (hg : Blk w g0 #[.int .i64 at1, v] 139) (hl : l.length ≤ 1073741824)
    (h : ∀ v' w', PRow T w0 w' v' (l ++ [(at1, b)]) → w.grownBy w' lv.ownBlock → (∀ g, lv.ownBlock = some g → w0 ≤ g) → wpList Try.prog ops Q rest (a.put o.dst v') w') :
    wpList Try.prog ops Q (o :: rest) a w := by
  obtain ⟨i0, hi, hz0, hz1, hz2⟩ := info_parts Try.infoPu
  obtain ⟨vs, h1, h2, h3⟩ := hown
  have hv1 : v.oneCell' = true := by
    obtain ⟨ao, c, rfl, -⟩ := hb
    rfl
  refine wpList_append_lies w hgd s x _ ho w0 139 i0 _ 2 32 Try.underlying93 hi hz0 hz1 hz2 rfl (by decide) lv l.length (pcells l vs) hs h2 ⟨g0, 0, none⟩ 1 1 [.int .i64 at1, v] hx rfl ?_ ?_ (by decide) (by simp [maxLen]; omega) (by omega) hw0 _ rfl ?_
  · intro j u hj
    rw [show (⟨g0, 0, none⟩ : Addr).add j = ⟨g0, j, none⟩ from by unfold Addr.add; split <;> simp_all, hg.cell]
    simpa using hj
  · intro u hu
    simp at hu
    rcases hu with rfl | rfl
    · rfl
    · exact hv1
  · intro g cap w' k1 k2 k3 _
    exact h _ w' (PRow.appended h1 h3 hT (fun q hq => (h2.lt q hq).1) at1 b v hb hv g cap k1 k2 (by rcases k3 with k3 | k3; exact .inl k3; exact .inr (by omega))) k2 (fun q hq => (h2.lt q hq).1)

/-! ### The reference's disk, read only -/

/-- Each sector has 512 bytes. -/
def Full (A : Ab) : Prop := ∀ i : Int, A.fault i = 0 → (A.read i).length = 512
theorem Full.of {s : Dsk} (h : ∀ x ∈ s.now, x.size ≤ 512) : Full (abs s) := by
  intro i hi
  unfold Ab.read
  rw [if_pos hi]
  have hr : 0 ≤ i ∧ i < s.now.length := by
    unfold Ab.fault at hi
    rw [abs_len] at hi
    split at hi
    · simp at hi
    · split at hi
      · assumption
      · simp at hi
  have hlt : i.toNat < (s.now.map pad).length := by rw [List.length_map]; omega
  show ((s.now.map pad).getD i.toNat []).length = 512
  rw [List.getD_eq_getElem?_getD, List.getElem?_eq_getElem hlt]
  show ((s.now.map pad)[i.toNat]).length = 512
  rw [List.getElem_map]
  exact pad_length _ (h _ (List.getElem_mem _))
theorem laidF_short {kept : List ByteArray} {l : List (Nat × ByteArray)} (h1 : ∀ x ∈ kept, x.size ≤ 512) (h2 : ∀ p ∈ l, p.2.size ≤ 512) (F : Nat → Bool) : ∀ i, i ≤ l.length → ∀ x ∈ laidF kept l F i, x.size ≤ 512
  | 0, _ => h1
  | i + 1, hi => by
    rw [laidF_step _ _ _ _ (by omega)]
    have ih := laidF_short h1 h2 F i (by omega)
    split
    · intro x hx
      rcases List.mem_or_eq_of_mem_set hx with hx | rfl
      · exact ih x hx
      · exact h2 _ (List.getElem_mem _)
    · exact ih
end

section
def goodStep (out : Pages) (p : Int × List UInt8) : Pages := if out.any (fun q => q.1 == 401 + withinOf p.1 19) then out else out ++ [(401 + withinOf p.1 19, p.2.take 504)]
def goodTo (l : Pages) (k : Nat) : Pages := (l.take k).foldl goodStep []
def goodOf (l : Pages) : Pages := goodTo l 8
theorem goodTo_succ (l : Pages) (k : Nat) (h : k < l.length) : goodTo l (k + 1) = goodStep (goodTo l k) l[k] := by
  unfold goodTo
  rw [List.take_succ_eq_append_getElem h, List.foldl_append]
  rfl

structure GoodL (l : Pages) (k : Nat) : Prop where
  short : l.length ≤ k
  ok : ∀ p ∈ l, 401 ≤ p.1 ∧ p.1 < 420 ∧ p.2.length ≤ 504
  nodup : (l.map (·.1)).Nodup
theorem goodTo_good (l : Pages) : ∀ k, GoodL (goodTo l k) k
  | 0 => ⟨by simp [goodTo], fun p hp => by simp [goodTo] at hp, by simp [goodTo]⟩
  | k + 1 => by
    have ih := goodTo_good l k
    by_cases h : k < l.length
    · rw [goodTo_succ l k h]
      have hr := within_range l[k].1 19 (by decide)
      unfold goodStep
      by_cases hc : (goodTo l k).any (fun q => q.1 == 401 + withinOf l[k].1 19)
      · rw [if_pos hc]
        exact ⟨Nat.le_succ_of_le ih.short, ih.ok, ih.nodup⟩
      · rw [if_neg hc]
        refine ⟨by rw [List.length_append]; have := ih.short; simp; omega, fun p hp => ?_, ?_⟩
        · rcases List.mem_append.1 hp with hp | hp
          · exact ih.ok p hp
          · simp at hp; subst hp
            exact ⟨by show 401 ≤ 401 + _; omega, by show 401 + _ < (420 : Int); omega, by show (List.take 504 _).length ≤ 504; rw [List.length_take]; omega⟩
        · rw [List.map_append, List.nodup_append]
          refine ⟨ih.nodup, by simp, fun a ha b hb e => hc ?_⟩
          simp at hb
          subst hb
          obtain ⟨q, hq, rfl⟩ := List.mem_map.1 ha
          rw [List.any_eq_true]
          exact ⟨q, hq, by simpa using e⟩
    · have e : goodTo l (k + 1) = goodTo l k := by unfold goodTo; rw [List.take_of_length_le (by omega), List.take_of_length_le (by omega)]
      rw [e]
      exact ⟨Nat.le_succ_of_le ih.short, ih.ok, ih.nodup⟩
theorem goodOf_pages (l : Pages) (h : goodOf l ≠ []) : Pagess 420 (goodOf l) := by
  have hg := goodTo_good l 8
  refine ⟨fun e => h (List.eq_nil_of_length_eq_zero e), by have := hg.short; unfold goodOf; omega, fun p hp => ?_, hg.nodup⟩
  have := hg.ok p hp
  exact ⟨this.1, this.2.1, this.2.2⟩

/-- l = append(l, api.Put{a, v}), as one step of a region that draws. -/
theorem step_append_pu {ops : Array Oper} {o : Oper} {a : Act} {w : World} {K : Act → World → Prop} {Q : Exit → Act → World → Prop} {E : Prop} (hgd : o.guard = none) (s x : Operand)
    (ho : o.op = .call { callee := .builtin .append, args := #[s, x], argTypes := #[93, 93] }) (T : Nat → Prop) (w0 : Nat) (hT : ∀ g, T g → g < w0) (hw0 : w0 ≤ w.heap.size)
    (lv : Value) (l : Pages) (hs : a.eval s = lv) (hown : PRow T w0 w lv l)
    (g0 : Nat) (hx : a.eval x = .slice (some ⟨g0, 0, none⟩) 1 1) (at1 : Int) (v : Value) (b : List UInt8) (hb : Bs w v b) (hv : 0 < b.length → ∀ g, v.ownBlock = some g → T g ∨ (w0 ≤ g ∧ g < w.heap.size ∧ lv.ownBlock ≠ some g))
    (hg : Blk w g0 #[.int .i64 at1, v] 139) (hl : l.length ≤ 1073741824)
    (h : ∀ v' w', PRow T w0 w' v' (l ++ [(at1, b)]) → w.grownBy w' lv.ownBlock → (∀ g, lv.ownBlock = some g → w0 ≤ g) → K (a.put o.dst v') w') :
    if Region.wanted o (yielded ops a.tmps) = true then Oper.wp Try.prog o a w K Q else E := by
  obtain ⟨i0, hi, hz0, hz1, hz2⟩ := info_parts Try.infoPu
  obtain ⟨vs, h1, h2, h3⟩ := hown
  have hv1 : v.oneCell' = true := by
    obtain ⟨ao, c, rfl, -⟩ := hb
    rfl
  refine step_append_lies w hgd s x _ ho w0 139 i0 _ 2 32 Try.underlying93 hi hz0 hz1 hz2 rfl (by decide) lv l.length (pcells l vs) hs h2 ⟨g0, 0, none⟩ 1 1 [.int .i64 at1, v] hx rfl ?_ ?_ (by decide) (by simp [maxLen]; omega) (by omega) hw0 _ rfl ?_
  · intro j u hj
    rw [show (⟨g0, 0, none⟩ : Addr).add j = ⟨g0, j, none⟩ from by unfold Addr.add; split <;> simp_all, hg.cell]
    simpa using hj
  · intro u hu
    simp at hu
    rcases hu with rfl | rfl
    · rfl
    · exact hv1
  · intro g cap w' k1 k2 k3 _
    exact h _ w' (PRow.appended h1 h3 hT (fun q hq => (h2.lt q hq).1) at1 b v hb hv g cap k1 k2 (by rcases k3 with k3 | k3; exact .inl k3; exact .inr (by omega))) k2 (fun q hq => (h2.lt q hq).1)
end

section
theorem pagesOf_none {K : List (List UInt8)} {i : Nat} (h : pagesOf K i = none) : ∀ m, i ≤ m → pagesOf K m = none := by
  intro m hm
  induction m with
  | zero => obtain rfl : i = 0 := by omega
            exact h
  | succ m ih =>
    by_cases e : i = m + 1
    · subst e; exact h
    · unfold pagesOf
      rw [ih (by omega)]
theorem pagesOf_length {K : List (List UInt8)} : ∀ (i : Nat) (l : Pages), pagesOf K i = some l → l.length = i ∧ ∀ p ∈ l, 401 ≤ p.1 ∧ p.1 < K.length
  | 0, l, h => by simp [pagesOf] at h; subst h; simp
  | i + 1, l, h => by
    unfold pagesOf at h
    split at h
    · simp at h
    · rename_i l' h'
      have ih := pagesOf_length i l' h'
      split at h
      · rename_i hc
        simp only [Option.some.injEq] at h
        subst h
        refine ⟨by simp [ih.1], fun p hp => ?_⟩
        rcases List.mem_append.1 hp with hp | hp
        · exact ih.2 p hp
        · simp at hp; subst hp; exact hc
      · simp at h

def recOf (A : Ab) (n : Int) : Option Pages → Int × Int × Ab
  | none => (0, 9, A)
  | some l => if (A.run (homesOps l)).1 = 0 then (n, 0, (A.run (homesOps l)).2) else (0, (A.run (homesOps l)).1, (A.run (homesOps l)).2)
end

section
theorem logged_any (at1 : Int) (u : Value) (b : List UInt8) (w : World) (hb : Bs w u b) (hl : b.length ≤ 504) :
    Calls Try.prog 86 #[.agg #[.int .i64 at1, u]] w fun e w' => ∃ v, e = .returned v ∧ Bs w' v (le at1 8 ++ b) ∧ Below w.heap.size w w' := by
  obtain ⟨bo, bc, rfl, hb1, hb2, -⟩ := id hb
  have hb2' : bc ≤ 9223372036854775807 := hb2
  obtain ⟨m1, hm1⟩ : ∃ m, m = b.length := ⟨_, rfl⟩
  have hal : Below w.heap.size w (w.alloc (.cells #[.int .i64 at1, .slice bo b.length bc] 139)) := (Below.refl _ w).alloc (Nat.le_refl _) _
  have hbk := Blk.new w #[.int .i64 at1, .slice bo b.length bc] 139
  have c0 := hbk.cell 0
  have c1 := hbk.cell 1
  have HBS := Lib.hid (hb.below hal)
  have HAL := Lib.hid hal
  rw [← hm1] at hb1 c0 c1 HBS HAL ⊢
  have hlt : w.heap.size < (w.alloc (.cells #[.int .i64 at1, .slice bo m1 bc] 139)).heap.size := by simp
  have HLT := Lib.hid hlt
  clear hbk hb hal hb2 hm1 hlt
  go_enter Try.func86, Try.ntmps86
  go_wp2_with fail
  generalize hw1 : w.alloc _ = w1 at c0 c1 HBS HAL HLT ⊢
  have HW1 := Lib.hid hw1
  replace c0 : w1.cell? ⟨w.heap.size, 0, none⟩ = some (.int .i64 at1) := c0
  replace c1 : w1.cell? ⟨w.heap.size, 1, none⟩ = some (.slice bo m1 bc) := c1
  clear hw1
  go_region_held3 (fun w' => w'.cell? ⟨w.heap.size, 0, none⟩ = some (.int .i64 at1) ∧ w'.cell? ⟨w.heap.size, 1, none⟩ = some (.slice bo m1 bc)) (first | exact ⟨c0, c1⟩ | exact q1 | exact q2)
    (first
      | (go_at_call 88; refine (int_any (.slice none 0 0) [] at1 (by decide) _ (Bs.nil _)).mono ?_; rintro e wi ⟨vi, rfl, hi, hbd⟩; have hbi := (Below.refl w1.heap.size w1).drew.trans hbd; have bi := Lib.hid (HAL.out.trans (hbi.mono HAL.out.size)); have HBI := Lib.hid (HBS.out.below hbi); have HI := Lib.hid (show Own wi w1.heap.size vi ([] ++ le at1 8) from hi); have q1 : wi.cell? ⟨w.heap.size, 0, none⟩ = some (.int .i64 at1) ∧ wi.cell? ⟨w.heap.size, 1, none⟩ = some (.slice bo m1 bc) := ⟨(hbi.cell HLT.out).trans c0, (hbi.cell HLT.out).trans c1⟩)
      | (refine step_append_bytes rfl (.tmp 5) (.tmp 7) rfl w1.heap.size vi _ rfl HI.out _ b rfl HBI.out ?_ ?_ ?_; (rw [List.nil_append, le_length]; omega); (exact hbi.size); intro va wa hva hga; have ba := Lib.hid (bi.out.grown hga bi.out.size (fun q hq => Nat.le_trans HAL.out.size (HI.out.out.lt q hq).1)); have hlk := hga.block w.heap.size (Nat.lt_of_lt_of_le HLT.out hbi.size) (fun e => by have := (HI.out.out.lt _ e.symm).1; have := HLT.out; omega); have q2 : wa.cell? ⟨w.heap.size, 0, none⟩ = some (.int .i64 at1) ∧ wa.cell? ⟨w.heap.size, 1, none⟩ = some (.slice bo m1 bc) := ⟨(World.cell?_of_block (a := ⟨w.heap.size, 0, none⟩) hlk).trans q1.1, (World.cell?_of_block (a := ⟨w.heap.size, 1, none⟩) hlk).trans q1.2⟩))
  go_wp2_with fail
  go_ret
  exact ⟨_, rfl, hva.bs, ba.out⟩

theorem zeros_add (a b : Nat) : zeros a ++ zeros b = zeros (a + b) := by simp [zeros]
theorem sec_page (b : List UInt8) (h : b.length ≤ 504) : sec (page b) = sec b := by
  unfold sec
  rw [page_length b h, page, List.append_assoc, zeros_add]
  congr 2
  omega
theorem sec_body (a : Int) (b : List UInt8) (h : b.length ≤ 504) : sec (le a 8 ++ page b) = sec (le a 8 ++ b) := by
  unfold sec
  rw [List.length_append, List.length_append, le_length, page_length b h, page, List.append_assoc, List.append_assoc, List.append_assoc, zeros_add]
  congr 3
  omega

/-- The first closure of Commit: a body's sector. -/
theorem bodyClo_any (lv : Value) (l : Pages) (S : Nat → Prop) (tb i : Nat) (hi : i < l.length) (w : World) (hp : Pus w S lv l) (hc : w.cell? ⟨tb, 0, none⟩ = some lv) (h5 : l[i].2.length ≤ 504) (hl : l.length ≤ 1000) :
    Calls Try.prog 85 #[.int .i64 i, .pointer (some ⟨tb, 0, none⟩)] w fun e w' => ∃ v, e = .returned (.tuple #[.int .i64 ((1 + i : Nat) : Int), v]) ∧ Bs w' v (le l[i].1 8 ++ l[i].2) ∧ Below w.heap.size w w' := by
  obtain ⟨ao, cap, rfl, hc1, hc2, hE⟩ := hp
  have hc2' : cap ≤ 9223372036854775807 := hc2
  obtain ⟨b, off, rfl, hSb, c0, u, c1, hbs, -⟩ := hE i hi
  have hlog := logged_any l[i].1 u l[i].2 w hbs h5
  obtain ⟨bo, bc, rfl, -⟩ := id hbs
  obtain ⟨n, hn⟩ : ∃ n, n = l.length := ⟨_, rfl⟩
  obtain ⟨at1, hat⟩ : ∃ m : Int, m = l[i].1 := ⟨_, rfl⟩
  obtain ⟨bs, hbb⟩ : ∃ m, m = l[i].2 := ⟨_, rfl⟩
  obtain ⟨m1, hm1⟩ : ∃ m, m = bs.length := ⟨_, rfl⟩
  rw [← hat] at c0 hlog ⊢
  rw [← hbb] at c1 hlog ⊢
  rw [← hm1] at c1 hlog
  rw [← hn] at hc hc1 hl hi
  have HLOG := Lib.hid hlog
  clear hE hbs hn hat hbb hm1 hSb hlog h5 hc2
  go_enter Try.func85, Try.ntmps85
  go_wp2_with fail
  refine HLOG.out.mono ?_
  rintro e w2 ⟨v, rfl, hv, hb⟩
  go_wp2_with fail
  go_ret2
  exact ⟨_, rfl, hv, hb⟩

/-- The second: the head. -/
theorem headClo_any (ao : Option Addr) (n cap : Nat) (tb : Nat) (w : World) (hc : w.cell? ⟨tb, 0, none⟩ = some (.slice ao n cap)) (i : Int) :
    Calls Try.prog 87 #[.int .i64 i, .pointer (some ⟨tb, 0, none⟩)] w fun e w' => ∃ v, e = .returned (.tuple #[.int .i64 0, v]) ∧ Bs w' v (headOf n) ∧ Below w.heap.size w w' := by
  have kc := fun (w : World) (C : Array Value) (n c : Nat) => Lib.run_convert_bytes_const (P := Try.prog) w 37 5 C n c Try.underlying37 Try.underlying5
  have hlt := World.block_lt_of_cell? w _ hc
  have hal := fun (C : Array Value) (fr : Nat × Nat) => (Below.refl w.heap.size w).alloc (Nat.le_refl _) (.cells C 5 fr)
  have hc2 := fun (C : Array Value) (fr : Nat × Nat) => ((hal C fr).cell (p := ⟨tb, 0, none⟩) hlt).trans hc
  have HAL := Lib.hid hal
  clear hlt hal
  go_enter Try.func87, Try.ntmps87
  go_wp2_with fail
  refine (int_any _ magic n (by decide) _ (bs_magic _ _)).mono ?_
  rintro e w2 ⟨v, rfl, hv, hb⟩
  have HB := Lib.hid ((HAL.out _ _).trans (hb.mono (HAL.out _ _).size))
  have HV := Lib.hid hv.bs
  clear hv hb hc2
  go_wp2_with fail
  go_ret2
  exact ⟨_, rfl, HV.out, HB.out⟩

/-- The first closure of settle: a home. -/
theorem homeClo_any (lv : Value) (l : Pages) (S : Nat → Prop) (tb i : Nat) (hi : i < l.length) (w : World) (hp : Pus w S lv l) (hc : w.cell? ⟨tb, 0, none⟩ = some lv) :
    Calls Try.prog 105 #[.int .i64 i, .pointer (some ⟨tb, 0, none⟩)] w fun e w' => ∃ v, e = .returned (.tuple #[.int .i64 l[i].1, v]) ∧ Bs w' v l[i].2 ∧ Below w.heap.size w w' := by
  obtain ⟨ao, cap, rfl, hc1, hc2, hE⟩ := hp
  have hc2' : cap ≤ 9223372036854775807 := hc2
  obtain ⟨b, off, rfl, hSb, c0, u, c1, hbs, -⟩ := hE i hi
  have HBS := Lib.hid hbs
  obtain ⟨bo, bc, rfl, -⟩ := hbs
  obtain ⟨n, hn⟩ : ∃ n, n = l.length := ⟨_, rfl⟩
  obtain ⟨at1, hat⟩ : ∃ m : Int, m = l[i].1 := ⟨_, rfl⟩
  obtain ⟨bs, hbb⟩ : ∃ m, m = l[i].2 := ⟨_, rfl⟩
  obtain ⟨m1, hm1⟩ : ∃ m, m = bs.length := ⟨_, rfl⟩
  rw [← hat] at c0 ⊢
  rw [← hbb] at c1 HBS ⊢
  rw [← hm1] at c1 HBS
  rw [← hn] at hc hc1 hi
  clear hE hn hat hbb hm1 hSb hc2
  go_enter Try.func105, Try.ntmps105
  go_wp2_with fail
  go_quiet (fail)
  go_wp2_with fail
  go_ret2
  exact ⟨_, rfl, HBS.out, draws (Below.refl _ _) _⟩

/-- The second: the head, made noughts. -/
theorem noHeadClo_any (w : World) (i : Int) :
    Calls Try.prog 106 #[.int .i64 i] w fun e w' => ∃ v, e = .returned (.tuple #[.int .i64 0, v]) ∧ Bs w' v [] ∧ Below w.heap.size w w' := by
  go_enter Try.func106, Try.ntmps106
  go_wp2_with fail
  go_ret2
  exact ⟨_, rfl, Bs.nil _, Below.refl _ _⟩
end

section
/-- The frame of synced at its label. -/
def SyncedOut (e : Int) (a' : Act) : Prop := ∃ u0 u1 u2 u3 u4 u5 u6 u8 u9 u10 u11 u12 u13 u14 u15 u16 u17 u18 u19 u20 u21 u22 u23 u24 u25 u26 u27 u28 u29 u30 : Value, a' = { tmps := #[u0, u1, u2, u3, u4, u5, u6, .int .i64 e, u8, u9, u10, u11, u12, u13, u14, u15, u16, u17, u18, u19, u20, u21, u22, u23, u24, u25, u26, u27, u28, u29, u30], defers := [] }

theorem write_alike {A : Ab} {i : Int} {b b' : List UInt8} (h : sec b = sec b') (h1 : b.length ≤ 512) (h2 : b'.length ≤ 512) : A.write i b = A.write i b' ∧ A.writeErr i b = A.writeErr i b' := by
  unfold Ab.write Ab.writeErr
  rw [h]
  have e1 : (512 < b.length) = False := by simp; omega
  have e2 : (512 < b'.length) = False := by simp; omega
  have e3 : (b.length ≤ 512) = True := by simp [h1]
  have e4 : (b'.length ≤ 512) = True := by simp [h2]
  simp only [e1, e2, e3, e4]
  exact ⟨trivial, trivial⟩

set_option maxHeartbeats 1000000 in
theorem synced_body (cp : Value) (w : World) (P : Nat → Prop) (r : Nat) (A : Ab) (h : DkA w P r A) (ws : List (Nat × List UInt8)) (m : Int) (hm : m = ws.length) (hln : ws.length ≤ 400) (hs : Small A 1000000) (hw : ∀ p ∈ ws, p.2.length ≤ 512)
    (hf : ∀ i (hi : i < ws.length) w', Moved P w w' → Calls Try.prog 85 #[.int .i64 i, cp] w' fun e w'' => ∃ v b, e = .returned (.tuple #[.int .i64 (ws[i].1 : Nat), v]) ∧ Bs w'' v b ∧ b.length ≤ 512 ∧ sec b = sec ws[i].2 ∧ Below w'.heap.size w' w'') :
    Calls Try.prog 84 #[.pointer (some ⟨r, 0, none⟩), .int .i64 m, .func (.func 85) #[] #[cp]] w fun e w' => e = .returned (.int .i64 (A.run (ph ws)).1) ∧ DkTo w P w' r (A.run (ph ws)).2 := by
  subst hm
  obtain ⟨n, hn⟩ : ∃ n, n = ws.length := ⟨_, rfl⟩
  have HN := Lib.hid hn
  have H0 : Hid (DkTo w P w r A) := DkTo.refl h
  have HS := Lib.hid hs
  have HW := Lib.hid hw
  have HF := Lib.hid hf
  have HPH := Lib.hid (show ph ws = Wops ws ++ [Dop.S] from rfl)
  rw [← hn] at hln ⊢
  clear hn h hs hw hf
  go_enter Try.func84, Try.ntmps84
  go_wp2_with fail
  refine wp_scope_jumps 0 (fun a' w' => SyncedOut (A.run (ph ws)).1 a' ∧ DkTo w P w' r (A.run (ph ws)).2) (fun _ _ => 0) rfl ?_ ?_
  · go_wp2_with fail
    go_loopw [7, 8, 9, 10, 12] (fun e _ _ _ i wr => ∃ k : Nat, k ≤ n ∧ i = .int .i64 k ∧ e = .int .i64 0 ∧ ∃ Ak, A.run (Wops (ws.take k)) = (0, Ak) ∧ DkTo w P wr r Ak ∧ Small Ak (1000000 + k)) (fun _ _ _ _ i _ => n - (intOf i).toNat)
    case atStart => exact ⟨0, Nat.zero_le _, rfl, rfl, A, rfl, H0.out, HS.out⟩
    case round =>
      obtain ⟨k, hk, rfl, rfl, Ak, hrun, hR, hsm⟩ := hrel
      have HRun := Lib.hid hrun
      have HA := Lib.hid hR
      have HSM := Lib.hid hsm
      clear hrun hR hsm
      by_cases hlt : k < n
      · have hkl : k < ws.length := by rw [← HN.out]; exact hlt
        obtain ⟨Pk, -, hM, -⟩ := id HA.out
        have hcl := HF.out k hkl _ hM
        have hl := HW.out _ (List.getElem_mem hkl)
        have ok := run_take_ok hkl HRun.out
        have bad := fun he => run_take_bad hkl HRun.out he [Dop.S]
        rw [← HPH.out] at bad
        obtain ⟨at1, hat⟩ : ∃ m : Nat, m = ws[k].1 := ⟨_, rfl⟩
        obtain ⟨bs, hbb⟩ : ∃ m, m = ws[k].2 := ⟨_, rfl⟩
        rw [← hbb] at hcl hl
        rw [← hat] at hcl
        rw [← hat, ← hbb] at ok bad
        have HCL := Lib.hid hcl
        have OK := Lib.hid ok
        have BAD := Lib.hid bad
        have HL := Lib.hid hl
        clear ok bad hcl hl hat hbb hM
        go_wp2_with fail
        refine HCL.out.mono ?_
        rintro e w2 ⟨v, b, rfl, hb, hbl, hsec, hbw⟩
        have HA2 := Lib.hid (HA.out.grow hbw)
        have HB := Lib.hid hb
        obtain ⟨al1, al2⟩ := write_alike (A := Ak) (i := (at1 : Int)) hsec hbl HL.out
        have hwr := to_write (at1 : Int) v b HA2.out hb (HSM.out.mono (by omega))
        rw [al1, al2] at hwr
        obtain ⟨er, her⟩ : ∃ er, er = Ak.writeErr at1 bs := ⟨_, rfl⟩
        rw [← her] at hwr
        have HWR := Lib.hid hwr
        have HER := Lib.hid her
        clear hb hbl hsec hbw al1 al2 hwr her HCL
        go_wp2_with fail
        refine HWR.out.mono ?_
        rintro e w3 ⟨rfl, hw3⟩
        have HW3 := Lib.hid hw3
        clear hw3 HWR
        cases he : er == 0
        · have hne : (er != 0) = true := by rw [bne, he]; rfl
          go_wp2_with fail
          have hb := BAD.out (by rw [← HER.out]; simpa using he)
          rw [← HER.out] at hb
          have HBB := Lib.hid hb
          clear hb
          go_step3
          refine ⟨rfl, ?_, ?_⟩
          · rw [HBB.out]; exact ⟨_, _, _, _, _, _, _, _, _, _, _, _, _, _, _, _, _, _, _, _, _, _, _, _, _, _, _, _, _, _, rfl⟩
          · rw [HBB.out]; exact HW3.out
        · have hne : (er != 0) = false := by rw [bne, he]; rfl
          obtain rfl : er = 0 := by simpa using he
          go_wp2_with fail
          go_roundw
          case rel => exact ⟨k + 1, by omega, by go_num, rfl, _, OK.out HER.out.symm, HW3.out, HSM.out.write _ _⟩
          case measure => simp [intOf]; omega
      · obtain rfl : k = n := by omega
        have hrest := run_take_all (by rw [HN.out]; exact Nat.le_refl _) HRun.out [Dop.S]
        rw [← HPH.out] at hrest
        have hsy := to_sync HA.out (HSM.out.mono (by omega))
        obtain ⟨er, her⟩ : ∃ er, er = Ak.syncErr := ⟨_, rfl⟩
        rw [← her] at hsy
        have HSY := Lib.hid hsy
        have hfin : A.run (ph ws) = (er, Ak.sync) := by
          rw [hrest, her]
          show (if Ak.syncErr = 0 then _ else _) = _
          split
          · rename_i h; rw [h]; rfl
          · rfl
        have HFIN := Lib.hid hfin
        clear hrest hsy her hfin
        go_wp2_with fail
        refine HSY.out.mono ?_
        rintro e w3 ⟨rfl, hw3⟩
        go_wp2_with fail
        go_step3
        go_wp2
        simp only [Exit.jump]
        go_ret
        rw [HFIN.out]
        exact ⟨rfl, hw3⟩
  · rintro a' w' ⟨⟨u0, u1, u2, u3, u4, u5, u6, u8, u9, u10, u11, u12, u13, u14, u15, u16, u17, u18, u19, u20, u21, u22, u23, u24, u25, u26, u27, u28, u29, u30, rfl⟩, hw3⟩
    go_wp2
    simp only [Exit.jump]
    go_ret
    exact ⟨rfl, hw3⟩


set_option maxHeartbeats 1000000 in
theorem synced_head (cp : Value) (w : World) (P : Nat → Prop) (r : Nat) (A : Ab) (h : DkA w P r A) (ws : List (Nat × List UInt8)) (m : Int) (hm : m = ws.length) (hln : ws.length ≤ 400) (hs : Small A 1000000) (hw : ∀ p ∈ ws, p.2.length ≤ 512)
    (hf : ∀ i (hi : i < ws.length) w', Moved P w w' → Calls Try.prog 87 #[.int .i64 i, cp] w' fun e w'' => ∃ v b, e = .returned (.tuple #[.int .i64 (ws[i].1 : Nat), v]) ∧ Bs w'' v b ∧ b.length ≤ 512 ∧ sec b = sec ws[i].2 ∧ Below w'.heap.size w' w'') :
    Calls Try.prog 84 #[.pointer (some ⟨r, 0, none⟩), .int .i64 m, .func (.func 87) #[] #[cp]] w fun e w' => e = .returned (.int .i64 (A.run (ph ws)).1) ∧ DkTo w P w' r (A.run (ph ws)).2 := by
  subst hm
  obtain ⟨n, hn⟩ : ∃ n, n = ws.length := ⟨_, rfl⟩
  have HN := Lib.hid hn
  have H0 : Hid (DkTo w P w r A) := DkTo.refl h
  have HS := Lib.hid hs
  have HW := Lib.hid hw
  have HF := Lib.hid hf
  have HPH := Lib.hid (show ph ws = Wops ws ++ [Dop.S] from rfl)
  rw [← hn] at hln ⊢
  clear hn h hs hw hf
  go_enter Try.func84, Try.ntmps84
  go_wp2_with fail
  refine wp_scope_jumps 0 (fun a' w' => SyncedOut (A.run (ph ws)).1 a' ∧ DkTo w P w' r (A.run (ph ws)).2) (fun _ _ => 0) rfl ?_ ?_
  · go_wp2_with fail
    go_loopw [7, 8, 9, 10, 12] (fun e _ _ _ i wr => ∃ k : Nat, k ≤ n ∧ i = .int .i64 k ∧ e = .int .i64 0 ∧ ∃ Ak, A.run (Wops (ws.take k)) = (0, Ak) ∧ DkTo w P wr r Ak ∧ Small Ak (1000000 + k)) (fun _ _ _ _ i _ => n - (intOf i).toNat)
    case atStart => exact ⟨0, Nat.zero_le _, rfl, rfl, A, rfl, H0.out, HS.out⟩
    case round =>
      obtain ⟨k, hk, rfl, rfl, Ak, hrun, hR, hsm⟩ := hrel
      have HRun := Lib.hid hrun
      have HA := Lib.hid hR
      have HSM := Lib.hid hsm
      clear hrun hR hsm
      by_cases hlt : k < n
      · have hkl : k < ws.length := by rw [← HN.out]; exact hlt
        obtain ⟨Pk, -, hM, -⟩ := id HA.out
        have hcl := HF.out k hkl _ hM
        have hl := HW.out _ (List.getElem_mem hkl)
        have ok := run_take_ok hkl HRun.out
        have bad := fun he => run_take_bad hkl HRun.out he [Dop.S]
        rw [← HPH.out] at bad
        obtain ⟨at1, hat⟩ : ∃ m : Nat, m = ws[k].1 := ⟨_, rfl⟩
        obtain ⟨bs, hbb⟩ : ∃ m, m = ws[k].2 := ⟨_, rfl⟩
        rw [← hbb] at hcl hl
        rw [← hat] at hcl
        rw [← hat, ← hbb] at ok bad
        have HCL := Lib.hid hcl
        have OK := Lib.hid ok
        have BAD := Lib.hid bad
        have HL := Lib.hid hl
        clear ok bad hcl hl hat hbb hM
        go_wp2_with fail
        refine HCL.out.mono ?_
        rintro e w2 ⟨v, b, rfl, hb, hbl, hsec, hbw⟩
        have HA2 := Lib.hid (HA.out.grow hbw)
        have HB := Lib.hid hb
        obtain ⟨al1, al2⟩ := write_alike (A := Ak) (i := (at1 : Int)) hsec hbl HL.out
        have hwr := to_write (at1 : Int) v b HA2.out hb (HSM.out.mono (by omega))
        rw [al1, al2] at hwr
        obtain ⟨er, her⟩ : ∃ er, er = Ak.writeErr at1 bs := ⟨_, rfl⟩
        rw [← her] at hwr
        have HWR := Lib.hid hwr
        have HER := Lib.hid her
        clear hb hbl hsec hbw al1 al2 hwr her HCL
        go_wp2_with fail
        refine HWR.out.mono ?_
        rintro e w3 ⟨rfl, hw3⟩
        have HW3 := Lib.hid hw3
        clear hw3 HWR
        cases he : er == 0
        · have hne : (er != 0) = true := by rw [bne, he]; rfl
          go_wp2_with fail
          have hb := BAD.out (by rw [← HER.out]; simpa using he)
          rw [← HER.out] at hb
          have HBB := Lib.hid hb
          clear hb
          go_step3
          refine ⟨rfl, ?_, ?_⟩
          · rw [HBB.out]; exact ⟨_, _, _, _, _, _, _, _, _, _, _, _, _, _, _, _, _, _, _, _, _, _, _, _, _, _, _, _, _, _, rfl⟩
          · rw [HBB.out]; exact HW3.out
        · have hne : (er != 0) = false := by rw [bne, he]; rfl
          obtain rfl : er = 0 := by simpa using he
          go_wp2_with fail
          go_roundw
          case rel => exact ⟨k + 1, by omega, by go_num, rfl, _, OK.out HER.out.symm, HW3.out, HSM.out.write _ _⟩
          case measure => simp [intOf]; omega
      · obtain rfl : k = n := by omega
        have hrest := run_take_all (by rw [HN.out]; exact Nat.le_refl _) HRun.out [Dop.S]
        rw [← HPH.out] at hrest
        have hsy := to_sync HA.out (HSM.out.mono (by omega))
        obtain ⟨er, her⟩ : ∃ er, er = Ak.syncErr := ⟨_, rfl⟩
        rw [← her] at hsy
        have HSY := Lib.hid hsy
        have hfin : A.run (ph ws) = (er, Ak.sync) := by
          rw [hrest, her]
          show (if Ak.syncErr = 0 then _ else _) = _
          split
          · rename_i h; rw [h]; rfl
          · rfl
        have HFIN := Lib.hid hfin
        clear hrest hsy her hfin
        go_wp2_with fail
        refine HSY.out.mono ?_
        rintro e w3 ⟨rfl, hw3⟩
        go_wp2_with fail
        go_step3
        go_wp2
        simp only [Exit.jump]
        go_ret
        rw [HFIN.out]
        exact ⟨rfl, hw3⟩
  · rintro a' w' ⟨⟨u0, u1, u2, u3, u4, u5, u6, u8, u9, u10, u11, u12, u13, u14, u15, u16, u17, u18, u19, u20, u21, u22, u23, u24, u25, u26, u27, u28, u29, u30, rfl⟩, hw3⟩
    go_wp2
    simp only [Exit.jump]
    go_ret
    exact ⟨rfl, hw3⟩


set_option maxHeartbeats 1000000 in
theorem synced_home (cp : Value) (w : World) (P : Nat → Prop) (r : Nat) (A : Ab) (h : DkA w P r A) (ws : List (Nat × List UInt8)) (m : Int) (hm : m = ws.length) (hln : ws.length ≤ 400) (hs : Small A 1000000) (hw : ∀ p ∈ ws, p.2.length ≤ 512)
    (hf : ∀ i (hi : i < ws.length) w', Moved P w w' → Calls Try.prog 105 #[.int .i64 i, cp] w' fun e w'' => ∃ v b, e = .returned (.tuple #[.int .i64 (ws[i].1 : Nat), v]) ∧ Bs w'' v b ∧ b.length ≤ 512 ∧ sec b = sec ws[i].2 ∧ Below w'.heap.size w' w'') :
    Calls Try.prog 84 #[.pointer (some ⟨r, 0, none⟩), .int .i64 m, .func (.func 105) #[] #[cp]] w fun e w' => e = .returned (.int .i64 (A.run (ph ws)).1) ∧ DkTo w P w' r (A.run (ph ws)).2 := by
  subst hm
  obtain ⟨n, hn⟩ : ∃ n, n = ws.length := ⟨_, rfl⟩
  have HN := Lib.hid hn
  have H0 : Hid (DkTo w P w r A) := DkTo.refl h
  have HS := Lib.hid hs
  have HW := Lib.hid hw
  have HF := Lib.hid hf
  have HPH := Lib.hid (show ph ws = Wops ws ++ [Dop.S] from rfl)
  rw [← hn] at hln ⊢
  clear hn h hs hw hf
  go_enter Try.func84, Try.ntmps84
  go_wp2_with fail
  refine wp_scope_jumps 0 (fun a' w' => SyncedOut (A.run (ph ws)).1 a' ∧ DkTo w P w' r (A.run (ph ws)).2) (fun _ _ => 0) rfl ?_ ?_
  · go_wp2_with fail
    go_loopw [7, 8, 9, 10, 12] (fun e _ _ _ i wr => ∃ k : Nat, k ≤ n ∧ i = .int .i64 k ∧ e = .int .i64 0 ∧ ∃ Ak, A.run (Wops (ws.take k)) = (0, Ak) ∧ DkTo w P wr r Ak ∧ Small Ak (1000000 + k)) (fun _ _ _ _ i _ => n - (intOf i).toNat)
    case atStart => exact ⟨0, Nat.zero_le _, rfl, rfl, A, rfl, H0.out, HS.out⟩
    case round =>
      obtain ⟨k, hk, rfl, rfl, Ak, hrun, hR, hsm⟩ := hrel
      have HRun := Lib.hid hrun
      have HA := Lib.hid hR
      have HSM := Lib.hid hsm
      clear hrun hR hsm
      by_cases hlt : k < n
      · have hkl : k < ws.length := by rw [← HN.out]; exact hlt
        obtain ⟨Pk, -, hM, -⟩ := id HA.out
        have hcl := HF.out k hkl _ hM
        have hl := HW.out _ (List.getElem_mem hkl)
        have ok := run_take_ok hkl HRun.out
        have bad := fun he => run_take_bad hkl HRun.out he [Dop.S]
        rw [← HPH.out] at bad
        obtain ⟨at1, hat⟩ : ∃ m : Nat, m = ws[k].1 := ⟨_, rfl⟩
        obtain ⟨bs, hbb⟩ : ∃ m, m = ws[k].2 := ⟨_, rfl⟩
        rw [← hbb] at hcl hl
        rw [← hat] at hcl
        rw [← hat, ← hbb] at ok bad
        have HCL := Lib.hid hcl
        have OK := Lib.hid ok
        have BAD := Lib.hid bad
        have HL := Lib.hid hl
        clear ok bad hcl hl hat hbb hM
        go_wp2_with fail
        refine HCL.out.mono ?_
        rintro e w2 ⟨v, b, rfl, hb, hbl, hsec, hbw⟩
        have HA2 := Lib.hid (HA.out.grow hbw)
        have HB := Lib.hid hb
        obtain ⟨al1, al2⟩ := write_alike (A := Ak) (i := (at1 : Int)) hsec hbl HL.out
        have hwr := to_write (at1 : Int) v b HA2.out hb (HSM.out.mono (by omega))
        rw [al1, al2] at hwr
        obtain ⟨er, her⟩ : ∃ er, er = Ak.writeErr at1 bs := ⟨_, rfl⟩
        rw [← her] at hwr
        have HWR := Lib.hid hwr
        have HER := Lib.hid her
        clear hb hbl hsec hbw al1 al2 hwr her HCL
        go_wp2_with fail
        refine HWR.out.mono ?_
        rintro e w3 ⟨rfl, hw3⟩
        have HW3 := Lib.hid hw3
        clear hw3 HWR
        cases he : er == 0
        · have hne : (er != 0) = true := by rw [bne, he]; rfl
          go_wp2_with fail
          have hb := BAD.out (by rw [← HER.out]; simpa using he)
          rw [← HER.out] at hb
          have HBB := Lib.hid hb
          clear hb
          go_step3
          refine ⟨rfl, ?_, ?_⟩
          · rw [HBB.out]; exact ⟨_, _, _, _, _, _, _, _, _, _, _, _, _, _, _, _, _, _, _, _, _, _, _, _, _, _, _, _, _, _, rfl⟩
          · rw [HBB.out]; exact HW3.out
        · have hne : (er != 0) = false := by rw [bne, he]; rfl
          obtain rfl : er = 0 := by simpa using he
          go_wp2_with fail
          go_roundw
          case rel => exact ⟨k + 1, by omega, by go_num, rfl, _, OK.out HER.out.symm, HW3.out, HSM.out.write _ _⟩
          case measure => simp [intOf]; omega
      · obtain rfl : k = n := by omega
        have hrest := run_take_all (by rw [HN.out]; exact Nat.le_refl _) HRun.out [Dop.S]
        rw [← HPH.out] at hrest
        have hsy := to_sync HA.out (HSM.out.mono (by omega))
        obtain ⟨er, her⟩ : ∃ er, er = Ak.syncErr := ⟨_, rfl⟩
        rw [← her] at hsy
        have HSY := Lib.hid hsy
        have hfin : A.run (ph ws) = (er, Ak.sync) := by
          rw [hrest, her]
          show (if Ak.syncErr = 0 then _ else _) = _
          split
          · rename_i h; rw [h]; rfl
          · rfl
        have HFIN := Lib.hid hfin
        clear hrest hsy her hfin
        go_wp2_with fail
        refine HSY.out.mono ?_
        rintro e w3 ⟨rfl, hw3⟩
        go_wp2_with fail
        go_step3
        go_wp2
        simp only [Exit.jump]
        go_ret
        rw [HFIN.out]
        exact ⟨rfl, hw3⟩
  · rintro a' w' ⟨⟨u0, u1, u2, u3, u4, u5, u6, u8, u9, u10, u11, u12, u13, u14, u15, u16, u17, u18, u19, u20, u21, u22, u23, u24, u25, u26, u27, u28, u29, u30, rfl⟩, hw3⟩
    go_wp2
    simp only [Exit.jump]
    go_ret
    exact ⟨rfl, hw3⟩


set_option maxHeartbeats 1000000 in
theorem synced_bare (w : World) (P : Nat → Prop) (r : Nat) (A : Ab) (h : DkA w P r A) (ws : List (Nat × List UInt8)) (m : Int) (hm : m = ws.length) (hln : ws.length ≤ 400) (hs : Small A 1000000) (hw : ∀ p ∈ ws, p.2.length ≤ 512)
    (hf : ∀ i (hi : i < ws.length) w', Moved P w w' → Calls Try.prog 106 #[.int .i64 i] w' fun e w'' => ∃ v b, e = .returned (.tuple #[.int .i64 (ws[i].1 : Nat), v]) ∧ Bs w'' v b ∧ b.length ≤ 512 ∧ sec b = sec ws[i].2 ∧ Below w'.heap.size w' w'') :
    Calls Try.prog 84 #[.pointer (some ⟨r, 0, none⟩), .int .i64 m, .func (.func 106) #[] #[]] w fun e w' => e = .returned (.int .i64 (A.run (ph ws)).1) ∧ DkTo w P w' r (A.run (ph ws)).2 := by
  subst hm
  obtain ⟨n, hn⟩ : ∃ n, n = ws.length := ⟨_, rfl⟩
  have HN := Lib.hid hn
  have H0 : Hid (DkTo w P w r A) := DkTo.refl h
  have HS := Lib.hid hs
  have HW := Lib.hid hw
  have HF := Lib.hid hf
  have HPH := Lib.hid (show ph ws = Wops ws ++ [Dop.S] from rfl)
  rw [← hn] at hln ⊢
  clear hn h hs hw hf
  go_enter Try.func84, Try.ntmps84
  go_wp2_with fail
  refine wp_scope_jumps 0 (fun a' w' => SyncedOut (A.run (ph ws)).1 a' ∧ DkTo w P w' r (A.run (ph ws)).2) (fun _ _ => 0) rfl ?_ ?_
  · go_wp2_with fail
    go_loopw [7, 8, 9, 10, 12] (fun e _ _ _ i wr => ∃ k : Nat, k ≤ n ∧ i = .int .i64 k ∧ e = .int .i64 0 ∧ ∃ Ak, A.run (Wops (ws.take k)) = (0, Ak) ∧ DkTo w P wr r Ak ∧ Small Ak (1000000 + k)) (fun _ _ _ _ i _ => n - (intOf i).toNat)
    case atStart => exact ⟨0, Nat.zero_le _, rfl, rfl, A, rfl, H0.out, HS.out⟩
    case round =>
      obtain ⟨k, hk, rfl, rfl, Ak, hrun, hR, hsm⟩ := hrel
      have HRun := Lib.hid hrun
      have HA := Lib.hid hR
      have HSM := Lib.hid hsm
      clear hrun hR hsm
      by_cases hlt : k < n
      · have hkl : k < ws.length := by rw [← HN.out]; exact hlt
        obtain ⟨Pk, -, hM, -⟩ := id HA.out
        have hcl := HF.out k hkl _ hM
        have hl := HW.out _ (List.getElem_mem hkl)
        have ok := run_take_ok hkl HRun.out
        have bad := fun he => run_take_bad hkl HRun.out he [Dop.S]
        rw [← HPH.out] at bad
        obtain ⟨at1, hat⟩ : ∃ m : Nat, m = ws[k].1 := ⟨_, rfl⟩
        obtain ⟨bs, hbb⟩ : ∃ m, m = ws[k].2 := ⟨_, rfl⟩
        rw [← hbb] at hcl hl
        rw [← hat] at hcl
        rw [← hat, ← hbb] at ok bad
        have HCL := Lib.hid hcl
        have OK := Lib.hid ok
        have BAD := Lib.hid bad
        have HL := Lib.hid hl
        clear ok bad hcl hl hat hbb hM
        go_wp2_with fail
        refine HCL.out.mono ?_
        rintro e w2 ⟨v, b, rfl, hb, hbl, hsec, hbw⟩
        have HA2 := Lib.hid (HA.out.grow hbw)
        have HB := Lib.hid hb
        obtain ⟨al1, al2⟩ := write_alike (A := Ak) (i := (at1 : Int)) hsec hbl HL.out
        have hwr := to_write (at1 : Int) v b HA2.out hb (HSM.out.mono (by omega))
        rw [al1, al2] at hwr
        obtain ⟨er, her⟩ : ∃ er, er = Ak.writeErr at1 bs := ⟨_, rfl⟩
        rw [← her] at hwr
        have HWR := Lib.hid hwr
        have HER := Lib.hid her
        clear hb hbl hsec hbw al1 al2 hwr her HCL
        go_wp2_with fail
        refine HWR.out.mono ?_
        rintro e w3 ⟨rfl, hw3⟩
        have HW3 := Lib.hid hw3
        clear hw3 HWR
        cases he : er == 0
        · have hne : (er != 0) = true := by rw [bne, he]; rfl
          go_wp2_with fail
          have hb := BAD.out (by rw [← HER.out]; simpa using he)
          rw [← HER.out] at hb
          have HBB := Lib.hid hb
          clear hb
          go_step3
          refine ⟨rfl, ?_, ?_⟩
          · rw [HBB.out]; exact ⟨_, _, _, _, _, _, _, _, _, _, _, _, _, _, _, _, _, _, _, _, _, _, _, _, _, _, _, _, _, _, rfl⟩
          · rw [HBB.out]; exact HW3.out
        · have hne : (er != 0) = false := by rw [bne, he]; rfl
          obtain rfl : er = 0 := by simpa using he
          go_wp2_with fail
          go_roundw
          case rel => exact ⟨k + 1, by omega, by go_num, rfl, _, OK.out HER.out.symm, HW3.out, HSM.out.write _ _⟩
          case measure => simp [intOf]; omega
      · obtain rfl : k = n := by omega
        have hrest := run_take_all (by rw [HN.out]; exact Nat.le_refl _) HRun.out [Dop.S]
        rw [← HPH.out] at hrest
        have hsy := to_sync HA.out (HSM.out.mono (by omega))
        obtain ⟨er, her⟩ : ∃ er, er = Ak.syncErr := ⟨_, rfl⟩
        rw [← her] at hsy
        have HSY := Lib.hid hsy
        have hfin : A.run (ph ws) = (er, Ak.sync) := by
          rw [hrest, her]
          show (if Ak.syncErr = 0 then _ else _) = _
          split
          · rename_i h; rw [h]; rfl
          · rfl
        have HFIN := Lib.hid hfin
        clear hrest hsy her hfin
        go_wp2_with fail
        refine HSY.out.mono ?_
        rintro e w3 ⟨rfl, hw3⟩
        go_wp2_with fail
        go_step3
        go_wp2
        simp only [Exit.jump]
        go_ret
        rw [HFIN.out]
        exact ⟨rfl, hw3⟩
  · rintro a' w' ⟨⟨u0, u1, u2, u3, u4, u5, u6, u8, u9, u10, u11, u12, u13, u14, u15, u16, u17, u18, u19, u20, u21, u22, u23, u24, u25, u26, u27, u28, u29, u30, rfl⟩, hw3⟩
    go_wp2
    simp only [Exit.jump]
    go_ret
    exact ⟨rfl, hw3⟩
end
end Go.Proofs.Ytcnfnpccbnnplaa
