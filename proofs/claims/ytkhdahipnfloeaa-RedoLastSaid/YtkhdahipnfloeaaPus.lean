/- Slices of pages; triadref3's page, triadlaw3's Few. -/
import Derived.Test.YtkhdahipnfloeaaOut
import Derived.Laws.CopyOwn
namespace Go.Proofs.Ytkhdahipnfloeaa
open Go.RowKit
set_option maxRecDepth 100000

theorem Bs.moved0 {P : Nat → Prop} {w w' : World} {v : Value} {l : List UInt8} (h : Bs w v l) (hm : Moved P w w') (hP : 0 < l.length → ∀ k, v.ownBlock = some k → ¬ P k) : Bs w' v l := by
  by_cases h0 : 0 < l.length
  · exact h.moved hm (hP h0)
  · obtain rfl : l = [] := List.eq_nil_of_length_eq_zero (by omega)
    obtain ⟨ao, cap, rfl, h1, h2, h3, h4⟩ := h
    exact ⟨ao, cap, rfl, h1, h2, h3, fun ad had j u hu => by simp [vbs] at hu⟩
/-- A page's two cells, and what its slice reads as; its blocks are of S. -/
def PuAt (w : World) (S : Nat → Prop) (b o : Nat) (p : Int × List UInt8) : Prop :=
  w.cell? ⟨b, o, none⟩ = some (.int .i64 p.1) ∧ ∃ u, w.cell? ⟨b, o + 1, none⟩ = some u ∧ Bs w u p.2 ∧ (0 < p.2.length → ∀ g, u.ownBlock = some g → S g)
/-- A slice of pages that reads as l; all its blocks are of S. -/
def Pus (w : World) (S : Nat → Prop) (v : Value) (l : Pages) : Prop :=
  ∃ ao cap, v = .slice ao l.length cap ∧ l.length ≤ cap ∧ cap ≤ maxLen ∧ ∀ k (hk : k < l.length), ∃ b off, ao = some ⟨b, off, none⟩ ∧ S b ∧ PuAt w S b (off + k * 2) l[k]

theorem PuAt.moved {w w' : World} {S P : Nat → Prop} {b o : Nat} {p : Int × List UInt8} (h : PuAt w S b o p) (hb : S b) (hm : Moved P w w') (hS : ∀ g, S g → ¬ P g) : PuAt w' S b o p := by
  obtain ⟨h0, u, h1, h2, h3⟩ := h
  have hlt : b < w.heap.size := World.block_lt_of_cell? w _ h0
  have hc : ∀ j, w'.cell? ⟨b, j, none⟩ = w.cell? ⟨b, j, none⟩ := fun j => World.cell?_of_block (a := ⟨b, j, none⟩) (hm.block b hlt (hS b hb))
  exact ⟨(hc _).trans h0, u, (hc _).trans h1, h2.moved0 hm (fun h0 k hk => hS k (h3 h0 k hk)), h3⟩
theorem Pus.moved {w w' : World} {S P : Nat → Prop} {v : Value} {l : Pages} (h : Pus w S v l) (hm : Moved P w w') (hS : ∀ g, S g → ¬ P g) : Pus w' S v l := by
  obtain ⟨ao, cap, e, h1, h2, hE⟩ := h
  refine ⟨ao, cap, e, h1, h2, fun k hk => ?_⟩
  obtain ⟨b, off, e', hb, hA⟩ := hE k hk
  exact ⟨b, off, e', hb, hA.moved hb hm hS⟩
theorem Pus.below {w w' : World} {S : Nat → Prop} {v : Value} {l : Pages} (h : Pus w S v l) (hb : Below w.heap.size w w') : Pus w' S v l := h.moved (Moved.of_below hb (fun _ => False)) (fun _ _ h => h)
theorem Pus.nil (w : World) (S : Nat → Prop) : Pus w S (.slice none 0 0) [] := ⟨none, 0, rfl, by simp, by simp [maxLen], fun k hk => by simp at hk⟩

/-! ### page -/

/-- copy(x, b), x a new row of N bytes, b a slice of bytes. -/
theorem wpList_copy_new {w : World} {ops : Array Oper} {rest : List Oper} {o : Oper} {a : Act} {Q : Exit → Act → World → Prop} (N : Nat) (hgd : o.guard = none) (d x : Operand)
    (ho : o.op = .call { callee := .builtin .copy, args := #[d, x], argTypes := #[41, 41] }) (g : Nat) (v : Value) (l : List UInt8)
    (hd : a.eval d = .slice (some ⟨g, 0, none⟩) N N) (hx : a.eval x = v) (hb : Bs w v l) (hl : l.length ≤ N) (hg : Blk w g (vbs (zeros N)).toArray 5)
    (h : ∀ w', Blk w' g (vbs (l ++ zeros (N - l.length))).toArray 5 → w.grownBy w' (some g) → wpList Try.prog ops Q rest (a.put o.dst (goInt l.length)) w') : wpList Try.prog ops Q (o :: rest) a w := by
  have hsz : (Try.prog.info? 5).map (·.size) = some 1 := by kernel_rfl
  obtain ⟨ao, cap, rfl, h1, h2, h3, h4⟩ := hb
  by_cases h0 : l.length = 0
  · obtain rfl : l = [] := List.eq_nil_of_length_eq_zero h0
    refine wpList_copy_nothing hgd d x _ _ ho 5 Try.underlying41 hsz _ _ _ _ _ _ hd hx (by simp) ?_
    exact h w (by simpa using hg) (World.grownBy.refl _ _)
  · cases ao with
    | none => have := h3 rfl; omega
    | some ad =>
      refine wpList_copy_own hgd d x _ _ ho 5 Try.underlying41 hsz g 0 N N ad l.length cap hd hx _ 5 hg (vbs l) (by rw [vbs_length]; exact (Nat.min_eq_left hl).symm) (fun j u hu => h4 ad rfl j u hu) (by rw [vbs_length, List.size_toArray, vbs_length, zeros_length]; omega) (vbs_oneCell l) ?_
      have e : splice (vbs (zeros N)) 0 (vbs l) = vbs (l ++ zeros (N - l.length)) := by
        unfold splice
        rw [List.take_zero, List.nil_append, Nat.zero_add, vbs_length, vbs_append]
        congr 1
        unfold vbs
        rw [← List.map_drop, zeros_drop]
      unfold splice at e
      rw [e, vbs_length]
      exact h _ (setRow_heap w g _ _ _ _ hg) ⟨rfl, rfl, rfl, by simp [World.setRow], fun k _ hk => setRow_other w g k _ (fun e => hk (by simp [e]))⟩

theorem page_any (v : Value) (b : List UInt8) (w : World) (hb : Bs w v b) (hl : b.length ≤ 504) :
    Calls Try.prog 42 #[v] w fun e w' => ∃ g, e = .returned (.slice (some ⟨g, 0, none⟩) 504 504) ∧ w.heap.size ≤ g ∧ Own w' w.heap.size (.slice (some ⟨g, 0, none⟩) 504 504) (page b) ∧ Below w.heap.size w w' := by
  have hmk := run_make_bytes 504 504 rfl (by omega)
  have hnb := Blk.new w (vbs (zeros 504)).toArray 5
  have hal : Below w.heap.size w (w.alloc (.cells (vbs (zeros 504)).toArray 5)) := (Below.refl _ w).alloc (Nat.le_refl _) _
  have hb' := hb.below hal
  have HAL := Lib.hid hal
  clear hal hb
  obtain ⟨ao, cap, rfl, hc1, hc2, -⟩ := id hb'
  go_enter Try.func42, Try.ntmps42
  go_wp2_with (with_reducible refine wpList_copy_new 504 rfl _ _ rfl _ (.slice ao b.length cap) b rfl rfl hb' hl hnb ?_; intro w1 hb1 hg1)
  go_ret
  have hbe := HAL.out.grown hg1 (by simp) (fun q hq => by simp at hq; omega)
  have hown := hb1.own (base := w.heap.size) (Nat.le_refl _) (by rw [← page, page_length b hl]; simp [maxLen])
  rw [← page, page_length b hl] at hown
  exact ⟨_, rfl, Nat.le_refl _, hown, hbe⟩

/-! ### Few -/

def FewP (l : Pages) : Prop := (∀ k (hk : k < l.length), l[k].2.length ≤ 600) ∧ l.length ≤ 410

theorem pfew_any (v : Value) (l : Pages) (S : Nat → Prop) (w : World) (h : Pus w S v l) :
    Calls Try.prog 11 #[v] w fun e w' => (e = .returned (.bool false) ∧ w' = w) ∨ (e = .returned (.bool true) ∧ w' = w ∧ FewP l) := by
  obtain ⟨ao, cap, rfl, hc1, hc2, hE⟩ := h
  have hc2' : cap ≤ 9223372036854775807 := hc2
  obtain ⟨n, hn⟩ : ∃ n, n = l.length := ⟨_, rfl⟩
  have HE := Lib.hid hE
  have HN := Lib.hid hn
  rw [← hn] at hc1 ⊢
  clear hE hn hc2
  go_enter Try.func11, Try.ntmps11
  go_wp2_with fail
  go_loop [3] (fun i => ∃ k : Nat, k ≤ n ∧ i = .int .i64 k ∧ ∀ j (hj : j < l.length), j < k → l[j].2.length ≤ 600) (fun i => n - (intOf i).toNat)
  case atStart => exact ⟨0, Nat.zero_le _, rfl, fun j hj h => absurd h (Nat.not_lt_zero _)⟩
  case round =>
    obtain ⟨k, hk, rfl, hB⟩ := hrel
    have HB := Lib.hid hB
    clear hB
    by_cases hlt : k < n
    · have hkl : k < l.length := by rw [← HN.out]; exact hlt
      obtain ⟨b, off, rfl, -, hA⟩ := HE.out k hkl
      obtain ⟨-, u, c1, hbs, -⟩ := hA
      obtain ⟨bo, bc, rfl, hb1, hb2, -⟩ := hbs
      have hb2' : bc ≤ 9223372036854775807 := hb2
      obtain ⟨m1, hm1⟩ : ∃ m, m = l[k].2.length := ⟨_, rfl⟩
      rw [← hm1] at c1 hb1
      have HM1 := Lib.hid hm1
      clear hm1 hb2
      by_cases h1 : (600 : Int) < m1
      · go_wp2
        go_ret
        exact .inl ⟨rfl, rfl⟩
      go_wp2
      go_round
      case rel =>
        refine ⟨k + 1, by omega, by go_num, fun j hj hjk => ?_⟩
        by_cases e : j < k
        · exact HB.out j hj e
        · obtain rfl : j = k := by omega
          have := HM1.out
          omega
      case measure => simp [intOf]; omega
    · obtain rfl : k = n := by omega
      by_cases h410 : k ≤ 410
      · have h410' : (k : Int) ≤ 410 := by omega
        go_wp2
        go_ret
        exact .inr ⟨rfl, rfl, fun j hj => HB.out j hj (by have := HN.out; omega), by have := HN.out; omega⟩
      · have h410' : ¬ (k : Int) ≤ 410 := by omega
        go_wp2
        go_ret
        exact .inl ⟨rfl, rfl⟩
end Go.Proofs.Ytkhdahipnfloeaa
