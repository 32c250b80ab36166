/- A page of 504 bytes as a value: made, filled, loaded, stored; pager's paged. -/
import Derived.Test.YtcnfnpccbnnplaaEnds4
import Derived.Deep.WholeRow
namespace Go.Proofs.Ytcnfnpccbnnplaa
open Go.RowKit Go.Maps
set_option maxRecDepth 100000

/-- A page as a value. -/
def pg (l : List UInt8) : Value := .agg (vbs l).toArray

theorem Try.infoPg : (Try.prog.info? 103).map (fun i => (i.zero, i.size)) = some (some (.agg (vbs (zeros 504)).toArray), 504) := by kernel_rfl
theorem pg_zero (w : World) : (zeroValue 103).run Try.prog w = .ok (.agg (vbs (zeros 504)).toArray) w := (zero_of_info Try.infoPg).1 w
theorem pg_size {l : List UInt8} (h : l.length = 504) : (Try.prog.info? 103).map (·.size) = some (vbs l).toArray.size := by
  rw [(zero_of_info Try.infoPg).2, List.size_toArray, vbs_length, h]
theorem vbs_all (l : List UInt8) : (vbs l).toArray.all (·.oneCell') = true := by
  rw [Array.all_eq_true_iff_forall_mem]
  intro v hv
  exact vbs_oneCell l v (by simpa using hv)

/-- b, cut or with noughts behind, as a page. -/
def pageOf (l : List UInt8) : List UInt8 := page (l.take 504)
theorem pageOf_length (l : List UInt8) : (pageOf l).length = 504 := by
  unfold pageOf page
  rw [List.length_append, List.length_take, zeros_length]
  omega
theorem pageOf_short {l : List UInt8} (h : l.length ≤ 504) : pageOf l = page l := by unfold pageOf; rw [List.take_of_length_le h]
theorem pageOf_page {l : List UInt8} (h : l.length = 504) : pageOf l = l := by
  rw [pageOf_short (by omega)]
  unfold page
  rw [h]
  exact List.append_nil l

/-- 'x' out of a variable of a page. -/
theorem wpList_pload {ops : Array Oper} {rest : List Oper} {o : Oper} {a : Act} {w : World} {Q : Exit → Act → World → Prop} (hgd : o.guard = none) (x : Operand) (ho : o.op = .load 103 x)
    (g : Nat) (hx : a.eval x = .pointer (some ⟨g, 0, none⟩)) (t : TypeId) (l : List UInt8) (hg : Blk w g (vbs l).toArray t) (hl : l.length = 504)
    (h : wpList Try.prog ops Q rest (a.put o.dst (pg l)) w) : wpList Try.prog ops Q (o :: rest) a w :=
  wpList_load_row hgd _ x ho g hx t _ (0, 0) _ hg Try.underlying103 rfl (pg_size hl) h

/-- 'x = y' into a variable of a page. -/
theorem wpList_pstore {ops : Array Oper} {rest : List Oper} {o : Oper} {a : Act} {w : World} {Q : Exit → Act → World → Prop} (hgd : o.guard = none) (x y : Operand) (ho : o.op = .store 103 x y)
    (g : Nat) (l m : List UInt8) (hx : a.eval x = .pointer (some ⟨g, 0, none⟩)) (hy : a.eval y = pg l) (t : TypeId) (hg : Blk w g (vbs m).toArray t) (hm : m.length = 504) (hl : l.length = 504)
    (h : ∀ w', Blk w' g (vbs l).toArray t → w.grownBy w' (some g) → wpList Try.prog ops Q rest (a.put o.dst undef) w') : wpList Try.prog ops Q (o :: rest) a w :=
  wpList_store_row hgd _ x y ho g _ hx hy t _ hg (pg_size hl) (by simp [vbs_length, hm, hl]) (vbs_all l)
    (h _ (setRow_heap w g _ _ _ _ hg) ⟨rfl, rfl, rfl, by simp [World.setRow], fun k _ hk => setRow_other w g k _ (fun e => hk (by simp [e]))⟩)

/-- copy(p[:], b), p a new page. -/
theorem wpList_copy_page {w : World} {ops : Array Oper} {rest : List Oper} {o : Oper} {a : Act} {Q : Exit → Act → World → Prop} (hgd : o.guard = none) (d x : Operand)
    (ho : o.op = .call { callee := .builtin .copy, args := #[d, x], argTypes := #[37, 37] }) (g : Nat) (t : TypeId) (v : Value) (l : List UInt8)
    (hd : a.eval d = .slice (some ⟨g, 0, none⟩) 504 504) (hx : a.eval x = v) (hb : Bs w v l) (hg : Blk w g (vbs (zeros 504)).toArray t)
    (h : ∀ n w', Blk w' g (vbs (pageOf l)).toArray t → w.grownBy w' (some g) → wpList Try.prog ops Q rest (a.put o.dst (goInt n)) w') : wpList Try.prog ops Q (o :: rest) a w := by
  have hsz : (Try.prog.info? 5).map (·.size) = some 1 := by kernel_rfl
  obtain ⟨ao, cap, rfl, h1, h2, h3, h4⟩ := hb
  by_cases h0 : l.length = 0
  · obtain rfl : l = [] := List.eq_nil_of_length_eq_zero h0
    refine wpList_copy_nothing hgd d x _ _ ho 5 Try.underlying37 hsz _ _ _ _ _ _ hd hx (by simp) ?_
    exact h 0 w hg (World.grownBy.refl _ _)
  · cases ao with
    | none => have := h3 rfl; omega
    | some ad =>
      have hml : (l.take 504).length = min l.length 504 := by rw [List.length_take]; omega
      refine wpList_copy_own hgd d x _ _ ho 5 Try.underlying37 hsz g 0 504 504 ad l.length cap hd hx _ t hg (vbs (l.take 504)) (by rw [vbs_length]; exact hml) (fun j u hu => h4 ad rfl j u ?_) (by rw [vbs_length, List.size_toArray, vbs_length, zeros_length, hml]; omega) (vbs_oneCell _) ?_
      · unfold vbs at hu ⊢
        rw [List.map_take, List.getElem?_take] at hu
        split at hu
        · exact hu
        · cases hu
      · have e : splice (vbs (zeros 504)) 0 (vbs (l.take 504)) = vbs (pageOf l) := by
          unfold splice pageOf page
          rw [List.take_zero, List.nil_append, Nat.zero_add, vbs_length, vbs_append]
          congr 1
          unfold vbs
          rw [← List.map_drop, zeros_drop]
        unfold splice at e
        rw [e, vbs_length]
        exact h _ _ (setRow_heap w g _ _ _ _ hg) ⟨rfl, rfl, rfl, by simp [World.setRow], fun k _ hk => setRow_other w g k _ (fun e => hk (by simp [e]))⟩

theorem pg_results {fn : Func} {p : Tmp} (h : fn.results = #[.cell p 103]) (tmps : Array Value) (w : World) (g : Nat) (t : TypeId) (l : List UInt8)
    (hp : tmps.getD p undef = .pointer (some ⟨g, 0, none⟩)) (hg : Blk w g (vbs l).toArray t) (hl : l.length = 504) : (results fn tmps).run Try.prog w = .ok (pg l) w :=
  results_cell_row h tmps w g t _ (0, 0) _ hp hg Try.underlying103 rfl (pg_size hl)

theorem paged_any (v : Value) (l : List UInt8) (w : World) (hb : Bs w v l) :
    Calls Try.prog 80 #[v] w fun e w' => e = .returned (pg (pageOf l)) ∧ Below w.heap.size w w' := by
  have hz := pg_zero
  have hpl := pageOf_length l
  obtain ⟨Z, hZ⟩ : ∃ Z, Z = (vbs (zeros 504)).toArray := ⟨_, rfl⟩
  rw [← hZ] at hz
  obtain ⟨o, ho⟩ : ∃ o : Obj, o = .cells Z 103 := ⟨_, rfl⟩
  have hal1 : Below w.heap.size w (w.alloc o) := (Below.refl _ w).alloc (Nat.le_refl _) o
  have hal : Below w.heap.size w ((w.alloc o).alloc o) := hal1.alloc hal1.size o
  have hbs : Bs ((w.alloc o).alloc o) v l := hb.below hal
  have h1 : Blk ((w.alloc o).alloc o) (w.heap.size + 1) (vbs (zeros 504)).toArray 103 := by
    rw [ho, hZ]; exact heap_alloc2_new w _ _
  have h2 : Blk ((w.alloc o).alloc o) w.heap.size (vbs (zeros 504)).toArray 103 := by
    rw [ho, hZ]; exact heap_alloc2_old w _ _
  have HB := Lib.hid hbs
  have H1 := Lib.hid h1
  have H2 := Lib.hid h2
  have HA := Lib.hid hal
  subst ho
  clear hb hbs h1 h2 hal hal1 hZ
  go_enter Try.func80, Try.ntmps80
  go_wp2_with (first
    | (with_reducible refine wpList_copy_page rfl _ _ rfl _ 103 v l rfl rfl HB.out H1.out ?_; intro n w2 hb2 hg2)
    | (with_reducible refine wpList_pload rfl _ rfl _ rfl 103 (pageOf l) hb2 hpl ?_)
    | (with_reducible refine wpList_pstore rfl _ _ rfl w.heap.size (pageOf l) (zeros 504) rfl rfl 103 ?_ (zeros_length _) hpl ?_) | fail)
  · exact grown_keep hg2 H2.out (fun e => by have := Option.some.inj e; omega)
  intro w3 hb3 hg3
  go_wp2_with fail
  refine bodyPost_ret (pg_results rfl _ _ w.heap.size 103 (pageOf l) rfl hb3 hpl) rfl ?_
  exact ⟨rfl, (HA.out.grown hg2 HA.out.size (fun q hq => by have := Option.some.inj hq; omega)).grown hg3 (Nat.le_trans HA.out.size hg2.size) (fun q hq => by have := Option.some.inj hq; omega)⟩
end Go.Proofs.Ytcnfnpccbnnplaa
