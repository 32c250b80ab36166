/- Ri -/
import Derived.Test.YtpfjbcfnpfgidaaKRd
import Derived.Test.YtpfjbcfnpfgidaaKRg
namespace Go.Proofs.Ytpfjbcfnpfgidaa
open Go.RowKit Go.Maps
set_option maxRecDepth 100000
set_option linter.unusedVariables false
/-- The blocks of the map. -/
def MOwn (x : Nat) (kv vv : Value) (q : Nat) : Prop := q = x ∨ kv.ownBlock = some q ∨ vv.ownBlock = some q
theorem MapAt.self {a b : World} {D : Nat → Prop} {B x : Nat} {kv vv : Value} {K V : List ByteArray} (h : MapAt a D b B x kv vv K V) : MapAt b (MOwn x kv vv) b B x kv vv K V := by
 refine ⟨h.fix, h.own, h.apart, h.low, Moved.refl _ _, fun r hr q hq => .inl ?_⟩
 simp only [List.mem_cons, List.not_mem_nil, or_false] at hr
 rcases hr with rfl | rfl
 ·exact .inr (.inl hq)
 ·exact .inr (.inr hq)
theorem MapAt.carry {a b : World} {D P : Nat → Prop} {B x : Nat} {kv vv : Value} {K V : List ByteArray} (h : MapAt a D a B x kv vv K V) (hm : Moved P a b) (hX : ∀ k, MOwn x kv vv k → ¬ P k) : MapAt b (MOwn x kv vv) b B x kv vv K V := by
 refine ⟨fun y hy => ?_, fun r hr => owns_moved (h.own r hr) hm (fun q hq => hX q ?_), h.apart, Nat.le_trans h.low hm.size, Moved.refl _ _, fun r hr q hq => .inl ?_⟩
 ·simp only [List.mem_cons, List.not_mem_nil, or_false] at hy
  subst hy
  exact ⟨h.x.1.moved hm (hX _ (.inl rfl)), h.x.2⟩
 ·simp only [List.mem_cons, List.not_mem_nil, or_false] at hr
  rcases hr with rfl | rfl
  ·exact .inr (.inl hq)
  ·exact .inr (.inr hq)
 ·simp only [List.mem_cons, List.not_mem_nil, or_false] at hr
  rcases hr with rfl | rfl
  ·exact .inr (.inl hq)
  ·exact .inr (.inr hq)
section
variable {w0 w : World} {D : Nat → Prop} {B x : Nat} {kv vv : Value} {l : List Ent}
theorem rset_tree (h : MapAt w0 D w B x kv vv (keysL l) (valsL l)) (hDx : D x) (hs : l.Pairwise rK) (key val : ByteArray) (hl : l.length ≤ 100000) (hk : key.size ≤ 140) (hkv : key.size + val.size ≤ 150) :
 Calls Try.prog 9 #[.pointer (some ⟨x, 0, none⟩), .string key, .string val] w fun e w' => e = .returned (.int .i64 0) ∧ ∃ kv' vv', MapAt w0 D w' B x kv' vv' (keysL (setL key val l)) (valsL (setL key val l)) := by
 have hlk : (valsL l).length = (keysL l).length := by unfold valsL keysL; rw [List.length_map, List.length_map]
 have hll : (keysL l).length ≤ 100000 := by unfold keysL; rw [List.length_map]; exact hl
 cases his : isK key (keysL l) with
 | true =>
  obtain ⟨e1, e2⟩ := set_same key val hs his
  rw [e1, e2]
  refine (rset_there h hlk key val hll hk hkv his).mono ?_
  rintro e w' ⟨rfl, h'⟩
  exact ⟨rfl, _, _, h'⟩
 | false =>
  obtain ⟨e1, e2⟩ := set_other key val hs his
  rw [e1, e2]
  exact rset_new h hDx hlk key val hll hk hkv his
end
/-- The pager with a tree, and the reference's map with the same entries. -/
structure Bo (w0 w : World) (X : Nat → Prop) (r p N M c : Nat) (G H : Lg) {n : Nat} (t : BT Ent n) (tot B x : Nat) (kv vv : Value) : Prop where
 pb : Pb w0 w X r p N M c G (some H)
 tree : InLg N H t
 all : H.free.length + t.pages.length = tot
 map : MapAt w (MOwn x kv vv) w B x kv vv (keysL t.flat) (valsL t.flat)
 xX : ∀ q, MOwn x kv vv q → X q
 low : ∀ k, X k → w0.heap.size ≤ k
section
variable {w0 w w' : World} {X : Nat → Prop} {r p N M c : Nat} {G H : Lg} {n : Nat} {t : BT Ent n} {tot B x : Nat} {kv vv : Value}
theorem Bo.room (h : Bo w0 w X r p N M c G H t tot B x kv vv) : tot ≤ H.free.length + 1 + 2 * t.flat.length := by
 have h1 := BT.count_root t h.tree.root
 have h2 := h.all
 omega
theorem Bo.read (h : Bo w0 w X r p N M c G H t tot B x kv vv) (hb : Below w.heap.size w w') : Bo w0 w' X r p N M c G H t tot B x kv vv :=
 ⟨h.pb.grow hb, h.tree, h.all, h.map.carry (Moved.of_below hb (fun _ => False)) (fun _ _ h => h), h.xX, h.low⟩
theorem Bo.take (h : Bo w0 w X r p N M c G H t tot B x kv vv) (hb : Below w.heap.size w w') : Bo w0 w' (fun k => X k ∨ (w.heap.size ≤ k ∧ k < w'.heap.size)) r p N M c G H t tot B x kv vv :=
 ⟨h.pb.take hb, h.tree, h.all, h.map.carry (Moved.of_below hb (fun _ => False)) (fun _ _ h => h), fun q hq => .inl (h.xX q hq), fun k hk => hk.elim (h.low k) (fun e => Nat.le_trans h.pb.below.size e.1)⟩
/-- The tree has changed; the map is to follow. -/
theorem Bo.half (h : Bo w0 w X r p N M c G H t tot B x kv vv) (hm : Mx w0 X w w') : MapAt w' (MOwn x kv vv) w' B x kv vv (keysL t.flat) (valsL t.flat) :=
 h.map.carry hm (fun k hk e => e.2 (h.xX k hk))
theorem Bo.both {w1 w2 : World} {H' : Lg} {c' m : Nat} {t' : BT Ent m} {l : List Ent} {kv' vv' : Value} (h : Bo w0 w X r p N M c G H t tot B x kv vv) (hp : Pb w0 w1 X r p N M c' G (some H')) (hc : Changed N H H' t t' l) (hk : MapAt w1 (MOwn x kv vv) w2 B x kv' vv' (keysL l) (valsL l)) :
 Bo w0 w2 (fun k => X k ∨ (w1.heap.size ≤ k ∧ k < w2.heap.size)) r p N M c' G H' t' tot B x kv' vv' := by
 have hpl := hc.perm.length_eq
 rw [List.length_append, List.length_append] at hpl
 refine ⟨hp.wide hk.mv (fun k hk' _ => ⟨h.xX k hk', h.low k (h.xX k hk')⟩), hc.ok, by rw [hpl]; exact h.all, ?_, fun q hq => ?_, fun k hk' => ?_⟩
 ·rw [hc.flat]
  exact hk.self
 ·have hm : ∀ r ∈ [(kv', keysL l), (vv', valsL l)], ∀ q, r.1.ownBlock = some q → X q ∨ (w1.heap.size ≤ q ∧ q < w2.heap.size) := fun r hr q hq => (hk.mine r hr q hq).imp (h.xX q) (fun e => ⟨e, (Live.lt hk hr q hq).2⟩)
  rcases hq with e | e | e
  ·exact .inl (h.xX q (.inl e))
  ·exact hm _ (List.mem_cons_self ..) q e
  ·exact hm _ (List.mem_cons_of_mem _ (List.mem_cons_self ..)) q e
 ·rcases hk' with e | e
  ·exact h.low k e
  ·exact Nat.le_trans hp.below.size e.1
end
theorem range_neg (p : Nat) (root : Int) (fr to : ByteArray) (most : Int) (hm : most < 0) (w : World) :
 Calls Try.prog 10 #[.pointer (some ⟨p, 0, none⟩), .int .i64 root, .string fr, .string to, .int .i64 most] w fun e w' => e = .returned (.tuple #[.slice none 0 0, .slice none 0 0, .int .i64 1]) ∧ Below w.heap.size w w' := by
 have hal : Below w.heap.size w ((((w.alloc (.cells #[.string to] 9)).alloc (.cells #[.int .i64 most] 3)).alloc (.cells #[.slice none 0 0] 22)).alloc (.cells #[.slice none 0 0] 22)) :=
  ((((Below.refl _ w).alloc (Nat.le_refl _) _).alloc (by simp) _).alloc (by simp; omega) _).alloc (by simp; omega) _
 have HAL := Lib.hid hal
 clear hal
 go_enter Try.func10, Try.ntmps10
 go_wp2_with fail
 obtain ⟨w1, hw1⟩ : ∃ w1, w1 = ((((w.alloc (.cells #[.string to] 9)).alloc (.cells #[.int .i64 most] 3)).alloc (.cells #[.slice none 0 0] 22)).alloc (.cells #[.slice none 0 0] 22)) := ⟨_, rfl⟩
 have c0 : w1.cell? ⟨w.heap.size + 1 + 1, 0, none⟩ = some (.slice none 0 0) := by rw [hw1]; go_simp
 have c1 : w1.cell? ⟨w.heap.size + 1 + 1 + 1, 0, none⟩ = some (.slice none 0 0) := by rw [hw1]; go_simp
 have cm : w1.cell? ⟨w.heap.size + 1, 0, none⟩ = some (.int .i64 most) := by rw [hw1]; go_simp
 have f0 : w1.frozen? ⟨w.heap.size + 1 + 1, 0, none⟩ = false := by rw [hw1]; go_simp
 have f1 : w1.frozen? ⟨w.heap.size + 1 + 1 + 1, 0, none⟩ = false := by rw [hw1]; go_simp
 rw [← hw1] at HAL ⊢
 clear hw1
 refine wp_scope_jumps 0 (fun a' w' => ∃ u0 u1 u2 u3 u4 u5 u6 u7 u8 u9 u13 u14 u15 u16 u17 u18 u19 u20 u21 u22 u23 u24 : Value, a' = { tmps := #[u0, u1, u2, u3, u4, u5, u6, u7, u8, u9, .pointer (some ⟨w.heap.size + 1 + 1, 0, none⟩), .pointer (some ⟨w.heap.size + 1 + 1 + 1, 0, none⟩), .int .i64 1, u13, u14, u15, u16, u17, u18, u19, u20, u21, u22, u23, u24], defers := [] } ∧ w' = w1) (fun _ _ => 0) rfl ?_ ?_
 ·go_wp2_with fail
  go_step3
  exact ⟨rfl, ⟨_, _, _, _, _, _, _, _, _, _, _, _, _, _, _, _, _, _, _, _, _, _, rfl, rfl⟩⟩
 ·rintro a' w' ⟨u0, u1, u2, u3, u4, u5, u6, u7, u8, u9, u13, u14, u15, u16, u17, u18, u19, u20, u21, u22, u23, u24, rfl, rfl⟩
  go_wp2_with fail
  simp only [Exit.jump]
  have y0 : (w'.setCell ⟨w.heap.size + 1 + 1, 0, none⟩ (.slice none 0 0)).cell? ⟨w.heap.size + 1 + 1, 0, none⟩ = some (.slice none 0 0) := World.cell?_setCell_same _ _ _ c0
  refine bodyPost_ret (v := .tuple #[.slice none 0 0, .slice none 0 0, .int .i64 1]) (by simp [results, Try.results10, go_sem, y0, c1]) rfl ?_
  refine ⟨rfl, ?_⟩
  exact (HAL.out.setCell (by simp; omega) _).setCell (by simp; omega) _
end Go.Proofs.Ytpfjbcfnpfgidaa
