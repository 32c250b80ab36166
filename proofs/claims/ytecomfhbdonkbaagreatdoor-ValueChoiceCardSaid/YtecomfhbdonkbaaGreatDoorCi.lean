/- Package value's laws: the maker's leaf. -/
import Derived.Test.YtecomfhbdonkbaaGreatDoorCh
namespace Go.Proofs.YtecomfhbdonkbaaGreatDoor
open Go.RowKit Go.Shelf Flo
set_option maxRecDepth 100000
set_option linter.unusedVariables false
set_option linter.unusedSimpArgs false

/-- Kids stay where one block alone turns, that is too small for one. -/
theorem KidsP.past {B m : Nat} {w w' : World} {cur : Array Value} {t : TypeId} (hm : Blk w m cur t) (hs : cur.size ≤ 5) (hmv : Moved (fun k => k = m) w w') : ∀ {n : Nat} {kv : Value} {l : List Exp}, KidsP B w n kv l → KidsP B w' n kv l
  | 0, _, _, h => h
  | n + 1, kv, l, ⟨h0, kp, cap, h1, h2⟩ => ⟨h0, kp, cap, h1, fun i hi => by
    obtain ⟨kb, ko, kv', g1, g2, gp, g3, g4, g5, g6⟩ := h2 i hi
    have hne : ¬ kb = m := by
      intro e
      subst e
      have h5 := g3.2.2.2.2.2
      rw [hm.cell, Array.getElem?_eq_none (by omega)] at h5
      cases h5
    have hkb : kb < w.heap.size := by
      obtain ⟨ca, ta, hp⟩ := gp
      exact (Array.getElem?_eq_some_iff.1 hp).1
    have hbk := hmv.block kb hkb hne
    have c : ∀ j, w'.cell? ⟨kb, j, none⟩ = w.cell? ⟨kb, j, none⟩ := fun j => World.cell?_of_block hbk
    refine ⟨kb, ko, kv', g1, g2, ?_, ?_, g4, g5, KidsP.past hm hs hmv g6⟩
    · obtain ⟨ca, ta, hp⟩ := gp
      exact ⟨ca, ta, hbk.trans hp⟩
    · unfold XCells at g3 ⊢
      simp only [c]
      exact g3⟩
/-- A maker, and a row of blocks of the call's own, the youngest first. -/
structure MemR (m : Nat) (nsv : Value) (ns : List Int) (w : World) (L : List (Nat × Array Value × TypeId)) (v : World) : Prop where
  mv : Moved (fun k => k = m) w v
  mki : MkI m nsv ns v
  lo : m < w.heap.size
  all : ∀ p ∈ L, Blk v p.1 p.2.1 p.2.2
  lt : ∀ p ∈ L, p.1 < v.heap.size ∧ w.heap.size ≤ p.1
  srt : L.Pairwise (fun a b => b.1 < a.1)
section
variable {m : Nat} {nsv : Value} {ns : List Int} {w v v' : World} {L : List (Nat × Array Value × TypeId)}
theorem MemR.nil (h : MkI m nsv ns w) : MemR m nsv ns w [] w := ⟨Moved.refl _ _, h, h.lt, by simp, by simp, .nil⟩
theorem MemR.step (h : MemR m nsv ns w L v) (hm : Moved (fun k => k = m) v v') (hk : MkI m nsv ns v') : MemR m nsv ns w L v' :=
  ⟨h.mv.trans hm (fun _ h => .inl h), hk, h.lo, fun p hp => (hm.block p.1 (h.lt p hp).1 (fun e => by have := (h.lt p hp).2; have := h.lo; omega)).trans (h.all p hp), fun p hp => ⟨Nat.lt_of_lt_of_le (h.lt p hp).1 hm.size, (h.lt p hp).2⟩, h.srt⟩
theorem MemR.below (h : MemR m nsv ns w L v) (hb : Below v.heap.size v v') : MemR m nsv ns w L v' := h.step (Moved.of_below hb _) (h.mki.below hb)
theorem MemR.alloc (h : MemR m nsv ns w L v) (n : Nat) (hn : n = v.heap.size) (cur : Array Value) (t : TypeId) : MemR m nsv ns w ((n, cur, t) :: L) (v.alloc (.cells cur t)) := by
  subst hn
  have h' := h.below ((Below.refl v.heap.size v).alloc (Nat.le_refl _) (.cells cur t))
  refine ⟨h'.mv, h'.mki, h.lo, fun p hp => ?_, fun p hp => ?_, List.pairwise_cons.2 ⟨fun p hp => (h.lt p hp).1, h.srt⟩⟩
  · rcases List.mem_cons.1 hp with rfl | hp
    · exact Blk.new _ _ _
    · exact h'.all p hp
  · rcases List.mem_cons.1 hp with rfl | hp
    · exact ⟨(Blk.new v cur t).lt, h.mv.size⟩
    · exact h'.lt p hp
theorem MemR.at_ (h : MemR m nsv ns w L v) (i : Nat) {b : Nat} {cur : Array Value} {t : TypeId} (hi : L[i]? = some (b, cur, t)) : Blk v b cur t := h.all _ (List.mem_of_getElem? hi)
theorem MemR.drop {x : Nat × Array Value × TypeId} (h : MemR m nsv ns w (x :: L) v) : MemR m nsv ns w L v :=
  ⟨h.mv, h.mki, h.lo, fun p hp => h.all p (List.mem_cons_of_mem _ hp), fun p hp => h.lt p (List.mem_cons_of_mem _ hp), (List.pairwise_cons.1 h.srt).2⟩
theorem MemR.set {b : Nat} {cur : Array Value} {t : TypeId} (h : MemR m nsv ns w ((b, cur, t) :: L) v) (j : Nat) (u : Value) : MemR m nsv ns w ((b, cur.setIfInBounds j u, t) :: L) (v.setCell ⟨b, j, none⟩ u) := by
  have hb : b < v.heap.size ∧ w.heap.size ≤ b := h.lt _ List.mem_cons_self
  have hmb : ¬ b = m := fun e => by have := hb.2; have := h.lo; omega
  have hsz : (v.setCell ⟨b, j, none⟩ u).heap.size = v.heap.size := by simp
  have hmv : Moved (fun k => k = m) w (v.setCell ⟨b, j, none⟩ u) := h.mv.setCell _ _ (.inr hb.2)
  obtain ⟨p, hp, hpb⟩ := h.mki.blk
  have hmk : MkI m nsv ns (v.setCell ⟨b, j, none⟩ u) := ⟨⟨p, hp, hpb.other _ _ (fun e => hmb e.symm)⟩, h.mki.form, fun i hi => by
    obtain ⟨b', o, cap, h1, h2, h3⟩ := h.mki.row i hi
    refine ⟨b', o, cap, h1, h2, ?_⟩
    rw [World.cell?_setCell_other _ _ _ _ (show (⟨b, j, none⟩ : Addr) ≠ ⟨b', o + i, none⟩ from fun e => by
      have h4 : b = b' := congrArg Addr.block e
      have := hb.2
      have := h.lo
      omega)]
    exact h3, h.mki.rng, h.mki.len⟩
  refine ⟨hmv, hmk, h.lo, fun p hp => ?_, fun p hp => ?_, ?_⟩
  · rcases List.mem_cons.1 hp with rfl | hp
    · exact (h.all _ List.mem_cons_self).set j u
    · have hlt : p.1 < b := (List.pairwise_cons.1 h.srt).1 p hp
      exact (h.all p (List.mem_cons_of_mem _ hp)).other _ _ (Nat.ne_of_lt hlt)
  · rw [hsz]
    rcases List.mem_cons.1 hp with rfl | hp
    · exact hb
    · exact h.lt p (List.mem_cons_of_mem _ hp)
  · exact List.pairwise_cons.2 ⟨(List.pairwise_cons.1 h.srt).1, (List.pairwise_cons.1 h.srt).2⟩
end
/-- Kids that read so wherever the blocks from lo on, below hi, are as they are. -/
def KidsS (lo hi : Nat) (z : World) (d : Nat) (kv : Value) (l : List Exp) : Prop := ∀ z' : World, (∀ k, lo ≤ k → k < hi → z'.heap[k]? = z.heap[k]?) → KidsP hi z' d kv l
theorem KidsS.keep {lo hi : Nat} {z z2 : World} {d : Nat} {kv : Value} {l : List Exp} (h : KidsS lo hi z d kv l) (hz : ∀ k, lo ≤ k → k < hi → z2.heap[k]? = z.heap[k]?) : KidsS lo hi z2 d kv l :=
  fun z' hz' => h z' (fun k h1 h2 => (hz' k h1 h2).trans (hz k h1 h2))
theorem KidsS.now {lo hi : Nat} {z : World} {d : Nat} {kv : Value} {l : List Exp} (h : KidsS lo hi z d kv l) : KidsP hi z d kv l := h z (fun _ _ _ => rfl)
/-- A Kid's cells: itself, and where its Kids lie. -/
abbrev Kd := Exp × Option Addr × Nat × Nat
def kvO (p : Kd) : Value := .slice p.2.1 p.2.2.1 p.2.2.2
def kidC (p : Kd) : List Value := [.int .i64 p.1.op, .int .i64 p.1.tm.k, .string p.1.tm.s, .string p.1.tm.l, .string p.1.tm.t, kvO p]
theorem kidC_len (p : Kd) : (kidC p).length = 6 := rfl
theorem kidC_one : ∀ p, ∀ u ∈ kidC p, u.oneCell' = true := by
  intro p u hu
  simp only [kidC, List.mem_cons, List.not_mem_nil, or_false] at hu
  rcases hu with rfl | rfl | rfl | rfl | rfl | rfl <;> rfl
abbrev OwK := @OwG Kd 28 kidC 6
/-- The loop's memory: one that is made, its Kids so far. -/
structure LoopE (m : Nat) (nsv : Value) (ns : List Int) (w : World) (ge : Nat) (op : Int) (d : Nat) (Ls : List Kd) (kv : Value) (z : World) : Prop where
  mem : MemR m nsv ns w [(ge, #[.int .i64 op, .int .i64 0, .string ⟨#[]⟩, .string ⟨#[]⟩, .string ⟨#[]⟩, kv], 28), (w.heap.size, #[.int .i64 0, .int .i64 0, .string ⟨#[]⟩, .string ⟨#[]⟩, .string ⟨#[]⟩, .slice none 0 0], 28)] z
  own : OwK z (ge + 1) kv Ls
  kids : ∀ p ∈ Ls, opIn p.1.op ∧ p.1.tm.Sm ∧ ∃ lo hi, ge < lo ∧ hi ≤ z.heap.size ∧ KidsS lo hi z d (kvO p) p.1.kids ∧ ∀ q, kv.ownBlock = some q → q < lo ∨ hi ≤ q
section
variable {m : Nat} {nsv : Value} {ns : List Int} {w z z' : World} {ge : Nat} {op : Int} {d : Nat} {Ls : List Kd} {kv : Value}
theorem LoopE.ge_ (h : LoopE m nsv ns w ge op d Ls kv z) : ge < z.heap.size ∧ w.heap.size < ge := by
  have h1 := (h.mem.lt _ List.mem_cons_self).1
  have h2 := (List.pairwise_cons.1 h.mem.srt).1 _ List.mem_cons_self
  exact ⟨h1, h2⟩
theorem LoopE.step (h : LoopE m nsv ns w ge op d Ls kv z) (hm : Moved (fun k => k = m) z z') (hk : MkI m nsv ns z') : LoopE m nsv ns w ge op d Ls kv z' := by
  have hlo := h.mem.lo
  have hge := h.ge_
  refine ⟨h.mem.step hm hk, h.own.moved hm (fun q hq => by have := (OwG.lt h.own q hq).1; omega), fun p hp => ?_⟩
  obtain ⟨h1, h2, lo, hi, h3, h4, h5, h6⟩ := h.kids p hp
  exact ⟨h1, h2, lo, hi, h3, Nat.le_trans h4 hm.size, h5.keep (fun k hk1 hk2 => hm.block k (by omega) (by omega)), h6⟩
theorem LoopE.below (h : LoopE m nsv ns w ge op d Ls kv z) (hb : Below z.heap.size z z') : LoopE m nsv ns w ge op d Ls kv z' := h.step (Moved.of_below hb _) (h.mem.mki.below hb)
/-- One more Kid. -/
theorem LoopE.put {u u2 : World} {kv2 : Value} {p : Kd} (h : LoopE m nsv ns w ge op d Ls kv u) (hg : u.grownBy u2 kv.ownBlock) (ho : OwK u2 (ge + 1) kv2 (Ls ++ [p])) (hn : ∀ q, kv2.ownBlock = some q → kv.ownBlock = some q ∨ u.heap.size ≤ q)
    (hp : opIn p.1.op ∧ p.1.tm.Sm ∧ ∃ lo hi, ge < lo ∧ hi ≤ u.heap.size ∧ KidsS lo hi u d (kvO p) p.1.kids ∧ ∀ q, kv.ownBlock = some q → q < lo ∨ hi ≤ q) : LoopE m nsv ns w ge op d (Ls ++ [p]) kv2 (u2.setCell ⟨ge, 5, none⟩ kv2) := by
  have hlo := h.mem.lo
  have hge := h.ge_
  have hlt : ∀ q, kv.ownBlock = some q → ge + 1 ≤ q ∧ q < u.heap.size := OwG.lt h.own
  have mv : Moved (fun q => kv.ownBlock = some q) u u2 := ⟨hg.os, hg.tape, hg.output, hg.size, fun k hk hne => hg.block k hk (fun e => hne e.symm)⟩
  have mw : Moved (fun k => k = m) w u2 := h.mem.mv.trans mv (fun q hq => .inr (by have := (hlt q hq).1; omega))
  have low : Below (ge + 1) u u2 := ⟨hg.os, hg.tape, hg.output, hg.size, fun j hj => hg.block j (by omega) (fun e => by have := (hlt j e.symm).1; omega)⟩
  have hm1 : Moved (fun k => k = m) u u2 → True := fun _ => trivial
  obtain ⟨pp, hpp, hpb⟩ := h.mem.mki.blk
  have hmk : MkI m nsv ns u2 := ⟨⟨pp, hpp, (low.block m (by omega)).trans hpb⟩, h.mem.mki.form, fun j hj => by
    obtain ⟨b, o, cap, g1, g2, g3⟩ := h.mem.mki.row j hj
    exact ⟨b, o, cap, g1, g2, (low.cell (p := ⟨b, o + j, none⟩) (show b < ge + 1 by omega)).trans g3⟩, h.mem.mki.rng, h.mem.mki.len⟩
  have mem2 : MemR m nsv ns w [(ge, #[.int .i64 op, .int .i64 0, .string ⟨#[]⟩, .string ⟨#[]⟩, .string ⟨#[]⟩, kv], 28), (w.heap.size, #[.int .i64 0, .int .i64 0, .string ⟨#[]⟩, .string ⟨#[]⟩, .string ⟨#[]⟩, .slice none 0 0], 28)] u2 := ⟨mw, hmk, hlo, fun x hx => by
    have hxl := (h.mem.lt x hx).1
    have hxg : x.1 < ge + 1 := by
      rcases List.mem_cons.1 hx with rfl | hx
      · exact Nat.lt_succ_self _
      · have := (List.pairwise_cons.1 h.mem.srt).1 x hx
        simp only at this
        omega
    exact (low.block x.1 hxg).trans (h.mem.all x hx), fun x hx => ⟨Nat.lt_of_lt_of_le (h.mem.lt x hx).1 hg.size, (h.mem.lt x hx).2⟩, h.mem.srt⟩
  have hsz : (u2.setCell ⟨ge, 5, none⟩ kv2).heap.size = u2.heap.size := by simp
  have hset : ∀ k, k ≠ ge → (u2.setCell ⟨ge, 5, none⟩ kv2).heap[k]? = u2.heap[k]? := fun k hk => by
    rcases Nat.lt_or_ge k u2.heap.size with h1 | h1
    · exact ((Moved.refl (fun j => j = ge) u2).setCell ⟨ge, 5, none⟩ kv2 (.inl rfl)).block k h1 hk
    · rw [Array.getElem?_eq_none (by rw [hsz]; exact h1), Array.getElem?_eq_none h1]
  refine ⟨mem2.set 5 kv2, ?_, fun x hx => ?_⟩
  · refine ho.moved ((Moved.refl (fun k => k = ge) u2).setCell _ _ (.inl rfl)) (fun q hq => ?_)
    have := (OwG.lt ho q hq).1
    omega
  · have hold : opIn x.1.op ∧ x.1.tm.Sm ∧ ∃ lo hi, ge < lo ∧ hi ≤ u.heap.size ∧ KidsS lo hi u d (kvO x) x.1.kids ∧ ∀ q, kv.ownBlock = some q → q < lo ∨ hi ≤ q := by
      rcases List.mem_append.1 hx with hx | hx
      · exact h.kids x hx
      · rw [List.mem_singleton.1 hx]; exact hp
    obtain ⟨h1, h2, lo, hi, h3, h4, h5, h6⟩ := hold
    refine ⟨h1, h2, lo, hi, h3, by rw [hsz]; exact Nat.le_trans h4 hg.size, h5.keep (fun k hk1 hk2 => ?_), fun q hq => ?_⟩
    · rw [hset k (by omega)]
      exact hg.block k (by omega) (fun e => by
        have := h6 k e.symm
        omega)
    · rcases hn q hq with hq | hq
      · exact h6 q hq
      · exact .inr (by omega)
end
/-- What the maker answers. -/
def MadeP (m : Nat) (nsv : Value) (ns : List Int) (w : World) (d : Nat) (e' : Ending) (w' : World) : Prop :=
  ∃ (x : Exp) (kv : Value), e' = .returned (.agg #[.int .i64 x.op, .int .i64 x.tm.k, .string x.tm.s, .string x.tm.l, .string x.tm.t, kv]) ∧ opIn x.op ∧ x.tm.Sm ∧ KidsS w.heap.size w'.heap.size w' d kv x.kids ∧ MkI m nsv ns w' ∧ Moved (fun k => k = m) w w'
end Go.Proofs.YtecomfhbdonkbaaGreatDoor
