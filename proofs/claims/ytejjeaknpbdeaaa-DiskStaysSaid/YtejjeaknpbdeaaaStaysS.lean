/- DiskStays, the plain part: what the law keeps count of. -/
import Derived.Test.YtejjeaknpbdeaaaArgs
namespace Go.Proofs.Ytejjeaknpbdeaaa
open Go.RowKit

def hd (x : ByteArray) : UInt8 := x.data.toList.headD 0
theorem pad_small (x : ByteArray) (h : x.size ≤ 1) : pad x = hd x :: zeros 511 := by
  have hl := size_toList x
  unfold pad hd
  rw [← hl] at h ⊢
  match x.data.toList, h with
  | [], _ => rfl
  | [c], _ => rfl
  | _ :: _ :: _, h => simp at h

theorem map_set (l : List ByteArray) (p : Nat) (x : ByteArray) : (l.set p x).map hd = (l.map hd).set p (hd x) := by rw [List.map_set]

theorem laid_snoc (kept : List ByteArray) (l : List (Nat × ByteArray)) (keep : List Bool) (q : Nat × ByteArray) (i : Nat) (hi : i ≤ l.length) : laid kept (l ++ [q]) keep i = laid kept l keep i := by
  induction i with
  | zero => rfl
  | succ i ih =>
    have hil : i < l.length := by omega
    unfold laid
    rw [ih (by omega)]
    simp only [List.getD_eq_getElem?_getD, List.getElem?_append_left hil]
theorem laid_last (kept : List ByteArray) (l : List (Nat × ByteArray)) (keep : List Bool) (q : Nat × ByteArray) :
    laid kept (l ++ [q]) keep (l.length + 1) = if keep.getD l.length false then (laid kept l keep l.length).set q.1 q.2 else laid kept l keep l.length := by
  rw [laid, laid_snoc _ _ _ _ _ (Nat.le_refl _)]
  simp

structure Base (s : Dsk) (W : List UInt8) (k : Nat) : Prop where
  len : s.now.length = 4
  klen : s.kept.length = 4
  wlen : W.length = 4
  live : s.dead = false
  stop : s.stop = 0
  ops : s.ops ≤ 2 * k + 1
  since : s.since.length ≤ k
  small : (∀ x ∈ s.now, x.size ≤ 1) ∧ (∀ x ∈ s.kept, x.size ≤ 1) ∧ ∀ p ∈ s.since, p.2.size ≤ 1

/-- Ahead of the k-th write. -/
structure Inv (keep : List Bool) (sy : Nat) (s : Dsk) (W : List UInt8) (k : Nat) : Prop extends Base s W k where
  opsI : s.ops ≤ 2 * k
  one : k ≤ sy → W = s.now.map hd
  two : sy < k → s.since.length = k - sy ∧ W = (laid s.kept s.since keep (k - sy)).map hd

/-- Behind the Sync that may come ahead of the k-th write. -/
structure Mid (keep : List Bool) (sy : Nat) (s : Dsk) (W : List UInt8) (k : Nat) : Prop extends Base s W k where
  one : k < sy → W = s.now.map hd
  two : sy ≤ k → s.since.length = k - sy ∧ W = (laid s.kept s.since keep (k - sy)).map hd

theorem Inv.other {keep : List Bool} {sy : Nat} {s : Dsk} {W : List UInt8} {k : Nat} (h : Inv keep sy s W k) (hk : k ≠ sy) : Mid keep sy s W k :=
  { toBase := h.toBase, one := fun hl => h.one (by omega), two := fun hl => h.two (by omega) }

theorem sync_live (s : Dsk) (h1 : s.dead = false) (h2 : s.stop = 0) : syncErr s = 0 ∧ s.sync = { s.step with kept := s.now, since := [] } ∧ s.step.dead = false ∧ s.step.stop = 0 := by
  have h3 : s.step.dead = false := by show (s.stop == 1) = false; rw [h2]; rfl
  refine ⟨by rw [syncErr, h1, deadErr, h3]; rfl, by rw [Dsk.sync, h1, h3]; rfl, h3, by show s.stop - 1 = 0; rw [h2]⟩

theorem Inv.sync {keep : List Bool} {sy : Nat} {s : Dsk} {W : List UInt8} (h : Inv keep sy s W sy) : syncErr s = 0 ∧ Mid keep sy s.sync W sy := by
  obtain ⟨e1, e2, e3, e4⟩ := sync_live s h.live h.stop
  refine ⟨e1, ?_⟩
  rw [e2]
  exact { len := h.len, klen := h.len, wlen := h.wlen, live := e3, stop := e4, ops := Nat.succ_le_succ h.opsI, since := Nat.zero_le _, small := ⟨h.small.1, h.small.1, by simp⟩,
          one := fun hl => by omega, two := fun _ => ⟨by simp, by rw [Nat.sub_self]; exact h.one (Nat.le_refl _)⟩ }

theorem Mid.fault {keep : List Bool} {sy : Nat} {s : Dsk} {W : List UInt8} {k : Nat} (h : Mid keep sy s W k) (p : Nat) (hp : p < 4) : faultOf s p = 0 := by
  rw [faultOf, h.live, h.len]
  simp; omega

theorem Mid.writeErr {keep : List Bool} {sy : Nat} {s : Dsk} {W : List UInt8} {k : Nat} (h : Mid keep sy s W k) (p : Nat) (hp : p < 4) (v : UInt8) : writeErr s p [v] = 0 := by
  obtain ⟨e1, -⟩ := write_ok (h.fault p hp) (show [v].length ≤ 512 by simp)
  rw [e1]
  show (if (s.stop == 1) = true then (13 : Int) else 0) = 0
  rw [h.stop]; rfl

theorem Mid.write {keep : List Bool} {sy : Nat} {s : Dsk} {W : List UInt8} {k : Nat} (h : Mid keep sy s W k) (p : Nat) (hp : p < 4) (v : UInt8) (W' : List UInt8)
    (hW : (k < sy ∨ keep.getD (k - sy) false = true) → W' = W.set p v) (hW' : ¬ (k < sy ∨ keep.getD (k - sy) false = true) → W' = W) :
    Inv keep sy (s.write p [v]) W' (k + 1) := by
  obtain ⟨-, e2⟩ := write_ok (h.fault p hp) (show [v].length ≤ 512 by simp)
  rw [e2, Int.toNat_natCast]
  have hx : (⟨[v].toArray⟩ : ByteArray).size ≤ 1 := Nat.le_refl _
  have hh : hd ⟨[v].toArray⟩ = v := rfl
  have hl : W'.length = 4 := by
    by_cases hc : k < sy ∨ keep.getD (k - sy) false = true
    · rw [hW hc, List.length_set, h.wlen]
    · rw [hW' hc, h.wlen]
  refine { len := ?_, klen := h.klen, wlen := hl, live := ?_, stop := ?_, ops := ?_, since := ?_, small := ?_, opsI := ?_, one := ?_, two := ?_ }
  · show (s.now.set p _).length = 4; rw [List.length_set, h.len]
  · show (s.stop == 1) = false; rw [h.stop]; rfl
  · show s.stop - 1 = 0; rw [h.stop]
  · show s.ops + 1 ≤ _; have := h.ops; omega
  · show (s.since ++ [_]).length ≤ _; have := h.since; simp; omega
  · refine ⟨?_, h.small.2.1, ?_⟩
    · intro x hx'
      rcases List.mem_or_eq_of_mem_set hx' with hx' | rfl
      · exact h.small.1 x hx'
      · exact hx
    · intro q hq
      rcases List.mem_append.1 hq with hq | hq
      · exact h.small.2.2 q hq
      · simp at hq; subst hq; exact hx
  · show s.ops + 1 ≤ _; have := h.ops; omega
  · intro hk
    show W' = (s.now.set p _).map hd
    rw [hW (.inl (by omega)), map_set, hh, h.one (by omega)]
  · intro hk
    obtain ⟨g1, g2⟩ := h.two (by omega)
    refine ⟨?_, ?_⟩
    · show (s.since ++ [_]).length = _; simp; omega
    · show W' = (laid s.kept (s.since ++ [(p, ⟨[v].toArray⟩)]) keep (k + 1 - sy)).map hd
      rw [show k + 1 - sy = s.since.length + 1 by omega, laid_last, g1]
      by_cases hc : keep.getD (k - sy) false = true
      · rw [hW (.inr hc), if_pos hc, map_set, hh, g2]
      · rw [hW' (by rintro (h' | h'); omega; exact hc h'), if_neg hc, g2]

/-- Ahead of the Crash. -/
structure Fin' (keep : List Bool) (s : Dsk) (W : List UInt8) : Prop where
  len : s.now.length = 4
  klen : s.kept.length = 4
  wlen : W.length = 4
  small : (∀ x ∈ s.kept, x.size ≤ 1) ∧ ∀ p ∈ s.since, p.2.size ≤ 1
  want : W = (laid s.kept s.since keep s.since.length).map hd

theorem Inv.fin {keep : List Bool} {sy : Nat} {s : Dsk} {W : List UInt8} {k : Nat} (h : Inv keep sy s W k) (hk : sy < k) : Fin' keep s W :=
  ⟨h.len, h.klen, h.wlen, h.small.2, by obtain ⟨g1, g2⟩ := h.two hk; rw [g1]; exact g2⟩
theorem Mid.fin {keep : List Bool} {sy : Nat} {s : Dsk} {W : List UInt8} (h : Mid keep sy s W sy) : Fin' keep s W :=
  ⟨h.len, h.klen, h.wlen, h.small.2, by obtain ⟨g1, g2⟩ := h.two (Nat.le_refl _); rw [g1]; exact g2⟩

theorem laid_small (kept : List ByteArray) (l : List (Nat × ByteArray)) (keep : List Bool) (h1 : ∀ x ∈ kept, x.size ≤ 1) (h2 : ∀ p ∈ l, p.2.size ≤ 1) (i : Nat) : ∀ x ∈ laid kept l keep i, x.size ≤ 1 := by
  induction i with
  | zero => exact h1
  | succ i ih =>
    unfold laid
    split
    · intro x hx
      rcases List.mem_or_eq_of_mem_set hx with hx | rfl
      · exact ih x hx
      · by_cases hi : i < l.length
        · rw [List.getD_eq_getElem?_getD, List.getElem?_eq_getElem hi]; exact h2 _ (List.getElem_mem _)
        · rw [List.getD_eq_getElem?_getD, List.getElem?_eq_none (by omega)]; decide
    · exact ih

theorem Fin'.read {keep : List Bool} {s : Dsk} {W : List UInt8} (h : Fin' keep s W) (j : Nat) (hj : j < 4) : faultOf (s.crash keep) j = 0 ∧ readOf (s.crash keep) j = W[j]'(by rw [h.wlen]; exact hj) :: zeros 511 := by
  have hl : (laid s.kept s.since keep s.since.length).length = 4 := by rw [laid_length, h.klen]
  have hf : faultOf (s.crash keep) j = 0 := by
    show (if false = true then (13 : Int) else if (0 : Int) ≤ j ∧ (j : Int) < (laid s.kept s.since keep s.since.length).length then 0 else 1) = 0
    rw [if_neg (by decide), if_pos (by rw [hl]; omega)]
  refine ⟨hf, ?_⟩
  rw [readOf, if_pos hf]
  have hs : sect (s.crash keep) j = (laid s.kept s.since keep s.since.length)[j]'(by rw [hl]; exact hj) := by
    show (laid s.kept s.since keep s.since.length).getD (j : Int).toNat ByteArray.empty = _
    rw [Int.toNat_natCast, List.getD_eq_getElem?_getD, List.getElem?_eq_getElem (by rw [hl]; exact hj)]
    rfl
  rw [hs, pad_small _ (laid_small _ _ _ h.small.1 h.small.2 _ _ (List.getElem_mem _))]
  congr 1
  have hw := h.want
  simp [hw]

theorem stays_start (keep : List Bool) (sy : Nat) : Inv keep sy (Dsk.new 4) [0, 0, 0, 0] 0 :=
  { len := rfl, klen := rfl, wlen := rfl, live := rfl, stop := rfl, ops := Nat.zero_le _, since := Nat.zero_le _,
    small := ⟨fun x hx => by rw [(List.mem_replicate.1 hx).2]; decide, fun x hx => by rw [(List.mem_replicate.1 hx).2]; decide, by simp [Dsk.new]⟩,
    opsI := Nat.zero_le _, one := fun _ => rfl, two := fun h => by omega }

/-- The disk and the array beside it. -/
def Sq (w0 w : World) (r : Nat) (s : Dsk) (q : Nat) (W : List UInt8) : Prop :=
  Below w0.heap.size w0 w ∧ w0.heap.size ≤ q ∧ Blk w q (vbs W).toArray 38 ∧ ∃ P, Dk w P r s ∧ ∀ k, P k → w0.heap.size ≤ k ∧ k < w.heap.size ∧ k ≠ q

theorem Sq.of {w0 w : World} {r : Nat} {s : Dsk} {q : Nat} {W : List UInt8} {P : Nat → Prop} (h1 : Below w0.heap.size w0 w) (hq : w0.heap.size ≤ q) (hb : Blk w q (vbs W).toArray 38) (h2 : Dk w P r s) (h3 : ∀ k, P k → w0.heap.size ≤ k ∧ k ≠ q) : Sq w0 w r s q W :=
  ⟨h1, hq, hb, _, h2.shrink, fun k hk => ⟨(h3 k hk.1).1, hk.2, (h3 k hk.1).2⟩⟩
theorem Sq.grow {w0 w w' : World} {r : Nat} {s : Dsk} {q : Nat} {W : List UInt8} (h : Sq w0 w r s q W) (hb : Below w.heap.size w w') : Sq w0 w' r s q W := by
  obtain ⟨h1, hq, hB, P, h2, h3⟩ := h
  exact Sq.of (h1.trans (hb.mono h1.size)) hq (hB.moved (Moved.of_below hb (fun _ => False)) (fun h => h)) (h2.moved (Q := fun _ => False) (Moved.of_below hb _) (fun _ _ hq => hq)) (fun k hk => ⟨(h3 k hk).1, (h3 k hk).2.2⟩)
theorem Sq.alloc {w0 w : World} {r : Nat} {s : Dsk} {q : Nat} {W : List UInt8} (h : Sq w0 w r s q W) (o : Obj) : Sq w0 (w.alloc o) r s q W := h.grow ((Below.refl _ _).alloc (Nat.le_refl _) o)
theorem Sq.drew {w0 w : World} {r : Nat} {s : Dsk} {q : Nat} {W : List UInt8} (h : Sq w0 w r s q W) : Sq w0 w.drew r s q W := h.grow (Below.refl _ _).drew
theorem Sq.set {w0 w : World} {r : Nat} {s : Dsk} {q : Nat} {W : List UInt8} (h : Sq w0 w r s q W) (p : Nat) (v : UInt8) : Sq w0 (w.setCell ⟨q, p, none⟩ (vb v)) r s q (W.set p v) := by
  obtain ⟨h1, hq, hB, P, h2, h3⟩ := h
  have hm : Moved (· = q) w (w.setCell ⟨q, p, none⟩ (vb v)) := (Moved.refl (· = q) w).setCell ⟨q, p, none⟩ _ (.inl rfl)
  refine Sq.of (h1.trans (hm.below (fun k hk => by omega) h1.size)) hq ?_ (h2.moved hm (fun k hk e => (h3 k hk).2.2 e)) (fun k hk => ⟨(h3 k hk).1, (h3 k hk).2.2⟩)
  have := hB.set p (vb v)
  have e : (vbs W).toArray.setIfInBounds p (vb v) = (vbs (W.set p v)).toArray := by
    apply Array.ext'
    simp [vbs, List.map_set]
  rwa [e] at this
theorem sq_write (r : Nat) (s : Dsk) (i : Int) (v : Value) (l : List UInt8) (q : Nat) (W : List UInt8) (w0 w : World) (h : Sq w0 w r s q W) (hb : Bs w v l) (ho : s.ops ≤ 4611686018427387904) (hst : s.stop ≤ 9223372036854775807) (hsl : s.since.length ≤ 1073741824) :
    Calls Try.prog 18 #[.pointer (some ⟨r, 0, none⟩), .int .i64 i, v] w fun e w' => e = .returned (.int .i64 (writeErr s i l)) ∧ Sq w0 w' r (s.write i l) q W := by
  obtain ⟨h1, hq, hB, P, h2, h3⟩ := h
  have hql := hB.lt
  refine (write_any P r s i v l w h2 hb ho hst hsl).mono ?_
  rintro e w' ⟨rfl, P', hd, hm, hP⟩
  refine ⟨rfl, Sq.of (h1.trans (hm.below (fun k hk => (h3 k hk).1) h1.size)) hq (hB.moved hm (fun hp => (h3 q hp).2.2 rfl)) hd (fun k hk => ?_)⟩
  rcases hP k hk with hp | hp
  · exact ⟨(h3 k hp).1, (h3 k hp).2.2⟩
  · exact ⟨Nat.le_trans h1.size hp, by omega⟩
theorem sq_sync (r : Nat) (s : Dsk) (q : Nat) (W : List UInt8) (w0 w : World) (h : Sq w0 w r s q W) (ho : s.ops ≤ 4611686018427387904) (hst : s.stop ≤ 9223372036854775807) :
    Calls Try.prog 17 #[.pointer (some ⟨r, 0, none⟩)] w fun e w' => e = .returned (.int .i64 (syncErr s)) ∧ Sq w0 w' r s.sync q W := by
  obtain ⟨h1, hq, hB, P, h2, h3⟩ := h
  refine (sync_any P r s w h2 ho hst).mono ?_
  rintro e w' ⟨rfl, hd, hm⟩
  exact ⟨rfl, Sq.of (h1.trans (hm.below (fun k hk => (h3 k hk).1) h1.size)) hq (hB.moved hm (fun hp => (h3 q hp).2.2 rfl)) hd (fun k hk => ⟨(h3 k hk).1, (h3 k hk).2.2⟩)⟩
theorem sq_crash (r : Nat) (s : Dsk) (v : Value) (keep : List Bool) (q : Nat) (W : List UInt8) (w0 w : World) (h : Sq w0 w r s q W) (hv : Bl w v keep) (hP : 0 < keep.length → ∀ k, v.ownBlock = some k → k < w0.heap.size) (hsl : s.since.length ≤ 1073741824) :
    Calls Try.prog 19 #[.pointer (some ⟨r, 0, none⟩), v] w fun e w' => e = .returned (.tuple #[]) ∧ Sq w0 w' r (s.crash keep) q W := by
  obtain ⟨h1, hq, hB, P, h2, h3⟩ := h
  refine (crash_any P r s v keep w h2 hv (fun h0 k hk hp => by have := hP h0 k hk; have := (h3 k hp).1; omega) hsl).mono ?_
  rintro e w' ⟨rfl, hd, hm⟩
  exact ⟨rfl, Sq.of (h1.trans (hm.below (fun k hk => (h3 k hk).1) h1.size)) hq (hB.moved hm (fun hp => (h3 q hp).2.2 rfl)) hd (fun k hk => ⟨(h3 k hk).1, (h3 k hk).2.2⟩)⟩
theorem sq_read (r : Nat) (s : Dsk) (i : Int) (q : Nat) (W : List UInt8) (w0 w : World) (h : Sq w0 w r s q W) :
    Calls Try.prog 20 #[.pointer (some ⟨r, 0, none⟩), .int .i64 i] w fun e w' =>
      ∃ v, e = .returned (.tuple #[v, .int .i64 (faultOf s i)]) ∧ Own w' w.heap.size v (readOf s i) ∧ Sq w0 w' r s q W := by
  obtain ⟨P, h2, h3⟩ := h.2.2.2
  refine (read_any P r s i w h2).mono ?_
  rintro e w' ⟨v, rfl, hv, hb⟩
  exact ⟨v, rfl, hv, h.grow hb⟩
end Go.Proofs.Ytejjeaknpbdeaaa
