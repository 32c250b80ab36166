/- A disk of the call's own: what the laws' walks carry; What any stage's texts may want of slices and numbers; Slices of bools and of numbers that came in. -/
import Derived.Test.YtkhdahipnfloeaaCrash
namespace Go.Proofs.Ytkhdahipnfloeaa
open Go.RowKit
set_option maxRecDepth 100000

section
theorem DkAt.lts {w : World} {P : Nat → Prop} {r bn bk : Nat} {sv : Value} {s : Dsk} (h : DkAt w P r bn bk sv s) : r < w.heap.size ∧ bn < w.heap.size ∧ bk < w.heap.size ∧ ∀ k, sv.ownBlock = some k → k < w.heap.size :=
  ⟨Blk.lt h.top, h.bnow.lt, h.bkept.lt, fun k hk => (h.row.lt k hk).2⟩
theorem Dk.shrink {w : World} {P : Nat → Prop} {r : Nat} {s : Dsk} (h : Dk w P r s) : Dk w (fun k => P k ∧ k < w.heap.size) r s := by
  obtain ⟨bn, bk, sv, h⟩ := h
  obtain ⟨l1, l2, l3, l4⟩ := h.lts
  exact ⟨bn, bk, sv, h.n1, h.n2, h.n3, h.n4, h.n5, h.n6, ⟨h.p1, l1⟩, ⟨h.p2, l2⟩, ⟨h.p3, l3⟩, fun k hk => ⟨h.p4 k hk, l4 k hk⟩, h.top, h.bnow, h.bkept, h.len, h.most, h.row, h.ats, h.short⟩

/-- w came of w0, and holds a disk of the call's own. -/
def St (w0 w : World) (r : Nat) (s : Dsk) : Prop := Below w0.heap.size w0 w ∧ ∃ P, Dk w P r s ∧ ∀ k, P k → w0.heap.size ≤ k ∧ k < w.heap.size

theorem St.below {w0 w : World} {r : Nat} {s : Dsk} (h : St w0 w r s) : Below w0.heap.size w0 w := h.1
theorem St.size {w0 w : World} {r : Nat} {s : Dsk} (h : St w0 w r s) : w0.heap.size ≤ w.heap.size := h.1.size
theorem St.of {w0 w : World} {r : Nat} {s : Dsk} {P : Nat → Prop} (h1 : Below w0.heap.size w0 w) (h2 : Dk w P r s) (h3 : ∀ k, P k → w0.heap.size ≤ k) : St w0 w r s :=
  ⟨h1, _, h2.shrink, fun k hk => ⟨h3 k hk.1, hk.2⟩⟩
/-- New blocks alone. -/
theorem St.grow {w0 w w' : World} {r : Nat} {s : Dsk} (h : St w0 w r s) (hb : Below w.heap.size w w') : St w0 w' r s := by
  obtain ⟨h1, P, h2, h3⟩ := h
  exact St.of (h1.trans (hb.mono h1.size)) (h2.moved (Q := fun _ => False) (Moved.of_below hb _) (fun _ _ hq => hq)) (fun k hk => (h3 k hk).1)
theorem St.alloc {w0 w : World} {r : Nat} {s : Dsk} (h : St w0 w r s) (o : Obj) : St w0 (w.alloc o) r s := h.grow ((Below.refl _ _).alloc (Nat.le_refl _) o)
theorem St.drew {w0 w : World} {r : Nat} {s : Dsk} (h : St w0 w r s) : St w0 w.drew r s := h.grow (Below.refl _ _).drew

theorem st_new (x : Int) (w0 w : World) (hb : Below w0.heap.size w0 w) :
    Calls Try.prog 12 #[.int .i64 x] w fun e w' => ∃ r, e = .returned (.pointer (some ⟨r, 0, none⟩)) ∧ St w0 w' r (Dsk.new (sizeOf' x)) := by
  refine (dnew_any x w).mono ?_
  rintro e w' ⟨r, P, rfl, hd, hb', hP⟩
  exact ⟨r, rfl, St.of (hb.trans (hb'.mono hb.size)) hd (fun k hk => Nat.le_trans hb.size (hP k hk))⟩

theorem st_write (r : Nat) (s : Dsk) (i : Int) (v : Value) (l : List UInt8) (w0 w : World) (h : St w0 w r s) (hb : Bs w v l) (ho : s.ops ≤ 4611686018427387904) (hst : s.stop ≤ 9223372036854775807) (hsl : s.since.length ≤ 1073741824) :
    Calls Try.prog 23 #[.pointer (some ⟨r, 0, none⟩), .int .i64 i, v] w fun e w' => e = .returned (.int .i64 (writeErr s i l)) ∧ St w0 w' r (s.write i l) := by
  obtain ⟨h1, P, h2, h3⟩ := h
  refine (write_any P r s i v l w h2 hb ho hst hsl).mono ?_
  rintro e w' ⟨rfl, P', hd, hm, hP⟩
  refine ⟨rfl, St.of (h1.trans (hm.below (fun k hk => (h3 k hk).1) h1.size)) hd (fun k hk => ?_)⟩
  rcases hP k hk with hp | hp
  · exact (h3 k hp).1
  · exact Nat.le_trans h1.size hp

theorem st_read (r : Nat) (s : Dsk) (i : Int) (w0 w : World) (h : St w0 w r s) :
    Calls Try.prog 32 #[.pointer (some ⟨r, 0, none⟩), .int .i64 i] w fun e w' =>
      ∃ v, e = .returned (.tuple #[v, .int .i64 (faultOf s i)]) ∧ Own w' w.heap.size v (readOf s i) ∧ St w0 w' r s := by
  obtain ⟨P, h2, h3⟩ := h.2
  refine (read_any P r s i w h2).mono ?_
  rintro e w' ⟨v, rfl, hv, hb⟩
  exact ⟨v, rfl, hv, h.grow hb⟩

theorem st_sync (r : Nat) (s : Dsk) (w0 w : World) (h : St w0 w r s) (ho : s.ops ≤ 4611686018427387904) (hst : s.stop ≤ 9223372036854775807) :
    Calls Try.prog 25 #[.pointer (some ⟨r, 0, none⟩)] w fun e w' => e = .returned (.int .i64 (syncErr s)) ∧ St w0 w' r s.sync := by
  obtain ⟨h1, P, h2, h3⟩ := h
  refine (sync_any P r s w h2 ho hst).mono ?_
  rintro e w' ⟨rfl, hd, hm⟩
  exact ⟨rfl, St.of (h1.trans (hm.below (fun k hk => (h3 k hk).1) h1.size)) hd (fun k hk => (h3 k hk).1)⟩

theorem st_stop (r : Nat) (s : Dsk) (n : Int) (w0 w : World) (h : St w0 w r s) :
    Calls Try.prog 15 #[.pointer (some ⟨r, 0, none⟩), .int .i64 n] w fun e w' => e = .returned (.tuple #[]) ∧ St w0 w' r { s with stop := n.toNat } := by
  obtain ⟨h1, P, h2, h3⟩ := h
  refine (stop_any P r s n w h2).mono ?_
  rintro e w' ⟨rfl, hd, hm⟩
  exact ⟨rfl, St.of (h1.trans (hm.below (fun k hk => (h3 k hk).1) h1.size)) hd (fun k hk => (h3 k hk).1)⟩

/-- keep came in, or is nil. -/
theorem st_crash (r : Nat) (s : Dsk) (v : Value) (keep : List Bool) (w0 w : World) (h : St w0 w r s) (hv : Bl w v keep) (hP : 0 < keep.length → ∀ k, v.ownBlock = some k → k < w0.heap.size) (hsl : s.since.length ≤ 1073741824) :
    Calls Try.prog 21 #[.pointer (some ⟨r, 0, none⟩), v] w fun e w' => e = .returned (.tuple #[]) ∧ St w0 w' r (s.crash keep) := by
  obtain ⟨h1, P, h2, h3⟩ := h
  refine (crash_any P r s v keep w h2 hv (fun h0 k hk hp => by have := hP h0 k hk; have := (h3 k hp).1; omega) hsl).mono ?_
  rintro e w' ⟨rfl, hd, hm⟩
  exact ⟨rfl, St.of (h1.trans (hm.below (fun k hk => (h3 k hk).1) h1.size)) hd (fun k hk => (h3 k hk).1)⟩

theorem Bl.one (w : World) (c : Bool) (t : TypeId) : Bl (w.alloc (.cells #[.bool c] t)) (.slice (some ⟨w.heap.size, 0, none⟩) 1 1) [c] := by
  refine ⟨some ⟨w.heap.size, 0, none⟩, 1, rfl, by simp, by simp [maxLen], (fun h => by cases h), fun ad had j u hu => ?_⟩
  cases had
  match j, hu with
  | 0, hu => simp at hu; subst hu; simp [Addr.add]

/-- keep is a new row of one. -/
theorem st_crash_one (r : Nat) (s : Dsk) (c : Bool) (t : TypeId) (w0 w : World) (h : St w0 w r s) (hsl : s.since.length ≤ 1073741824) :
    Calls Try.prog 21 #[.pointer (some ⟨r, 0, none⟩), .slice (some ⟨w.heap.size, 0, none⟩) 1 1] (w.alloc (.cells #[.bool c] t)) fun e w' => e = .returned (.tuple #[]) ∧ St w0 w' r (s.crash [c]) := by
  obtain ⟨h1, P, h2, h3⟩ := h
  have h2' := h2.moved (Q := fun _ => False) ((Moved.refl _ w).alloc (.cells #[.bool c] t)) (fun _ _ hq => hq)
  refine (crash_any P r s _ [c] _ h2' (Bl.one w c t) (fun _ k hk hp => by simp [Value.ownBlock] at hk; have := (h3 k hp).2; omega) hsl).mono ?_
  rintro e w' ⟨rfl, hd, hm⟩
  have h1' := h1.alloc h1.size (.cells #[.bool c] t)
  exact ⟨rfl, St.of (h1'.trans (hm.below (fun k hk => (h3 k hk).1) h1'.size)) hd (fun k hk => (h3 k hk).1)⟩

theorem st_dead (r : Nat) (s : Dsk) (w0 w : World) (h : St w0 w r s) :
    Calls Try.prog 46 #[.pointer (some ⟨r, 0, none⟩)] w fun e w' => e = .returned (.bool s.dead) ∧ w' = w := by
  obtain ⟨h1, P, h2, h3⟩ := h
  exact dead_any P r s w h2
theorem st_ops (r : Nat) (s : Dsk) (w0 w : World) (h : St w0 w r s) :
    Calls Try.prog 31 #[.pointer (some ⟨r, 0, none⟩)] w fun e w' => e = .returned (.int .i64 (s.ops : Int)) ∧ w' = w := by
  obtain ⟨h1, P, h2, h3⟩ := h
  exact ops_any P r s w h2
theorem st_size (r : Nat) (s : Dsk) (w0 w : World) (h : St w0 w r s) :
    Calls Try.prog 44 #[.pointer (some ⟨r, 0, none⟩)] w fun e w' => e = .returned (.int .i64 (s.now.length : Int)) ∧ w' = w := by
  obtain ⟨h1, P, h2, h3⟩ := h
  exact size_any P r s w h2
theorem new_bad (k : Nat) (i : Int) (h : ¬ (0 ≤ i ∧ i < k)) : faultOf (Dsk.new k) i = 1 := by
  simp only [faultOf, Dsk.new, List.length_replicate]
  rw [if_neg h]; rfl
theorem new_good (k : Nat) (i : Int) (h : 0 ≤ i ∧ i < k) : faultOf (Dsk.new k) i = 0 := by
  simp only [faultOf, Dsk.new, List.length_replicate]
  rw [if_pos h]; rfl
theorem write_bad {s : Dsk} {i : Int} (l : List UInt8) (h : faultOf s i ≠ 0) : writeErr s i l = faultOf s i ∧ s.write i l = s :=
  ⟨if_pos h, if_neg (fun h' => h h'.1)⟩
theorem write_long {s : Dsk} {i : Int} {l : List UInt8} (h : faultOf s i = 0) (hl : 512 < l.length) : writeErr s i l = 1 ∧ s.write i l = s := by
  refine ⟨?_, if_neg (fun h' => by omega)⟩
  rw [writeErr, if_neg (fun h' => h' h), if_pos hl]
theorem write_ok {s : Dsk} {i : Int} {l : List UInt8} (h : faultOf s i = 0) (hl : l.length ≤ 512) : writeErr s i l = deadErr (s.put i.toNat ⟨l.toArray⟩).step ∧ s.write i l = (s.put i.toNat ⟨l.toArray⟩).step := by
  refine ⟨?_, if_pos ⟨h, hl⟩⟩
  rw [writeErr, if_neg (fun h' => h' h), if_neg (by omega)]
end

section
theorem Own.word {w : World} {base : Nat} {v : Value} {l : List UInt8} (h : Own w base v l) (hl : l.length = 512) :
    ∃ g cap, v = .slice (some ⟨g, 0, none⟩) 512 cap ∧ 512 ≤ cap ∧ cap ≤ maxLen ∧ base ≤ g ∧ g < w.heap.size ∧ ∀ j (hj : j < l.length), w.cell? ⟨g, j, none⟩ = some (vb l[j]) := by
  obtain ⟨g, cap, hv, h1, h2, h3, h4, h5⟩ := h.at (by omega)
  exact ⟨g, cap, by rw [hv, hl], by omega, h2, h3, h4, h5⟩

def withinOf (a n : Int) : Int := if a.tmod n < 0 then a.tmod n + n else a.tmod n
theorem within_range (a : Int) (n : Int) (hn : 0 < n) : 0 ≤ withinOf a n ∧ withinOf a n < n := by
  unfold withinOf
  have h1 := Int.tmod_lt_of_pos a hn
  have h2 : -n < a.tmod n := Int.lt_tmod_of_pos a hn
  split <;> omega

theorem Bs.made (w : World) (k : Nat) (hk : k ≤ 1099511627776) : Bs (w.alloc (.cells (vbs (zeros k)).toArray 5)) (.slice (some ⟨w.heap.size, 0, none⟩) k k) (zeros k) := by
  have h := ((Blk.new w (vbs (zeros k)).toArray 5).own (base := 0) (Nat.zero_le _) (by rw [zeros_length]; simp [maxLen]; omega)).bs
  rwa [zeros_length] at h
end

section
theorem Bl.of_row {w : World} {a : Option Addr} {len cap : Nat}
    (h : (a = none ∧ len = 0 ∧ cap = 0) ∨ ∃ (x : Addr) (B : Nat → Bool), a = some x ∧ len ≤ cap ∧ cap ≤ maxLen ∧ ∀ i, i < cap → w.cell? (x.add i) = some (.bool (B i))) :
    ∃ l : List Bool, l.length = len ∧ Bl w (.slice a len cap) l := by
  rcases h with ⟨rfl, rfl, rfl⟩ | ⟨x, B, rfl, hl, hm, hc⟩
  · exact ⟨[], rfl, Bl.nil w⟩
  · have hlen : ((List.range len).map B).length = len := by simp
    refine ⟨(List.range len).map B, hlen, some x, cap, by rw [hlen], by omega, hm, (fun h => by cases h), fun ad had j u hu => ?_⟩
    cases had
    have hj : j < len := by
      have := (List.getElem?_eq_some_iff.1 hu).1
      simpa using this
    rw [hc j (by omega)]
    simp [hj] at hu
    rw [hu]

/-- A slice of numbers that reads as l, wherever it lies. -/
def Nl (w : World) (v : Value) (l : List Int) : Prop :=
  ∃ ao cap, v = .slice ao l.length cap ∧ l.length ≤ cap ∧ cap ≤ maxLen ∧ (ao = none → cap = 0) ∧ ∀ ad, ao = some ad → ∀ j u, (l.map (Value.int .i64))[j]? = some u → w.cell? (ad.add j) = some u
theorem Nl.at {w : World} {v : Value} {l : List Int} (h : Nl w v l) (hl : 0 < l.length) :
    ∃ b off cap, v = .slice (some ⟨b, off, none⟩) l.length cap ∧ l.length ≤ cap ∧ cap ≤ maxLen ∧ ∀ j (hj : j < l.length), w.cell? ⟨b, off + j, none⟩ = some (.int .i64 l[j]) := by
  obtain ⟨ao, cap, rfl, h1, h2, h3, h4⟩ := h
  cases ao with
  | none => have := h3 rfl; omega
  | some ad =>
    obtain ⟨b, off, spot⟩ := ad
    have key : ∀ j (hj : j < l.length), w.cell? ((⟨b, off, spot⟩ : Addr).add j) = some (.int .i64 l[j]) := fun j hj => h4 _ rfl j _ (by simp [hj])
    have hs : spot = none := by simpa [Addr.add] using World.cell?_spot (key 0 hl)
    subst hs
    refine ⟨b, off, cap, rfl, h1, h2, fun j hj => ?_⟩
    have := key j hj
    rwa [Addr.add_lit] at this
theorem Nl.of_row {w : World} {a : Option Addr} {len cap : Nat} {zs : List Int}
    (h : (a = none ∧ len = 0 ∧ cap = 0 ∧ zs = []) ∨ ∃ x, a = some x ∧ len ≤ cap ∧ cap ≤ maxLen ∧ zs.length = cap ∧ (∀ i, i < zs.length → w.cell? (x.add i) = some (.int .i64 (zs.getD i 0))) ∧ ∀ n ∈ zs, (Lit.int .i64 n).wf = true) :
    ∃ l : List Int, l.length = len ∧ Nl w (.slice a len cap) l := by
  rcases h with ⟨rfl, rfl, rfl, rfl⟩ | ⟨x, rfl, hl, hm, hz, hc, hw⟩
  · exact ⟨[], rfl, none, 0, rfl, by simp, by simp [maxLen], fun _ => rfl, fun ad h => by cases h⟩
  · have hlen : (zs.take len).length = len := by simp; omega
    refine ⟨zs.take len, hlen, some x, cap, by rw [hlen], by omega, hm, (fun h => by cases h), fun ad had j u hu => ?_⟩
    cases had
    have hj : j < len := by
      have := (List.getElem?_eq_some_iff.1 hu).1
      rw [List.length_map, hlen] at this; exact this
    rw [hc j (by omega)]
    have hjz : j < zs.length := by omega
    simp [hj, hjz] at hu
    rw [← hu]
    simp [List.getD, hjz]
end
end Go.Proofs.Ytkhdahipnfloeaa
