/- A disk of the law's own, as it is seen, beside blocks that it has none of (X). -/
import Derived.Test.YtkhdahipnfloeaaDRec
import Derived.Test.YtkhdahipnfloeaaGood
import Derived.Test.YtkhdahipnfloeaaStrs
namespace Go.Proofs.Ytkhdahipnfloeaa
open Go.RowKit
set_option maxRecDepth 100000

def Sx (w0 w : World) (X : Nat → Prop) (r : Nat) (A : Ab) : Prop :=
  Below w0.heap.size w0 w ∧ (∀ k, X k → k < w.heap.size) ∧ ∃ P, DkA w P r A ∧ ∀ k, P k → w0.heap.size ≤ k ∧ k < w.heap.size ∧ ¬ X k
/-- Of what w0 had, and of X, nothing has turned. -/
def Mx (w0 : World) (X : Nat → Prop) (w w' : World) : Prop := Moved (fun k => w0.heap.size ≤ k ∧ ¬ X k) w w'

theorem Sx.below {w0 w : World} {X : Nat → Prop} {r : Nat} {A : Ab} (h : Sx w0 w X r A) : Below w0.heap.size w0 w := h.1
theorem Sx.size {w0 w : World} {X : Nat → Prop} {r : Nat} {A : Ab} (h : Sx w0 w X r A) : w0.heap.size ≤ w.heap.size := h.1.size
theorem Sx.grow {w0 w w' : World} {X : Nat → Prop} {r : Nat} {A : Ab} (h : Sx w0 w X r A) (hb : Below w.heap.size w w') : Sx w0 w' X r A := by
  obtain ⟨h1, h2, P, h3, h4⟩ := h
  exact ⟨h1.trans (hb.mono h1.size), fun k hk => Nat.lt_of_lt_of_le (h2 k hk) hb.size, P, h3.below hb, fun k hk => ⟨(h4 k hk).1, Nat.lt_of_lt_of_le (h4 k hk).2.1 hb.size, (h4 k hk).2.2⟩⟩
/-- What has come is none of the disk's: X takes it. -/
theorem Sx.take {w0 w w' : World} {X : Nat → Prop} {r : Nat} {A : Ab} (h : Sx w0 w X r A) (hb : Below w.heap.size w w') : Sx w0 w' (fun k => X k ∨ (w.heap.size ≤ k ∧ k < w'.heap.size)) r A := by
  obtain ⟨h1, h2, P, h3, h4⟩ := h
  refine ⟨h1.trans (hb.mono h1.size), ?_, P, h3.below hb, fun k hk => ⟨(h4 k hk).1, Nat.lt_of_lt_of_le (h4 k hk).2.1 hb.size, ?_⟩⟩
  · rintro k (hk | hk)
    · exact Nat.lt_of_lt_of_le (h2 k hk) hb.size
    · exact hk.2
  · rintro (hk' | hk')
    · exact (h4 k hk).2.2 hk'
    · have := (h4 k hk).2.1; omega
theorem Sx.to {w0 w w' : World} {X P : Nat → Prop} {r : Nat} {B : Ab} (h1 : Below w0.heap.size w0 w) (h2 : ∀ k, X k → k < w.heap.size) (h4 : ∀ k, P k → w0.heap.size ≤ k ∧ k < w.heap.size ∧ ¬ X k) (h : DkTo w P w' r B) : Sx w0 w' X r B ∧ Mx w0 X w w' := by
  obtain ⟨P', g1, g2, g3⟩ := h
  refine ⟨⟨h1.trans (g2.below (fun j hj => (h4 j hj).1) h1.size), fun k hk => Nat.lt_of_lt_of_le (h2 k hk) g2.size, _, g1.shrink, fun k hk => ⟨?_, hk.2, fun hx => ?_⟩⟩, g2.mono (fun j hj => ⟨(h4 j hj).1, (h4 j hj).2.2⟩)⟩
  · rcases g3 k hk.1 with e | e
    · exact (h4 k e).1
    · exact Nat.le_trans h1.size e
  · rcases g3 k hk.1 with e | e
    · exact (h4 k e).2.2 hx
    · have := h2 k hx; omega
theorem Mx.pus {w0 w w' : World} {X S : Nat → Prop} {v : Value} {l : Pages} (h : Mx w0 X w w') (hp : Pus w S v l) (hS : ∀ g, S g → g < w0.heap.size ∨ X g) : Pus w' S v l :=
  hp.moved h (fun g hg hj => by rcases hS g hg with e | e; omega; exact hj.2 e)
theorem Mx.bs {w0 w w' : World} {X : Nat → Prop} {v : Value} {l : List UInt8} (h : Mx w0 X w w') (hp : Bs w v l) (hS : ∀ g, v.ownBlock = some g → g < w0.heap.size ∨ X g) : Bs w' v l :=
  hp.moved h (fun g hg hj => by rcases hS g hg with e | e; omega; exact hj.2 e)
theorem Mx.bl {w0 w w' : World} {X : Nat → Prop} {v : Value} {l : List Bool} (h : Mx w0 X w w') (hp : Bl w v l) (hS : 0 < l.length → ∀ g, v.ownBlock = some g → g < w0.heap.size ∨ X g) : Bl w' v l :=
  hp.moved h (fun h0 g hg hj => by rcases hS h0 g hg with e | e; omega; exact hj.2 e)
theorem Ss.moved {P : Nat → Prop} {w w' : World} {v : Value} {l : List ByteArray} (h : Ss w v l) (hm : Moved P w w') (hP : 0 < l.length → ∀ k, v.ownBlock = some k → ¬ P k) : Ss w' v l := by
  obtain ⟨ao, cap, rfl, h1, h2, h3, h4⟩ := h
  refine ⟨ao, cap, rfl, h1, h2, h3, fun ad had j u hu => ?_⟩
  have hc := h4 ad had j u hu
  subst had
  have hlt := World.block_lt_of_cell? w _ hc
  rw [block_add] at hlt
  have h0 : 0 < l.length := by
    have := (List.getElem?_eq_some_iff.1 hu).1
    unfold strs at this
    rw [List.length_map] at this; omega
  rw [World.cell?_of_block (w := w) (hm.block _ (by rw [block_add]; exact hlt) (by rw [block_add]; exact hP h0 _ rfl))]
  exact hc
theorem Mx.ss {w0 w w' : World} {X : Nat → Prop} {v : Value} {l : List ByteArray} (h : Mx w0 X w w') (hp : Ss w v l) (hS : 0 < l.length → ∀ g, v.ownBlock = some g → g < w0.heap.size ∨ X g) : Ss w' v l :=
  hp.moved h (fun h0 g hg hj => by rcases hS h0 g hg with e | e; omega; exact hj.2 e)
theorem OwnS.lt {w : World} {base : Nat} {v : Value} {l : List ByteArray} (h : OwnS w base v l) : ∀ q, v.ownBlock = some q → base ≤ q ∧ q < w.heap.size := fun q hq => World.ownsRow.lt h q hq
theorem Pus.mono {w : World} {S S' : Nat → Prop} {v : Value} {l : Pages} (h : Pus w S v l) (hS : ∀ g, S g → S' g) : Pus w S' v l := by
  obtain ⟨ao, cap, rfl, h1, h2, h3⟩ := h
  refine ⟨ao, cap, rfl, h1, h2, fun k hk => ?_⟩
  obtain ⟨b, off, e, hb, c0, u, c1, hbs, hu⟩ := h3 k hk
  exact ⟨b, off, e, hS b hb, c0, u, c1, hbs, fun h0 g hg => hS g (hu h0 g hg)⟩

section
variable {w0 w : World} {X : Nat → Prop} {r : Nat} {A : Ab}

theorem sx_new (x : Int) (hb : Below w0.heap.size w0 w) (hX : ∀ k, X k → k < w.heap.size) :
    Calls Try.prog 12 #[.int .i64 x] w fun e w' => ∃ r, e = .returned (.pointer (some ⟨r, 0, none⟩)) ∧ Sx w0 w' X r (Ab.new (sizeOf' x)) ∧ Below w.heap.size w w' := by
  refine (dnew_any x w).mono ?_
  rintro e w' ⟨r, P, rfl, hd, hb', hP⟩
  refine ⟨r, rfl, ⟨hb.trans (hb'.mono hb.size), fun k hk => Nat.lt_of_lt_of_le (hX k hk) hb'.size, _, DkA.shrink ⟨_, hd, Okay.new _, abs_new _⟩, fun k hk => ⟨Nat.le_trans hb.size (hP k hk.1), hk.2, fun hx => ?_⟩⟩, hb'⟩
  have := hX k hx
  have := hP k hk.1
  omega

theorem sx_commit (v : Value) (l : Pages) (S : Nat → Prop) (h : Sx w0 w X r A) (hp : Pus w S v l) (hS : ∀ g, S g → g < w0.heap.size ∨ X g) (hs : Small A 100000) :
    Calls Try.prog 18 #[.pointer (some ⟨r, 0, none⟩), v] w fun e w' => e = .returned (.int .i64 (A.commit l).1) ∧ Sx w0 w' X r (A.commit l).2 ∧ Mx w0 X w w' := by
  obtain ⟨h1, h2, P, h3, h4⟩ := h
  refine (commit_any v l S w P r A h3 hp (fun g hg hP => ?_) (fun g hg => ?_) hs).mono ?_
  · rcases hS g hg with e | e
    · have := (h4 g hP).1; omega
    · exact (h4 g hP).2.2 e
  · rcases hS g hg with e | e
    · exact Nat.lt_of_lt_of_le e h1.size
    · exact h2 g e
  · rintro e w' ⟨rfl, ht⟩
    exact ⟨rfl, Sx.to h1 h2 h4 ht⟩
theorem sx_recover (h : Sx w0 w X r A) (hs : Small A 100000) :
    Calls Try.prog 27 #[.pointer (some ⟨r, 0, none⟩)] w fun e w' => e = .returned (.tuple #[.int .i64 A.recover.1, .int .i64 A.recover.2.1]) ∧ Sx w0 w' X r A.recover.2.2 ∧ Mx w0 X w w' := by
  obtain ⟨h1, h2, P, h3, h4⟩ := h
  refine (drecover_any w P r A h3 hs).mono ?_
  rintro e w' ⟨rfl, ht⟩
  exact ⟨rfl, Sx.to h1 h2 h4 ht⟩
theorem sx_stop (n : Int) (h : Sx w0 w X r A) :
    Calls Try.prog 15 #[.pointer (some ⟨r, 0, none⟩), .int .i64 n] w fun e w' => e = .returned (.tuple #[]) ∧ Sx w0 w' X r (A.stopAt n) ∧ Mx w0 X w w' := by
  obtain ⟨h1, h2, P, ⟨s, g1, g2, rfl⟩, h4⟩ := h
  refine (stop_any P r s n w g1).mono ?_
  rintro e w' ⟨rfl, hd, hm⟩
  exact ⟨rfl, Sx.to h1 h2 h4 ⟨P, ⟨_, hd, g2, abs_stop s n⟩, hm, fun _ h => .inl h⟩⟩
theorem sx_crash (v : Value) (keep : List Bool) (h : Sx w0 w X r A) (hv : Bl w v keep) (hP : 0 < keep.length → ∀ k, v.ownBlock = some k → k < w0.heap.size ∨ X k) (hs : Small A 1073741824) :
    Calls Try.prog 21 #[.pointer (some ⟨r, 0, none⟩), v] w fun e w' => e = .returned (.tuple #[]) ∧ Sx w0 w' X r (A.crash keep) ∧ Mx w0 X w w' := by
  obtain ⟨h1, h2, P, ⟨s, g1, g2, rfl⟩, h4⟩ := h
  refine (crash_any P r s v keep w g1 hv (fun h0 k hk hp => ?_) (by simpa [abs] using hs.2.1)).mono ?_
  · rcases hP h0 k hk with e | e
    · have := (h4 k hp).1; omega
    · exact (h4 k hp).2.2 e
  · rintro e w' ⟨rfl, hd, hm⟩
    exact ⟨rfl, Sx.to h1 h2 h4 ⟨P, ⟨_, hd, rfl, abs_crash s keep⟩, hm, fun _ h => .inl h⟩⟩
theorem sx_read (i : Int) (h : Sx w0 w X r A) :
    Calls Try.prog 32 #[.pointer (some ⟨r, 0, none⟩), .int .i64 i] w fun e w' => ∃ v, e = .returned (.tuple #[v, .int .i64 (A.fault i)]) ∧ Own w' w.heap.size v (A.read i) ∧ Sx w0 w' X r A ∧ Below w.heap.size w w' := by
  have hh := h
  obtain ⟨h1, h2, P, h3, h4⟩ := h
  refine (to_read i (DkTo.refl h3)).mono ?_
  rintro e w' ⟨v, rfl, hv, hb, -⟩
  exact ⟨v, rfl, hv, hh.grow hb, hb⟩
theorem sx_ops (h : Sx w0 w X r A) :
    Calls Try.prog 31 #[.pointer (some ⟨r, 0, none⟩)] w fun e w' => e = .returned (.int .i64 (A.ops : Int)) ∧ w' = w := by
  obtain ⟨h1, h2, P, ⟨s, g1, g2, rfl⟩, h4⟩ := h
  exact ops_any P r s w g1
theorem sx_homes (h : Sx w0 w X r A) (hd : A.dead = false) (hlen : A.now.length ≤ 3000) :
    Calls Try.prog 29 #[.pointer (some ⟨r, 0, none⟩)] w fun e w' => ∃ v, e = .returned v ∧ OwnS w' w.heap.size v (homesOf A) ∧ Sx w0 w' X r A ∧ Below w.heap.size w w' := by
  have hh := h
  obtain ⟨h1, h2, P, h3, h4⟩ := h
  refine (lhomes_any w w P r A (DkTo.refl h3) hd hlen).mono ?_
  rintro e w' ⟨v, rfl, hv, hb⟩
  exact ⟨v, rfl, hv, hh.grow hb, hb⟩
end

/-! ### Plain: a new disk, and what a commit leaves that is not stopped -/

theorem new_synced (n : Nat) : Synced (Ab.new n) (List.replicate n (zeros 512)) := ⟨rfl, rfl, rfl, rfl⟩
theorem new_small (n k : Nat) : Small (Ab.new n) k := ⟨Nat.zero_le _, Nat.zero_le _, Nat.zero_le _⟩
theorem Before.self {K : List (List UInt8)} (h : K[0]? = some (zeros 512)) : Before K K := ⟨rfl, h, fun _ _ => rfl⟩
theorem new_head (n : Nat) (h : 1 ≤ n) : (List.replicate n (zeros 512))[0]? = some (zeros 512) := by rw [List.getElem?_replicate, if_pos (by omega)]
theorem After.self {K H : List (List UInt8)} {l : Pages} (h : After K H l) : Before K K := Before.self h.head
theorem commit_bad {A : Ab} {l : Pages} (h : fitsOf A.now.length l ≠ 0) : A.commit l = (fitsOf A.now.length l, A) := by unfold Ab.commit; rw [if_neg h]
theorem commit_good {A : Ab} {K : List (List UInt8)} {l : Pages} (hS : Synced A K) (hK : K[0]? = some (zeros 512)) (hl : Pagess K.length l) (hs : A.stop = 0) :
    (A.commit l).1 = 0 ∧ (∃ K', Synced (A.commit l).2 K' ∧ After K' K l) ∧ (A.commit l).2.ops = A.ops + (2 * l.length + 6) ∧ (A.commit l).2.stop = 0 := by
  have hc : A.commit l = A.run (commitOps l) := by unfold Ab.commit; rw [if_pos ((fits_iff _ _).2 (by rw [hS.now]; exact hl))]
  rw [hc]
  rcases commit_out hS (Before.self hK) hl with ⟨q1, q2, q3, q4⟩ | ⟨-, -, q⟩
  · exact ⟨q1, q2, q3, by rw [q4, hs, Nat.zero_sub]⟩
  · omega
theorem Synced.small {A : Ab} {K : List (List UInt8)} (h : Synced A K) {k : Nat} (h1 : A.ops ≤ k) (h2 : A.stop ≤ 1073741824) : Small A k := ⟨h1, by rw [h.since]; exact Nat.zero_le _, h2⟩

theorem l3_known (w : World) : Calls Try.prog 10 #[] w fun e w' => e = .returned (.bool true) ∧ Below w.heap.size w w' := by
  have hc : (Ab.new 500).commit [] = (1, Ab.new 500) := commit_bad (by decide)
  have hr : (Ab.new 500).recover = (0, 0, Ab.new 500) := recover_none (new_synced 500) (new_head 500 (by omega))
  have HC := Lib.hid hc
  have HR := Lib.hid hr
  clear hc hr
  go_enter Try.func10, Try.ntmps10
  go_wp2_with fail
  refine (sx_new (w0 := w) (X := fun _ => False) 500 (Below.refl _ _) (fun _ h => h.elim)).mono ?_
  rintro e w1 ⟨r, rfl, h1, -⟩
  rw [show sizeOf' 500 = 500 from rfl] at h1
  go_wp2_with fail
  refine (sx_commit (.slice none 0 0) [] (fun _ => False) h1 (Pus.nil _ _) (fun _ h => h.elim) (new_small _ _)).mono ?_
  rw [HC.out]
  rintro e w2 ⟨rfl, h2, -⟩
  go_wp2_with fail
  refine (sx_recover h2 (new_small _ _)).mono ?_
  rw [HR.out]
  rintro e w3 ⟨rfl, h3, -⟩
  go_wp2_with fail
  go_ret
  exact ⟨rfl, h3.below⟩
end Go.Proofs.Ytkhdahipnfloeaa
