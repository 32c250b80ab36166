/- Gk -/
import Derived.Test.YtbpdapcmaioeiaaGreatKGj
import Derived.Defers
import Derived.Laws.EntriesVeiled
namespace Go.Proofs.YtbpdapcmaioeiaaGreat
set_option maxRecDepth 100000
/-- The pages: the root, the free ones (the one that comes next first), the bytes of those in use. -/
structure Lg where
 root : Int
 free : List Nat
 page : Nat → List UInt8
def Lg.stt (N : Nat) (G : Lg) : Stt := ⟨G.root, nextOf N G.free⟩
def Lg.used (N : Nat) (G : Lg) (i : Nat) : Prop := 1 ≤ i ∧ i < N ∧ i ∉ G.free
instance (N : Nat) (G : Lg) (i : Nat) : Decidable (G.used N i) := by unfold Lg.used; infer_instance
/-- The bytes of page i on the sectors K. -/
def pgK (K : List (List UInt8)) (i : Nat) : List UInt8 := pageOf (K.getD (401 + i) [])
theorem pgK_length (K : List (List UInt8)) (i : Nat) : (pgK K i).length = 504 := pageOf_length _
/-- The sectors K hold the pages G. -/
structure Holds (K : List (List UInt8)) (N : Nat) (G : Lg) : Prop where
 len : K.length = 401 + N
 most : N ≤ 2000
 head : K[0]? = some (zeros 512)
 chn : Chn N G.free
 wf : (Lit.int .i64 G.root).wf = true
 own : ∀ i ∈ 0 :: G.free, pgK K i = ownOf (G.stt N) i
 page : ∀ i, G.used N i → pgK K i = G.page i
theorem Holds.long {K : List (List UInt8)} {N : Nat} {G : Lg} (h : Holds K N G) (i : Nat) (hi : G.used N i) : (G.page i).length = 504 := by rw [← h.page i hi]; exact pgK_length K i
theorem synced_fault {A : Ab} {K : List (List UInt8)} (h : Synced A K) (i : Nat) (hi : i < K.length) : A.fault (i : Int) = 0 := by
 unfold Ab.fault
 rw [h.live, h.now, if_neg (by decide), if_pos ⟨by omega, by omega⟩]
theorem synced_stored {A : Ab} {K : List (List UInt8)} (h : Synced A K) (i : Nat) (hi : 401 + i < K.length) : storedOf A i = pgK K i := by
 unfold storedOf pgK
 have hf := synced_fault h (401 + i) hi
 have e : ((401 + i : Nat) : Int) = 401 + (i : Int) := by omega
 rw [e] at hf
 congr 1
 unfold Ab.read
 rw [if_pos hf, h.now]
 congr 1
theorem Holds.enc {A : Ab} {K : List (List UInt8)} {N : Nat} {G : Lg} (h : Holds K N G) (hs : Synced A K) : Enc A N G.free G.root := by
 refine ⟨by rw [hs.now]; exact h.len, by have := h.most; omega, h.chn, fun i hi => ?_, fun i hi => ?_, h.wf⟩
 ·have hf := synced_fault hs (401 + i) (by have := h.len; omega)
  have e : ((401 + i : Nat) : Int) = 401 + (i : Int) := by omega
  rwa [e] at hf
 ·have hi' : i < N := by
   rcases List.mem_cons.1 hi with e | e
   ·have := h.chn.pos; omega
   ·exact (h.chn.all i e).2
  rw [synced_stored hs i (by have := h.len; omega)]
  exact h.own i hi
/-- A transaction that began at G and has come to H. -/
structure Tr (N : Nat) (G H : Lg) (t : Tx) : Prop where
 was : t.was = G.stt N
 chn : Chn N H.free
 wf : (Lit.int .i64 H.root).wf = true
 long : ∀ i, H.used N i → (H.page i).length = 504
 put : ∀ (i : Nat) b, t.f i = some b → H.used N i ∧ b = H.page i
 old : ∀ i, H.used N i → t.f i = none → G.used N i ∧ H.page i = G.page i
 neg : ∀ i : Int, i < 0 → t.f i = none
theorem Tr.begin {N : Nat} {G : Lg} (h : Chn N G.free) (hw : (Lit.int .i64 G.root).wf = true) (hl : ∀ i, G.used N i → (G.page i).length = 504) : Tr N G G ⟨G.stt N, fun _ => none, 0⟩ :=
 ⟨rfl, h, hw, hl, (fun _ _ h => by cases h), fun _ h _ => ⟨h, rfl⟩, fun _ _ => rfl⟩
theorem Tr.allLong {N : Nat} {G H : Lg} {t : Tx} (h : Tr N G H t) : AllLong (some t) := by
 intro i l hl
 by_cases hi : i < 0
 ·have := h.neg i hi
  rw [show putAt (some t) i = t.f i from rfl, this] at hl
  cases hl
 ·obtain ⟨k, rfl⟩ : ∃ k : Nat, i = k := ⟨i.toNat, by omega⟩
  obtain ⟨h1, h2⟩ := h.put k l hl
  rw [h2]
  exact h.long k h1
def upd (f : Nat → List UInt8) (i : Nat) (b : List UInt8) : Nat → List UInt8 := fun j => if j = i then b else f j
theorem Tr.putP {N : Nat} {G H : Lg} {t : Tx} (h : Tr N G H t) (i : Nat) (b : List UInt8) (hi : H.used N i) (hb : b.length = 504) : Tr N G { H with page := upd H.page i b } (t.put i b) := by
 refine ⟨h.was, h.chn, h.wf, fun j hj => ?_, fun j c hc => ?_, fun j hj hn => ?_, fun j hj => ?_⟩
 ·show (upd H.page i b j).length = 504
  unfold upd
  split
  ·exact hb
  ·exact h.long j hj
 ·simp only [Tx.put] at hc
  by_cases e : j = i
  ·subst e
   rw [if_pos rfl] at hc
   refine ⟨hi, ?_⟩
   show c = upd H.page j b j
   unfold upd
   rw [if_pos rfl]; exact (Option.some.inj hc).symm
  ·rw [if_neg (by omega)] at hc
   obtain ⟨h1, h2⟩ := h.put j c hc
   refine ⟨h1, ?_⟩
   show c = upd H.page i b j
   unfold upd
   rw [if_neg e]; exact h2
 ·simp only [Tx.put] at hn
  by_cases e : j = i
  ·subst e
   rw [if_pos rfl] at hn
   cases hn
  ·rw [if_neg (by omega)] at hn
   obtain ⟨h1, h2⟩ := h.old j hj hn
   refine ⟨h1, ?_⟩
   show upd H.page i b j = G.page j
   unfold upd
   rw [if_neg e]; exact h2
 ·show (if j = (i : Int) then some b else t.f j) = none
  rw [if_neg (by omega)]
  exact h.neg j hj
theorem Tr.newP {N : Nat} {G H : Lg} {t : Tx} {a : Nat} {rest : List Nat} (h : Tr N G H t) (hf : H.free = a :: rest) : Tr N G { H with free := rest, page := upd H.page a (zeros 504) } (t.put a (zeros 504)) := by
 have hch := h.chn
 rw [hf] at hch
 have ha := hch.all a (by simp)
 have hn := (List.nodup_cons.1 hch.nodup).1
 have hu : ∀ j, Lg.used N { H with free := rest, page := upd H.page a (zeros 504) } j → j ≠ a → H.used N j := by
  intro j hj e
  refine ⟨hj.1, hj.2.1, ?_⟩
  rw [hf]
  intro hm
  rcases List.mem_cons.1 hm with h1 | h1
  ·exact e h1
  ·exact hj.2.2 h1
 have hu2 : ∀ j, H.used N j → Lg.used N { H with free := rest, page := upd H.page a (zeros 504) } j ∧ j ≠ a := by
  intro j hj
  have h1 := hj.2.2
  rw [hf] at h1
  exact ⟨⟨hj.1, hj.2.1, fun hm => h1 (by simp [hm])⟩, fun e => h1 (by simp [e])⟩
 refine ⟨h.was, hch.tail, h.wf, fun j hj => ?_, fun j c hc => ?_, fun j hj hnn => ?_, fun j hj => ?_⟩
 ·show (upd H.page a (zeros 504) j).length = 504
  unfold upd
  split
  ·exact zeros_length _
  ·rename_i e; exact h.long j (hu j hj e)
 ·simp only [Tx.put] at hc
  by_cases e : j = a
  ·subst e
   rw [if_pos rfl] at hc
   refine ⟨⟨ha.1, ha.2, hn⟩, ?_⟩
   show c = upd H.page j (zeros 504) j
   unfold upd
   rw [if_pos rfl]; exact (Option.some.inj hc).symm
  ·rw [if_neg (by omega)] at hc
   obtain ⟨h1, h2⟩ := h.put j c hc
   refine ⟨(hu2 j h1).1, ?_⟩
   show c = upd H.page a (zeros 504) j
   unfold upd
   rw [if_neg e]; exact h2
 ·simp only [Tx.put] at hnn
  by_cases e : j = a
  ·subst e
   rw [if_pos rfl] at hnn
   cases hnn
  ·rw [if_neg (by omega)] at hnn
   obtain ⟨h1, h2⟩ := h.old j (hu j hj e) hnn
   refine ⟨h1, ?_⟩
   show upd H.page a (zeros 504) j = G.page j
   unfold upd
   rw [if_neg e]; exact h2
 ·show (if j = (a : Int) then some (zeros 504) else t.f j) = none
  rw [if_neg (by omega)]
  exact h.neg j hj
theorem Tr.dropP {N : Nat} {G H : Lg} {t : Tx} (h : Tr N G H t) (i : Nat) (hi : H.used N i) : Tr N G { H with free := i :: H.free } (t.drop i) := by
 have hu : ∀ j, Lg.used N { H with free := i :: H.free } j → H.used N j ∧ j ≠ i := by
  intro j hj
  have h1 := hj.2.2
  exact ⟨⟨hj.1, hj.2.1, fun hm => h1 (List.mem_cons_of_mem _ hm)⟩, fun e => h1 (by rw [e]; exact List.mem_cons_self ..)⟩
 have hu2 : ∀ j, H.used N j → j ≠ i → Lg.used N { H with free := i :: H.free } j := by
  intro j hj e
  refine ⟨hj.1, hj.2.1, fun hm => ?_⟩
  rcases List.mem_cons.1 hm with h1 | h1
  ·exact e h1
  ·exact hj.2.2 h1
 refine ⟨h.was, h.chn.cons hi.1 hi.2.1 hi.2.2, h.wf, fun j hj => h.long j (hu j hj).1, fun j c hc => ?_, fun j hj hn => ?_, fun j hj => ?_⟩
 ·simp only [Tx.drop] at hc
  by_cases e : j = i
  ·subst e
   rw [if_pos rfl] at hc
   cases hc
  ·rw [if_neg (by omega)] at hc
   obtain ⟨h1, h2⟩ := h.put j c hc
   exact ⟨hu2 j h1 e, h2⟩
 ·obtain ⟨h1, e⟩ := hu j hj
  simp only [Tx.drop] at hn
  rw [if_neg (by omega)] at hn
  exact h.old j h1 hn
 ·show (if j = (i : Int) then none else t.f j) = none
  rw [if_neg (by omega)]
  exact h.neg j hj
theorem Tr.rootP {N : Nat} {G H : Lg} {t : Tx} (h : Tr N G H t) (x : Int) (hx : (Lit.int .i64 x).wf = true) : Tr N G { H with root := x } t :=
 ⟨h.was, h.chn, hx, h.long, h.put, h.old, h.neg⟩
def Lg.new (N : Nat) : Lg := ⟨0, List.range' 1 (N - 1), fun _ => []⟩
theorem new_chn {N : Nat} (h : 1 ≤ N) : Chn N (Lg.new N).free := by
 refine ⟨h, List.nodup_range' .., fun a ha => ?_⟩
 have := List.mem_range'_1.1 ha
 omega
theorem link_range' (N : Nat) : ∀ (k a i : Nat), a + k = N → a ≤ i → i < N → link N (List.range' a k) i = (i : Int) + 1
 | 0, a, i, h, h1, h2 => by omega
 | k + 1, a, i, h, h1, h2 => by
  rw [List.range'_succ]
  by_cases e : i = a
  ·subst e
   rw [link_self]
   cases k with
   | zero => simp [headOr]; omega
   | succ k => rw [List.range'_succ]; simp [headOr]
  ·rw [link_other e, link_range' N k (a + 1) i (by omega) (by omega) h2]
theorem le_zero : le 0 8 = zeros 8 := by decide
theorem new_holds {N : Nat} (h1 : 2 ≤ N) (h2 : N ≤ 2000) : Holds (List.replicate (401 + N) (zeros 512)) N (Lg.new N) := by
 have hz : ∀ i, i < N → pgK (List.replicate (401 + N) (zeros 512)) i = zeros 504 := by
  intro i hi
  unfold pgK
  have : (List.replicate (401 + N) (zeros 512)).getD (401 + i) [] = zeros 512 := by
   rw [List.getD_eq_getElem?_getD, List.getElem?_replicate, if_pos (by omega)]; rfl
  rw [this]
  unfold pageOf page zeros
  simp
 refine ⟨by simp, h2, by rw [List.getElem?_replicate, if_pos (by omega)], new_chn (by omega), rfl, fun i hi => ?_, fun i hi => ?_⟩
 ·have hiN : i < N := by
   rcases List.mem_cons.1 hi with e | e
   ·omega
   ·have := List.mem_range'_1.1 e; omega
  rw [hz i hiN]
  unfold ownOf
  have hn : (Lg.stt N (Lg.new N)).next.getD i 0 = (i : Int) + 1 := by
   show (nextOf N (List.range' 1 (N - 1))).getD i 0 = _
   rw [nextOf_at _ hiN]
   have : 0 :: List.range' 1 (N - 1) = List.range' 0 N := by
    rw [show N = (N - 1) + 1 by omega, List.range'_succ]; simp
   rw [this, link_range' N N 0 i (by omega) (by omega) hiN]
  rw [hn, show (i : Int) + 1 - i - 1 = 0 by omega, le_zero]
  show _ = pageOf (zeros 8 ++ if i = 0 then le 0 8 else [])
  rw [le_zero]
  unfold pageOf page
  split <;> simp [zeros]
 ·have := hi.2.2
  exact absurd (List.mem_range'_1.2 ⟨hi.1, by have := hi.2.1; omega⟩) this
end Go.Proofs.YtbpdapcmaioeiaaGreat
namespace Go.Proofs.YtbpdapcmaioeiaaGreat
open Go.RowKit Go.Maps
set_option maxRecDepth 100000
end Go.Proofs.YtbpdapcmaioeiaaGreat
namespace Go.Proofs.YtbpdapcmaioeiaaGreat
open Go.RowKit Go.Maps
set_option maxRecDepth 100000
def Lx (w0 w : World) (X : Nat → Prop) (r p : Nat) (A : Ab) (S : Stt) (T : Option Tx) : Prop :=
 Below w0.heap.size w0 w ∧ (∀ k, X k → k < w.heap.size) ∧ ∃ P Q, DkA w P r A ∧ Pg w Q r p S T ∧ (∀ k, P k → w0.heap.size ≤ k ∧ k < w.heap.size ∧ ¬ X k) ∧ (∀ k, Q k → w0.heap.size ≤ k ∧ k < w.heap.size ∧ ¬ X k ∧ ¬ P k)
section
variable {w0 w w' : World} {X : Nat → Prop} {r p : Nat} {A : Ab} {S : Stt} {T : Option Tx}
theorem Lx.below (h : Lx w0 w X r p A S T) : Below w0.heap.size w0 w := h.1
theorem Lx.mv {P' : Nat → Prop} (h : Lx w0 w X r p A S T) (hm : Moved P' w w') (hP : ∀ k, P' k → X k ∧ w0.heap.size ≤ k) : Lx w0 w' X r p A S T := by
 obtain ⟨h1, h2, P, Q, h3, h4, h5, h6⟩ := h
 have hs := hm.size
 exact ⟨h1.trans (hm.below (fun k hk => (hP k hk).2) h1.size), fun k hk => Nat.lt_of_lt_of_le (h2 k hk) hs, P, Q, h3.moved hm (fun k hk e => (h5 k hk).2.2 (hP k e).1), h4.moved hm (fun k hk e => (h6 k hk).2.2.1 (hP k e).1),
  fun k hk => ⟨(h5 k hk).1, Nat.lt_of_lt_of_le (h5 k hk).2.1 hs, (h5 k hk).2.2⟩, fun k hk => ⟨(h6 k hk).1, Nat.lt_of_lt_of_le (h6 k hk).2.1 hs, (h6 k hk).2.2⟩⟩
theorem Lx.grow (h : Lx w0 w X r p A S T) (hb : Below w.heap.size w w') : Lx w0 w' X r p A S T := h.mv (Moved.of_below hb (fun _ => False)) (fun _ h => h.elim)
theorem Lx.take (h : Lx w0 w X r p A S T) (hb : Below w.heap.size w w') : Lx w0 w' (fun k => X k ∨ (w.heap.size ≤ k ∧ k < w'.heap.size)) r p A S T := by
 obtain ⟨h1, h2, P, Q, h3, h4, h5, h6⟩ := h
 have hs := hb.size
 refine ⟨h1.trans (hb.mono h1.size), fun k hk => ?_, P, Q, h3.below hb, h4.below hb, fun k hk => ?_, fun k hk => ?_⟩
 ·rcases hk with hk | hk
  ·exact Nat.lt_of_lt_of_le (h2 k hk) hs
  ·exact hk.2
 ·have := h5 k hk
  exact ⟨this.1, by omega, fun e => by rcases e with e | e; exact this.2.2 e; omega⟩
 ·have := h6 k hk
  exact ⟨this.1, by omega, fun e => by rcases e with e | e; exact this.2.2.1 e; omega, this.2.2.2⟩
theorem Lx.less {X' : Nat → Prop} (h : Lx w0 w X r p A S T) (hX : ∀ k, X' k → X k) : Lx w0 w X' r p A S T := by
 obtain ⟨h1, h2, P, Q, h3, h4, h5, h6⟩ := h
 exact ⟨h1, fun k hk => h2 k (hX k hk), P, Q, h3, h4, fun k hk => ⟨(h5 k hk).1, (h5 k hk).2.1, fun e => (h5 k hk).2.2 (hX k e)⟩, fun k hk => ⟨(h6 k hk).1, (h6 k hk).2.1, fun e => (h6 k hk).2.2.1 (hX k e), (h6 k hk).2.2.2⟩⟩
theorem Lx.turn {S' : Stt} {T' : Option Tx} (h : Lx w0 w X r p A S T) {f : FuncId} {args : Array Value} {R : Ending → Prop} (hc : ∀ Q, Pg w Q r p S T → Calls Tryz.prog f args w fun e w' => R e ∧ PgTo w Q w' r p S' T') :
 Calls Tryz.prog f args w fun e w' => R e ∧ Lx w0 w' X r p A S' T' ∧ Mx w0 X w w' := by
 obtain ⟨h1, h2, P, Q, h3, h4, h5, h6⟩ := h
 refine (hc Q h4).mono ?_
 rintro e w' ⟨hR, Q', g1, g2, g3⟩
 have hs := g2.size
 have hm : Mx w0 X w w' := g2.mono (fun k hk => ⟨(h6 k hk).1, (h6 k hk).2.2.1⟩)
 refine ⟨hR, ⟨h1.trans (hm.below (fun k hk => hk.1) h1.size), fun k hk => Nat.lt_of_lt_of_le (h2 k hk) hs, P, _, h3.moved g2 (fun k hk e => (h6 k e).2.2.2 hk), g1.shrink, fun k hk => ⟨(h5 k hk).1, Nat.lt_of_lt_of_le (h5 k hk).2.1 hs, (h5 k hk).2.2⟩, fun k hk => ?_⟩, hm⟩
 rcases g3 k hk.1 with e | e
 ·exact ⟨(h6 k e).1, hk.2, (h6 k e).2.2⟩
 ·refine ⟨Nat.le_trans h1.size e, hk.2, fun hx => ?_, fun hp => ?_⟩
  ·have := h2 k hx; omega
  ·have := (h5 k hp).2.1; omega
theorem Lx.pg (h : Lx w0 w X r p A S T) : ∃ Q, Pg w Q r p S T := by
 obtain ⟨h1, h2, P, Q, h3, h4, h5, h6⟩ := h
 exact ⟨Q, h4⟩
end
section
variable {w0 w w' : World} {X : Nat → Prop} {r p N c : Nat} {G : Lg} {H : Option Lg}
/-- What SetRoot answers. -/
def lgRoot (H : Option Lg) (i : Int) : Int := if H.isSome then (if 0 ≤ i then 0 else 1) else 12
end
end Go.Proofs.YtbpdapcmaioeiaaGreat
namespace Go.Proofs.YtbpdapcmaioeiaaGreat
open Go.RowKit Go.Maps
set_option maxRecDepth 100000
def lgNew : Option Lg → Int × Int × Option Lg
 | none => (0, 12, none)
 | some H => match H.free with
  | [] => (0, 14, some H)
  | a :: rest => ((a : Int), 0, some { H with free := rest, page := upd H.page a (zeros 504) })
def lgUsed (N : Nat) (H : Lg) (i : Int) : Prop := 1 ≤ i ∧ i < N ∧ i.toNat ∉ H.free
instance (N : Nat) (H : Lg) (i : Int) : Decidable (lgUsed N H i) := by unfold lgUsed; infer_instance
def lgPut (N : Nat) (i : Int) (l : List UInt8) : Option Lg → Int × Option Lg
 | none => (12, none)
 | some H => if lgUsed N H i then (if 504 < l.length then (5, some H) else (0, some { H with page := upd H.page i.toNat (page l) })) else (1, some H)
def lgDrop (N : Nat) (i : Int) : Option Lg → Int × Option Lg
 | none => (12, none)
 | some H => if lgUsed N H i then (0, some { H with free := i.toNat :: H.free }) else (1, some H)
theorem lgPut_some (N : Nat) (i : Int) (l : List UInt8) (H : Lg) : lgPut N i l (some H) = if lgUsed N H i then (if 504 < l.length then (5, some H) else (0, some { H with page := upd H.page i.toNat (page l) })) else (1, some H) := rfl
theorem lgDrop_some (N : Nat) (i : Int) (H : Lg) : lgDrop N i (some H) = if lgUsed N H i then (0, some { H with free := i.toNat :: H.free }) else (1, some H) := rfl
section
variable {w0 w w' : World} {X : Nat → Prop} {r p N c : Nat} {G : Lg} {H : Option Lg}
theorem used_absent {H : Lg} (hch : Chn N H.free) (i : Int) : absentOf (H.stt N) i = if lgUsed N H i then 0 else 1 := absent_chn hch H.root i
end
end Go.Proofs.YtbpdapcmaioeiaaGreat
namespace Go.Proofs.YtbpdapcmaioeiaaGreat
open Go.RowKit Go.Maps
set_option maxRecDepth 100000
section
variable {w0 w w' : World} {X : Nat → Prop} {r p N c : Nat} {G : Lg} {H : Option Lg}
/-- A new disk. -/
def Nd (w0 w : World) (X : Nat → Prop) (r n : Nat) : Prop := Sx w0 w X r (Ab.new n)
theorem nd_new (n : Nat) (x : Int) (hx : x = n) (h1 : 1 ≤ n) (h2 : n ≤ 3000) (hb : Below w0.heap.size w0 w) (hX : ∀ k, X k → k < w.heap.size) :
 Calls Tryz.prog 9 #[.int .i64 x] w fun e w' => ∃ r, e = .returned (.pointer (some ⟨r, 0, none⟩)) ∧ Nd w0 w' X r n ∧ Below w.heap.size w w' := by
 have hz : sizeOf' x = n := by unfold sizeOf'; omega
 have := sx_new x hb hX
 rw [hz] at this
 exact this
end
end Go.Proofs.YtbpdapcmaioeiaaGreat
namespace Go.Proofs.YtbpdapcmaioeiaaGreat
open Go.RowKit Go.Maps
set_option maxRecDepth 100000
end Go.Proofs.YtbpdapcmaioeiaaGreat
