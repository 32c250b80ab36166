/- PgLog; PgSx; PgSz -/
import Derived.Test.YtpfjbcfnpfgidaaDoorGj
import Derived.Defers
import Derived.Laws.EntriesVeiled
namespace Go.Proofs.YtpfjbcfnpfgidaaDoor
set_option maxRecDepth 100000
/-- The pages: the root, the free ones (the one that comes next first), the bytes of those in use. -/
structure Lg where
  root : Int
  free : List Nat
  page : Nat → List UInt8
def Lg.stt (N : Nat) (G : Lg) : Stt := ⟨G.root, nextOf N G.free⟩
def Lg.used (N : Nat) (G : Lg) (i : Nat) : Prop := 1 ≤ i ∧ i < N ∧ i ∉ G.free
instance (N : Nat) (G : Lg) (i : Nat) : Decidable (G.used N i) := by unfold Lg.used; infer_instance
/-- The bytes of page i on the sectors K. -/
def pgK (K : List (List UInt8)) (i : Nat) : List UInt8 := pageOf (K.getD (401 + i) [])
theorem pgK_length (K : List (List UInt8)) (i : Nat) : (pgK K i).length = 504 := pageOf_length _
/-- The sectors K hold the pages G. -/
structure Holds (K : List (List UInt8)) (N : Nat) (G : Lg) : Prop where
  len : K.length = 401 + N
  most : N ≤ 2000
  head : K[0]? = some (zeros 512)
  chn : Chn N G.free
  wf : (Lit.int .i64 G.root).wf = true
  own : ∀ i ∈ 0 :: G.free, pgK K i = ownOf (G.stt N) i
  page : ∀ i, G.used N i → pgK K i = G.page i
theorem Holds.long {K : List (List UInt8)} {N : Nat} {G : Lg} (h : Holds K N G) (i : Nat) (hi : G.used N i) : (G.page i).length = 504 := by rw [← h.page i hi]; exact pgK_length K i
theorem synced_fault {A : Ab} {K : List (List UInt8)} (h : Synced A K) (i : Nat) (hi : i < K.length) : A.fault (i : Int) = 0 := by
  unfold Ab.fault
  rw [h.live, h.now, if_neg (by decide), if_pos ⟨by omega, by omega⟩]
theorem synced_stored {A : Ab} {K : List (List UInt8)} (h : Synced A K) (i : Nat) (hi : 401 + i < K.length) : storedOf A i = pgK K i := by
  unfold storedOf pgK
  have hf := synced_fault h (401 + i) hi
  have e : ((401 + i : Nat) : Int) = 401 + (i : Int) := by omega
  rw [e] at hf
  congr 1
  unfold Ab.read
  rw [if_pos hf, h.now]
  congr 1
theorem Holds.enc {A : Ab} {K : List (List UInt8)} {N : Nat} {G : Lg} (h : Holds K N G) (hs : Synced A K) : Enc A N G.free G.root := by
  refine ⟨by rw [hs.now]; exact h.len, by have := h.most; omega, h.chn, fun i hi => ?_, fun i hi => ?_, h.wf⟩
  · have hf := synced_fault hs (401 + i) (by have := h.len; omega)
    have e : ((401 + i : Nat) : Int) = 401 + (i : Int) := by omega
    rwa [e] at hf
  · have hi' : i < N := by
      rcases List.mem_cons.1 hi with e | e
      · have := h.chn.pos; omega
      · exact (h.chn.all i e).2
    rw [synced_stored hs i (by have := h.len; omega)]
    exact h.own i hi
/-- A transaction that began at G and has come to H. -/
structure Tr (N : Nat) (G H : Lg) (t : Tx) : Prop where
  was : t.was = G.stt N
  chn : Chn N H.free
  wf : (Lit.int .i64 H.root).wf = true
  long : ∀ i, H.used N i → (H.page i).length = 504
  put : ∀ (i : Nat) b, t.f i = some b → H.used N i ∧ b = H.page i
  old : ∀ i, H.used N i → t.f i = none → G.used N i ∧ H.page i = G.page i
  neg : ∀ i : Int, i < 0 → t.f i = none
theorem Tr.begin {N : Nat} {G : Lg} (h : Chn N G.free) (hw : (Lit.int .i64 G.root).wf = true) (hl : ∀ i, G.used N i → (G.page i).length = 504) : Tr N G G ⟨G.stt N, fun _ => none, 0⟩ :=
  ⟨rfl, h, hw, hl, (fun _ _ h => by cases h), fun _ h _ => ⟨h, rfl⟩, fun _ _ => rfl⟩
def Lg.new (N : Nat) : Lg := ⟨0, List.range' 1 (N - 1), fun _ => []⟩
theorem new_chn {N : Nat} (h : 1 ≤ N) : Chn N (Lg.new N).free := by
  refine ⟨h, List.nodup_range' .., fun a ha => ?_⟩
  have := List.mem_range'_1.1 ha
  omega
theorem link_range' (N : Nat) : ∀ (k a i : Nat), a + k = N → a ≤ i → i < N → link N (List.range' a k) i = (i : Int) + 1
  | 0, a, i, h, h1, h2 => by omega
  | k + 1, a, i, h, h1, h2 => by
    rw [List.range'_succ]
    by_cases e : i = a
    · subst e
      rw [link_self]
      cases k with
      | zero => simp [headOr]; omega
      | succ k => rw [List.range'_succ]; simp [headOr]
    · rw [link_other e, link_range' N k (a + 1) i (by omega) (by omega) h2]
theorem le_zero : le 0 8 = zeros 8 := by decide
theorem new_holds {N : Nat} (h1 : 2 ≤ N) (h2 : N ≤ 2000) : Holds (List.replicate (401 + N) (zeros 512)) N (Lg.new N) := by
  have hz : ∀ i, i < N → pgK (List.replicate (401 + N) (zeros 512)) i = zeros 504 := by
    intro i hi
    unfold pgK
    have : (List.replicate (401 + N) (zeros 512)).getD (401 + i) [] = zeros 512 := by
      rw [List.getD_eq_getElem?_getD, List.getElem?_replicate, if_pos (by omega)]; rfl
    rw [this]
    unfold pageOf page zeros
    simp
  refine ⟨by simp, h2, by rw [List.getElem?_replicate, if_pos (by omega)], new_chn (by omega), rfl, fun i hi => ?_, fun i hi => ?_⟩
  · have hiN : i < N := by
      rcases List.mem_cons.1 hi with e | e
      · omega
      · have := List.mem_range'_1.1 e; omega
    rw [hz i hiN]
    unfold ownOf
    have hn : (Lg.stt N (Lg.new N)).next.getD i 0 = (i : Int) + 1 := by
      show (nextOf N (List.range' 1 (N - 1))).getD i 0 = _
      rw [nextOf_at _ hiN]
      have : 0 :: List.range' 1 (N - 1) = List.range' 0 N := by
        rw [show N = (N - 1) + 1 by omega, List.range'_succ]; simp
      rw [this, link_range' N N 0 i (by omega) (by omega) hiN]
    rw [hn, show (i : Int) + 1 - i - 1 = 0 by omega, le_zero]
    show _ = pageOf (zeros 8 ++ if i = 0 then le 0 8 else [])
    rw [le_zero]
    unfold pageOf page
    split <;> simp [zeros]
  · have := hi.2.2
    exact absurd (List.mem_range'_1.2 ⟨hi.1, by have := hi.2.1; omega⟩) this
end Go.Proofs.YtpfjbcfnpfgidaaDoor
namespace Go.Proofs.YtpfjbcfnpfgidaaDoor
open Go.RowKit Go.Maps
set_option maxRecDepth 100000
def Lx (w0 w : World) (X : Nat → Prop) (r p : Nat) (A : Ab) (S : Stt) (T : Option Tx) : Prop :=
  Below w0.heap.size w0 w ∧ (∀ k, X k → k < w.heap.size) ∧ ∃ P Q, DkA w P r A ∧ Pg w Q r p S T ∧ (∀ k, P k → w0.heap.size ≤ k ∧ k < w.heap.size ∧ ¬ X k) ∧ (∀ k, Q k → w0.heap.size ≤ k ∧ k < w.heap.size ∧ ¬ X k ∧ ¬ P k)
section
variable {w0 w w' : World} {X : Nat → Prop} {r p : Nat} {A : Ab} {S : Stt} {T : Option Tx}
theorem Lx.below (h : Lx w0 w X r p A S T) : Below w0.heap.size w0 w := h.1
theorem Lx.size (h : Lx w0 w X r p A S T) : w0.heap.size ≤ w.heap.size := h.1.size
theorem Lx.turn {S' : Stt} {T' : Option Tx} (h : Lx w0 w X r p A S T) {f : FuncId} {args : Array Value} {R : Ending → Prop} (hc : ∀ Q, Pg w Q r p S T → Calls Tryd.prog f args w fun e w' => R e ∧ PgTo w Q w' r p S' T') :
    Calls Tryd.prog f args w fun e w' => R e ∧ Lx w0 w' X r p A S' T' ∧ Mx w0 X w w' := by
  obtain ⟨h1, h2, P, Q, h3, h4, h5, h6⟩ := h
  refine (hc Q h4).mono ?_
  rintro e w' ⟨hR, Q', g1, g2, g3⟩
  have hs := g2.size
  have hm : Mx w0 X w w' := g2.mono (fun k hk => ⟨(h6 k hk).1, (h6 k hk).2.2.1⟩)
  refine ⟨hR, ⟨h1.trans (hm.below (fun k hk => hk.1) h1.size), fun k hk => Nat.lt_of_lt_of_le (h2 k hk) hs, P, _, h3.moved g2 (fun k hk e => (h6 k e).2.2.2 hk), g1.shrink, fun k hk => ⟨(h5 k hk).1, Nat.lt_of_lt_of_le (h5 k hk).2.1 hs, (h5 k hk).2.2⟩, fun k hk => ?_⟩, hm⟩
  rcases g3 k hk.1 with e | e
  · exact ⟨(h6 k e).1, hk.2, (h6 k e).2.2⟩
  · refine ⟨Nat.le_trans h1.size e, hk.2, fun hx => ?_, fun hp => ?_⟩
    · have := h2 k hx; omega
    · have := (h5 k hp).2.1; omega
end
section
variable {w0 w w' : World} {X : Nat → Prop} {r p N c : Nat} {G : Lg} {H : Option Lg}
end
end Go.Proofs.YtpfjbcfnpfgidaaDoor
namespace Go.Proofs.YtpfjbcfnpfgidaaDoor
open Go.RowKit Go.Maps
set_option maxRecDepth 100000
section
variable {w0 w w' : World} {X : Nat → Prop} {r p N c : Nat} {G : Lg} {H : Option Lg}
/-- A new disk. -/
def Nd (w0 w : World) (X : Nat → Prop) (r n : Nat) : Prop := Sx w0 w X r (Ab.new n)
theorem nd_new (n : Nat) (x : Int) (hx : x = n) (h1 : 1 ≤ n) (h2 : n ≤ 3000) (hb : Below w0.heap.size w0 w) (hX : ∀ k, X k → k < w.heap.size) :
    Calls Tryd.prog 11 #[.int .i64 x] w fun e w' => ∃ r, e = .returned (.pointer (some ⟨r, 0, none⟩)) ∧ Nd w0 w' X r n ∧ Below w.heap.size w w' := by
  have hz : sizeOf' x = n := by unfold sizeOf'; omega
  have := sx_new x hb hX
  rw [hz] at this
  exact this
end
end Go.Proofs.YtpfjbcfnpfgidaaDoor
