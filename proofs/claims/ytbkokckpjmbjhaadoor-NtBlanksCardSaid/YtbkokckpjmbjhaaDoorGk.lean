/- PgLog; PgCom; PgSx; PgSy; PgSz; PgTurns -/
import Derived.Test.YtbkokckpjmbjhaaDoorGi
import Derived.Test.YtbkokckpjmbjhaaDoorGj
import Derived.Defers
import Derived.Laws.EntriesVeiled
namespace Go.Proofs.YtbkokckpjmbjhaaDoor
set_option maxRecDepth 100000
/-- The pages: the root, the free ones (the one that comes next first), the bytes of those in use. -/
structure Lg where
  root : Int
  free : List Nat
  page : Nat → List UInt8
def Lg.stt (N : Nat) (G : Lg) : Stt := ⟨G.root, nextOf N G.free⟩
def Lg.used (N : Nat) (G : Lg) (i : Nat) : Prop := 1 ≤ i ∧ i < N ∧ i ∉ G.free
instance (N : Nat) (G : Lg) (i : Nat) : Decidable (G.used N i) := by unfold Lg.used; infer_instance
/-- The bytes of page i on the sectors K. -/
def pgK (K : List (List UInt8)) (i : Nat) : List UInt8 := pageOf (K.getD (401 + i) [])
theorem pgK_length (K : List (List UInt8)) (i : Nat) : (pgK K i).length = 504 := pageOf_length _
/-- The sectors K hold the pages G. -/
structure Holds (K : List (List UInt8)) (N : Nat) (G : Lg) : Prop where
  len : K.length = 401 + N
  most : N ≤ 2000
  head : K[0]? = some (zeros 512)
  chn : Chn N G.free
  wf : (Lit.int .i64 G.root).wf = true
  own : ∀ i ∈ 0 :: G.free, pgK K i = ownOf (G.stt N) i
  page : ∀ i, G.used N i → pgK K i = G.page i
theorem Holds.long {K : List (List UInt8)} {N : Nat} {G : Lg} (h : Holds K N G) (i : Nat) (hi : G.used N i) : (G.page i).length = 504 := by rw [← h.page i hi]; exact pgK_length K i
theorem synced_fault {A : Ab} {K : List (List UInt8)} (h : Synced A K) (i : Nat) (hi : i < K.length) : A.fault (i : Int) = 0 := by
  unfold Ab.fault
  rw [h.live, h.now, if_neg (by decide), if_pos ⟨by omega, by omega⟩]
theorem synced_stored {A : Ab} {K : List (List UInt8)} (h : Synced A K) (i : Nat) (hi : 401 + i < K.length) : storedOf A i = pgK K i := by
  unfold storedOf pgK
  have hf := synced_fault h (401 + i) hi
  have e : ((401 + i : Nat) : Int) = 401 + (i : Int) := by omega
  rw [e] at hf
  congr 1
  unfold Ab.read
  rw [if_pos hf, h.now]
  congr 1
theorem Holds.enc {A : Ab} {K : List (List UInt8)} {N : Nat} {G : Lg} (h : Holds K N G) (hs : Synced A K) : Enc A N G.free G.root := by
  refine ⟨by rw [hs.now]; exact h.len, by have := h.most; omega, h.chn, fun i hi => ?_, fun i hi => ?_, h.wf⟩
  · have hf := synced_fault hs (401 + i) (by have := h.len; omega)
    have e : ((401 + i : Nat) : Int) = 401 + (i : Int) := by omega
    rwa [e] at hf
  · have hi' : i < N := by
      rcases List.mem_cons.1 hi with e | e
      · have := h.chn.pos; omega
      · exact (h.chn.all i e).2
    rw [synced_stored hs i (by have := h.len; omega)]
    exact h.own i hi
/-- A transaction that began at G and has come to H. -/
structure Tr (N : Nat) (G H : Lg) (t : Tx) : Prop where
  was : t.was = G.stt N
  chn : Chn N H.free
  wf : (Lit.int .i64 H.root).wf = true
  long : ∀ i, H.used N i → (H.page i).length = 504
  put : ∀ (i : Nat) b, t.f i = some b → H.used N i ∧ b = H.page i
  old : ∀ i, H.used N i → t.f i = none → G.used N i ∧ H.page i = G.page i
  neg : ∀ i : Int, i < 0 → t.f i = none
theorem Tr.begin {N : Nat} {G : Lg} (h : Chn N G.free) (hw : (Lit.int .i64 G.root).wf = true) (hl : ∀ i, G.used N i → (G.page i).length = 504) : Tr N G G ⟨G.stt N, fun _ => none, 0⟩ :=
  ⟨rfl, h, hw, hl, (fun _ _ h => by cases h), fun _ h _ => ⟨h, rfl⟩, fun _ _ => rfl⟩
theorem Tr.allLong {N : Nat} {G H : Lg} {t : Tx} (h : Tr N G H t) : AllLong (some t) := by
  intro i l hl
  by_cases hi : i < 0
  · have := h.neg i hi
    rw [show putAt (some t) i = t.f i from rfl, this] at hl
    cases hl
  · obtain ⟨k, rfl⟩ : ∃ k : Nat, i = k := ⟨i.toNat, by omega⟩
    obtain ⟨h1, h2⟩ := h.put k l hl
    rw [h2]
    exact h.long k h1
def upd (f : Nat → List UInt8) (i : Nat) (b : List UInt8) : Nat → List UInt8 := fun j => if j = i then b else f j
theorem Tr.putP {N : Nat} {G H : Lg} {t : Tx} (h : Tr N G H t) (i : Nat) (b : List UInt8) (hi : H.used N i) (hb : b.length = 504) : Tr N G { H with page := upd H.page i b } (t.put i b) := by
  refine ⟨h.was, h.chn, h.wf, fun j hj => ?_, fun j c hc => ?_, fun j hj hn => ?_, fun j hj => ?_⟩
  · show (upd H.page i b j).length = 504
    unfold upd
    split
    · exact hb
    · exact h.long j hj
  · simp only [Tx.put] at hc
    by_cases e : j = i
    · subst e
      rw [if_pos rfl] at hc
      refine ⟨hi, ?_⟩
      show c = upd H.page j b j
      unfold upd
      rw [if_pos rfl]; exact (Option.some.inj hc).symm
    · rw [if_neg (by omega)] at hc
      obtain ⟨h1, h2⟩ := h.put j c hc
      refine ⟨h1, ?_⟩
      show c = upd H.page i b j
      unfold upd
      rw [if_neg e]; exact h2
  · simp only [Tx.put] at hn
    by_cases e : j = i
    · subst e
      rw [if_pos rfl] at hn
      cases hn
    · rw [if_neg (by omega)] at hn
      obtain ⟨h1, h2⟩ := h.old j hj hn
      refine ⟨h1, ?_⟩
      show upd H.page i b j = G.page j
      unfold upd
      rw [if_neg e]; exact h2
  · show (if j = (i : Int) then some b else t.f j) = none
    rw [if_neg (by omega)]
    exact h.neg j hj
theorem Tr.newP {N : Nat} {G H : Lg} {t : Tx} {a : Nat} {rest : List Nat} (h : Tr N G H t) (hf : H.free = a :: rest) : Tr N G { H with free := rest, page := upd H.page a (zeros 504) } (t.put a (zeros 504)) := by
  have hch := h.chn
  rw [hf] at hch
  have ha := hch.all a (by simp)
  have hn := (List.nodup_cons.1 hch.nodup).1
  have hu : ∀ j, Lg.used N { H with free := rest, page := upd H.page a (zeros 504) } j → j ≠ a → H.used N j := by
    intro j hj e
    refine ⟨hj.1, hj.2.1, ?_⟩
    rw [hf]
    intro hm
    rcases List.mem_cons.1 hm with h1 | h1
    · exact e h1
    · exact hj.2.2 h1
  have hu2 : ∀ j, H.used N j → Lg.used N { H with free := rest, page := upd H.page a (zeros 504) } j ∧ j ≠ a := by
    intro j hj
    have h1 := hj.2.2
    rw [hf] at h1
    exact ⟨⟨hj.1, hj.2.1, fun hm => h1 (by simp [hm])⟩, fun e => h1 (by simp [e])⟩
  refine ⟨h.was, hch.tail, h.wf, fun j hj => ?_, fun j c hc => ?_, fun j hj hnn => ?_, fun j hj => ?_⟩
  · show (upd H.page a (zeros 504) j).length = 504
    unfold upd
    split
    · exact zeros_length _
    · rename_i e; exact h.long j (hu j hj e)
  · simp only [Tx.put] at hc
    by_cases e : j = a
    · subst e
      rw [if_pos rfl] at hc
      refine ⟨⟨ha.1, ha.2, hn⟩, ?_⟩
      show c = upd H.page j (zeros 504) j
      unfold upd
      rw [if_pos rfl]; exact (Option.some.inj hc).symm
    · rw [if_neg (by omega)] at hc
      obtain ⟨h1, h2⟩ := h.put j c hc
      refine ⟨(hu2 j h1).1, ?_⟩
      show c = upd H.page a (zeros 504) j
      unfold upd
      rw [if_neg e]; exact h2
  · simp only [Tx.put] at hnn
    by_cases e : j = a
    · subst e
      rw [if_pos rfl] at hnn
      cases hnn
    · rw [if_neg (by omega)] at hnn
      obtain ⟨h1, h2⟩ := h.old j (hu j hj e) hnn
      refine ⟨h1, ?_⟩
      show upd H.page a (zeros 504) j = G.page j
      unfold upd
      rw [if_neg e]; exact h2
  · show (if j = (a : Int) then some (zeros 504) else t.f j) = none
    rw [if_neg (by omega)]
    exact h.neg j hj
theorem Tr.dropP {N : Nat} {G H : Lg} {t : Tx} (h : Tr N G H t) (i : Nat) (hi : H.used N i) : Tr N G { H with free := i :: H.free } (t.drop i) := by
  have hu : ∀ j, Lg.used N { H with free := i :: H.free } j → H.used N j ∧ j ≠ i := by
    intro j hj
    have h1 := hj.2.2
    exact ⟨⟨hj.1, hj.2.1, fun hm => h1 (List.mem_cons_of_mem _ hm)⟩, fun e => h1 (by rw [e]; exact List.mem_cons_self ..)⟩
  have hu2 : ∀ j, H.used N j → j ≠ i → Lg.used N { H with free := i :: H.free } j := by
    intro j hj e
    refine ⟨hj.1, hj.2.1, fun hm => ?_⟩
    rcases List.mem_cons.1 hm with h1 | h1
    · exact e h1
    · exact hj.2.2 h1
  refine ⟨h.was, h.chn.cons hi.1 hi.2.1 hi.2.2, h.wf, fun j hj => h.long j (hu j hj).1, fun j c hc => ?_, fun j hj hn => ?_, fun j hj => ?_⟩
  · simp only [Tx.drop] at hc
    by_cases e : j = i
    · subst e
      rw [if_pos rfl] at hc
      cases hc
    · rw [if_neg (by omega)] at hc
      obtain ⟨h1, h2⟩ := h.put j c hc
      exact ⟨hu2 j h1 e, h2⟩
  · obtain ⟨h1, e⟩ := hu j hj
    simp only [Tx.drop] at hn
    rw [if_neg (by omega)] at hn
    exact h.old j h1 hn
  · show (if j = (i : Int) then none else t.f j) = none
    rw [if_neg (by omega)]
    exact h.neg j hj
theorem Tr.rootP {N : Nat} {G H : Lg} {t : Tx} (h : Tr N G H t) (x : Int) (hx : (Lit.int .i64 x).wf = true) : Tr N G { H with root := x } t :=
  ⟨h.was, h.chn, hx, h.long, h.put, h.old, h.neg⟩
theorem next_used {N : Nat} {L : List Nat} (h : Chn N L) (i : Nat) (hi : i < N) : (nextOf N L).getD i 0 = 0 ↔ i ∉ 0 :: L := by
  rw [nextOf_at L hi]
  constructor
  · intro e hm
    exact link_ne h.pos hm (fun a ha => (h.all a ha).1) e
  · exact link_out
theorem own_eq {S S' : Stt} {i : Nat} (h1 : S.next.getD i 0 = S'.next.getD i 0) (h2 : i = 0 → S.root = S'.root) : ownOf S i = ownOf S' i := by
  unfold ownOf
  rw [h1]
  by_cases h0 : i = 0
  · rw [if_pos h0, if_pos h0, h2 h0]
  · rw [if_neg h0, if_neg h0]
theorem used_or {N : Nat} {H : Lg} (i : Nat) (hi : i < N) : i ∈ 0 :: H.free ∨ H.used N i := by
  by_cases h : i ∈ 0 :: H.free
  · exact .inl h
  · refine .inr ⟨?_, hi, fun e => h (by simp [e])⟩
    have : i ≠ 0 := fun e => h (by simp [e])
    omega
/-- What page i is to be. -/
def Lg.want (N : Nat) (H : Lg) (i : Nat) : List UInt8 := if i ∈ 0 :: H.free then ownOf (H.stt N) i else H.page i
theorem Tr.want {N : Nat} {G H : Lg} {t : Tx} {K : List (List UInt8)} {A : Ab} (h : Tr N G H t) (hK : Holds K N G) (hS : Synced A K) (i : Nat) (hi : i < N) :
    (diffOf A (H.stt N) t i = true → wantOf (H.stt N) t i = H.want N i) ∧ (diffOf A (H.stt N) t i = false → pgK K i = H.want N i) := by
  have hst := synced_stored hS i (by have := hK.len; omega)
  have hft : A.fault (401 + i) = 0 := (hK.enc hS).ok i hi
  have hrow : rowDiff (H.stt N) t.was i = false → (nextOf N H.free).getD i 0 = (nextOf N G.free).getD i 0 ∧ (i = 0 → H.root = G.root) := by
    intro e
    unfold rowDiff at e
    rw [h.was, Bool.or_eq_false_iff] at e
    refine ⟨by simpa [Lg.stt] using e.1, fun e0 => ?_⟩
    have := e.2
    rw [e0] at this
    simpa [Lg.stt] using this
  unfold Lg.want
  rcases used_or (H := H) i hi with hm | hu
  · rw [if_pos hm]
    have hn : t.f i = none := by
      cases hf : t.f i with
      | none => rfl
      | some b =>
        obtain ⟨h1, -⟩ := h.put i b hf
        rcases List.mem_cons.1 hm with e | e
        · have := h1.1; omega
        · exact absurd e h1.2.2
    refine ⟨fun _ => by unfold wantOf; rw [hn], fun e => ?_⟩
    unfold diffOf at e
    rw [Bool.or_eq_false_iff] at e
    obtain ⟨r1, r2⟩ := hrow e.1
    have hmG : i ∈ 0 :: G.free := by
      refine Decidable.byContradiction (fun hne => ?_)
      have := (next_used hK.chn i hi).2 hne
      rw [← r1] at this
      exact (next_used h.chn i hi).1 this hm
    rw [hK.own i hmG]
    exact own_eq r1.symm (fun e => (r2 e).symm)
  · have hnm : i ∉ 0 :: H.free := by
      intro hm
      rcases List.mem_cons.1 hm with e | e
      · have := hu.1; omega
      · exact hu.2.2 e
    rw [if_neg hnm]
    cases hf : t.f i with
    | some b =>
      have hb := (h.put i b hf).2
      refine ⟨fun _ => by unfold wantOf; rw [hf]; exact hb, fun e => ?_⟩
      unfold diffOf putDiff at e
      rw [hf, Bool.or_eq_false_iff] at e
      have e2 := e.2
      simp only [hft, bne_self_eq_false, Bool.false_or, Bool.not_eq_false', beq_iff_eq] at e2
      rw [← hst, ← e2, hb]
    | none =>
      obtain ⟨o1, o2⟩ := h.old i hu hf
      have hdf : diffOf A (H.stt N) t i = false := by
        unfold diffOf putDiff
        rw [hf, Bool.or_false]
        unfold rowDiff
        rw [h.was, Bool.or_eq_false_iff]
        have n1 : (nextOf N H.free).getD i 0 = 0 := (next_used h.chn i hi).2 hnm
        have n2 : (nextOf N G.free).getD i 0 = 0 := (next_used hK.chn i hi).2 (by
          intro hm
          rcases List.mem_cons.1 hm with e | e
          · have := o1.1; omega
          · exact o1.2.2 e)
        refine ⟨by simp only [Lg.stt, n1, n2]; simp, ?_⟩
        have : (i == 0) = false := by have := hu.1; simp; omega
        rw [this]; rfl
      rw [hdf]
      exact ⟨(fun e => by cases e), (fun _ => by rw [hK.page i o1, o2])⟩
theorem chg_mem {A : Ab} {S : Stt} {t : Tx} {n : Nat} {p : Int × List UInt8} : p ∈ chgTo A S t n ↔ ∃ i, i < n ∧ diffOf A S t i = true ∧ p = (((401 + i : Nat) : Int), wantOf S t i) := by
  unfold chgTo
  rw [List.mem_map]
  constructor
  · rintro ⟨i, hi, rfl⟩
    rw [List.mem_filter, List.mem_range] at hi
    exact ⟨i, hi.1, hi.2, rfl⟩
  · rintro ⟨i, h1, h2, rfl⟩
    exact ⟨i, by rw [List.mem_filter, List.mem_range]; exact ⟨h1, h2⟩, rfl⟩
theorem chg_pages {A : Ab} {S : Stt} {t : Tx} {N : Nat} (hl : AllLong (some t)) (hN : (chgTo A S t N).length ≤ 400) (h0 : (chgTo A S t N).length ≠ 0) : Pagess (401 + N) (chgTo A S t N) := by
  refine ⟨h0, hN, fun p hp => ?_, ?_⟩
  · obtain ⟨i, h1, h2, rfl⟩ := chg_mem.1 hp
    refine ⟨by show (401 : Int) ≤ ((401 + i : Nat) : Int); omega, by show ((401 + i : Nat) : Int) < ((401 + N : Nat) : Int); omega, ?_⟩
    show (wantOf S t i).length ≤ 504
    rw [wantOf_length i hl]
    exact Nat.le_refl _
  · unfold chgTo
    rw [List.map_map]
    have hp : List.Pairwise (fun x1 x2 => x1 ≠ x2) ((List.range N).filter (diffOf A S t)) := List.Pairwise.filter _ List.nodup_range
    rw [List.Nodup, List.pairwise_map]
    refine List.Pairwise.imp (fun {a b} hab e => hab ?_) hp
    simp only [Function.comp] at e
    omega
/-- The sectors behind a commit that was done hold what was to be. -/
theorem Tr.after {N : Nat} {G H : Lg} {t : Tx} {K K' : List (List UInt8)} {A : Ab} (h : Tr N G H t) (hK : Holds K N G) (hS : Synced A K) (ha : After K' K (chgTo A (H.stt N) t N)) : Holds K' N H := by
  have hlen : K'.length = 401 + N := by rw [ha.len]; exact hK.len
  have hpg : ∀ i, i < N → pgK K' i = H.want N i := by
    intro i hi
    obtain ⟨w1, w2⟩ := h.want hK hS i hi
    cases hd : diffOf A (H.stt N) t i
    · rw [← w2 hd]
      have := ha.homes (401 + i) (by omega) (fun p hp e => by
        obtain ⟨j, h1, h2, rfl⟩ := chg_mem.1 hp
        simp only at e
        have : j = i := by omega
        subst this
        rw [hd] at h2; cases h2)
      unfold pgK
      rw [List.getD_eq_getElem?_getD, this, ← List.getD_eq_getElem?_getD]
    · rw [← w1 hd]
      have := ha.mine _ (chg_mem.2 ⟨i, hi, hd, rfl⟩)
      have hwl := wantOf_length (S := H.stt N) i h.allLong
      have e : (((401 + i : Nat) : Int)).toNat = 401 + i := by omega
      simp only [e] at this
      unfold pgK
      rw [List.getD_eq_getElem?_getD, this]
      show pageOf (sec (page (wantOf (H.stt N) t i))) = _
      have e2 : page (wantOf (H.stt N) t i) = wantOf (H.stt N) t i := by unfold page; rw [hwl]; exact List.append_nil _
      rw [e2]
      unfold pageOf sec
      rw [List.take_append_of_le_length (by omega), List.take_of_length_le (by omega), e2]
  refine ⟨hlen, hK.most, ha.head, h.chn, h.wf, fun i hi => ?_, fun i hi => ?_⟩
  · have hiN : i < N := by
      rcases List.mem_cons.1 hi with e | e
      · have := h.chn.pos; omega
      · exact (h.chn.all i e).2
    rw [hpg i hiN]
    unfold Lg.want
    rw [if_pos hi]
  · rw [hpg i hi.2.1]
    unfold Lg.want
    rw [if_neg (fun hm => by
      rcases List.mem_cons.1 hm with e | e
      · have := hi.1; omega
      · exact hi.2.2 e)]
/-- Nothing differs. -/
theorem Tr.same {N : Nat} {G H : Lg} {t : Tx} {K : List (List UInt8)} {A : Ab} (h : Tr N G H t) (hK : Holds K N G) (hS : Synced A K) (h0 : (chgTo A (H.stt N) t N).length = 0) : Holds K N H := by
  have hd : ∀ i, i < N → diffOf A (H.stt N) t i = false := by
    intro i hi
    cases hd : diffOf A (H.stt N) t i with
    | false => rfl
    | true =>
      have := chg_mem.2 ⟨i, hi, hd, rfl⟩
      rw [List.eq_nil_of_length_eq_zero h0] at this
      cases this
  refine ⟨hK.len, hK.most, hK.head, h.chn, h.wf, fun i hi => ?_, fun i hi => ?_⟩
  · have hiN : i < N := by
      rcases List.mem_cons.1 hi with e | e
      · have := h.chn.pos; omega
      · exact (h.chn.all i e).2
    rw [(h.want hK hS i hiN).2 (hd i hiN)]
    unfold Lg.want
    rw [if_pos hi]
  · rw [(h.want hK hS i hi.2.1).2 (hd i hi.2.1)]
    unfold Lg.want
    rw [if_neg (fun hm => by
      rcases List.mem_cons.1 hm with e | e
      · have := hi.1; omega
      · exact hi.2.2 e)]
def Lg.new (N : Nat) : Lg := ⟨0, List.range' 1 (N - 1), fun _ => []⟩
theorem new_chn {N : Nat} (h : 1 ≤ N) : Chn N (Lg.new N).free := by
  refine ⟨h, List.nodup_range' .., fun a ha => ?_⟩
  have := List.mem_range'_1.1 ha
  omega
theorem link_range' (N : Nat) : ∀ (k a i : Nat), a + k = N → a ≤ i → i < N → link N (List.range' a k) i = (i : Int) + 1
  | 0, a, i, h, h1, h2 => by omega
  | k + 1, a, i, h, h1, h2 => by
    rw [List.range'_succ]
    by_cases e : i = a
    · subst e
      rw [link_self]
      cases k with
      | zero => simp [headOr]; omega
      | succ k => rw [List.range'_succ]; simp [headOr]
    · rw [link_other e, link_range' N k (a + 1) i (by omega) (by omega) h2]
theorem le_zero : le 0 8 = zeros 8 := by decide
theorem new_holds {N : Nat} (h1 : 2 ≤ N) (h2 : N ≤ 2000) : Holds (List.replicate (401 + N) (zeros 512)) N (Lg.new N) := by
  have hz : ∀ i, i < N → pgK (List.replicate (401 + N) (zeros 512)) i = zeros 504 := by
    intro i hi
    unfold pgK
    have : (List.replicate (401 + N) (zeros 512)).getD (401 + i) [] = zeros 512 := by
      rw [List.getD_eq_getElem?_getD, List.getElem?_replicate, if_pos (by omega)]; rfl
    rw [this]
    unfold pageOf page zeros
    simp
  refine ⟨by simp, h2, by rw [List.getElem?_replicate, if_pos (by omega)], new_chn (by omega), rfl, fun i hi => ?_, fun i hi => ?_⟩
  · have hiN : i < N := by
      rcases List.mem_cons.1 hi with e | e
      · omega
      · have := List.mem_range'_1.1 e; omega
    rw [hz i hiN]
    unfold ownOf
    have hn : (Lg.stt N (Lg.new N)).next.getD i 0 = (i : Int) + 1 := by
      show (nextOf N (List.range' 1 (N - 1))).getD i 0 = _
      rw [nextOf_at _ hiN]
      have : 0 :: List.range' 1 (N - 1) = List.range' 0 N := by
        rw [show N = (N - 1) + 1 by omega, List.range'_succ]; simp
      rw [this, link_range' N N 0 i (by omega) (by omega) hiN]
    rw [hn, show (i : Int) + 1 - i - 1 = 0 by omega, le_zero]
    show _ = pageOf (zeros 8 ++ if i = 0 then le 0 8 else [])
    rw [le_zero]
    unfold pageOf page
    split <;> simp [zeros]
  · have := hi.2.2
    exact absurd (List.mem_range'_1.2 ⟨hi.1, by have := hi.2.1; omega⟩) this
end Go.Proofs.YtbkokckpjmbjhaaDoor
namespace Go.Proofs.YtbkokckpjmbjhaaDoor
open Go.RowKit Go.Maps
set_option maxRecDepth 100000
/-- What Commit answers, and what the disk is then. -/
def Ab.pcommit (A : Ab) (l : Pages) : Int × Ab := if l.length = 0 then (0, A) else A.commit l
end Go.Proofs.YtbkokckpjmbjhaaDoor
namespace Go.Proofs.YtbkokckpjmbjhaaDoor
open Go.RowKit Go.Maps
set_option maxRecDepth 100000
section
variable {w0 w w' : World} {X : Nat → Prop} {r p : Nat} {A : Ab} {S : Stt} {T : Option Tx}
end
section
variable {w0 w w' : World} {X : Nat → Prop} {r p N c : Nat} {G : Lg} {H : Option Lg}
/-- What SetRoot answers. -/
def lgRoot (H : Option Lg) (i : Int) : Int := if H.isSome then (if 0 ≤ i then 0 else 1) else 12
end
end Go.Proofs.YtbkokckpjmbjhaaDoor
namespace Go.Proofs.YtbkokckpjmbjhaaDoor
open Go.RowKit Go.Maps
set_option maxRecDepth 100000
def lgNew : Option Lg → Int × Int × Option Lg
  | none => (0, 12, none)
  | some H => match H.free with
    | [] => (0, 14, some H)
    | a :: rest => ((a : Int), 0, some { H with free := rest, page := upd H.page a (zeros 504) })
def lgUsed (N : Nat) (H : Lg) (i : Int) : Prop := 1 ≤ i ∧ i < N ∧ i.toNat ∉ H.free
instance (N : Nat) (H : Lg) (i : Int) : Decidable (lgUsed N H i) := by unfold lgUsed; infer_instance
def lgPut (N : Nat) (i : Int) (l : List UInt8) : Option Lg → Int × Option Lg
  | none => (12, none)
  | some H => if lgUsed N H i then (if 504 < l.length then (5, some H) else (0, some { H with page := upd H.page i.toNat (page l) })) else (1, some H)
def lgDrop (N : Nat) (i : Int) : Option Lg → Int × Option Lg
  | none => (12, none)
  | some H => if lgUsed N H i then (0, some { H with free := i.toNat :: H.free }) else (1, some H)
theorem lgPut_some (N : Nat) (i : Int) (l : List UInt8) (H : Lg) : lgPut N i l (some H) = if lgUsed N H i then (if 504 < l.length then (5, some H) else (0, some { H with page := upd H.page i.toNat (page l) })) else (1, some H) := rfl
theorem lgDrop_some (N : Nat) (i : Int) (H : Lg) : lgDrop N i (some H) = if lgUsed N H i then (0, some { H with free := i.toNat :: H.free }) else (1, some H) := rfl
section
variable {w0 w w' : World} {X : Nat → Prop} {r p N c : Nat} {G : Lg} {H : Option Lg}
theorem used_absent {H : Lg} (hch : Chn N H.free) (i : Int) : absentOf (H.stt N) i = if lgUsed N H i then 0 else 1 := absent_chn hch H.root i
end
end Go.Proofs.YtbkokckpjmbjhaaDoor
namespace Go.Proofs.YtbkokckpjmbjhaaDoor
open Go.RowKit Go.Maps
set_option maxRecDepth 100000
section
variable {w0 w w' : World} {X : Nat → Prop} {r p N c : Nat} {G : Lg} {H : Option Lg}
theorem stt_range {H : Lg} (hch : Chn N H.free) (hN : N ≤ 2000) : (H.stt N).next.length ≤ 100000 ∧ ∀ k, k < (H.stt N).next.length → 0 ≤ (H.stt N).next.getD k 0 ∧ (H.stt N).next.getD k 0 ≤ 1000000 := by
  have hl : (H.stt N).next.length = N := nextOf_length _ _
  refine ⟨by omega, fun k hk => ?_⟩
  have hk' : k < N := by omega
  show 0 ≤ (nextOf N H.free).getD k 0 ∧ (nextOf N H.free).getD k 0 ≤ 1000000
  rw [nextOf_at _ hk']
  have := link_range (N := N) (L := 0 :: H.free) k (fun a ha => by
    rcases List.mem_cons.1 ha with e | e
    · have := hch.pos; omega
    · exact (hch.all a e).2)
  omega
def lgCommit (G : Lg) : Option Lg → Int × Lg
  | none => (12, G)
  | some H => (0, H)
theorem pcommit_good {A : Ab} {K : List (List UInt8)} {t : Tx} {H : Lg} (k1 : Synced A K) (k2 : Holds K N G) (t2 : Tr N G H t) (h0 : A.stop = 0) (hN : (chgTo A (H.stt N) t N).length ≤ 400) :
    (A.pcommit (chgTo A (H.stt N) t N)).1 = 0 ∧ (∃ K', Synced (A.pcommit (chgTo A (H.stt N) t N)).2 K' ∧ Holds K' N H) ∧ (A.pcommit (chgTo A (H.stt N) t N)).2.ops ≤ A.ops + 806 ∧ (A.pcommit (chgTo A (H.stt N) t N)).2.stop = 0 := by
  unfold Ab.pcommit
  by_cases hl : (chgTo A (H.stt N) t N).length = 0
  · rw [if_pos hl]
    exact ⟨rfl, ⟨K, k1, t2.same k2 k1 hl⟩, Nat.le_add_right _ _, h0⟩
  · rw [if_neg hl]
    have hp := chg_pages (S := H.stt N) t2.allLong hN hl
    rw [← k2.len] at hp
    obtain ⟨q1, ⟨K', q2, q3⟩, q4, q5⟩ := commit_good k1 k2.head hp h0
    refine ⟨q1, ⟨K', q2, t2.after k2 k1 q3⟩, ?_, q5⟩
    have := hp.most
    omega
end
end Go.Proofs.YtbkokckpjmbjhaaDoor
namespace Go.Proofs.YtbkokckpjmbjhaaDoor
open Go.RowKit Go.Maps
set_option maxRecDepth 100000
/-- A row of numbers of the call's own. -/
def OwnN (base : Nat) (w : World) (v : Value) (l : List Int) : Prop := w.ownsRow base 3 1 v l.length (ints l)
theorem OwnN.nil (base : Nat) (w : World) : OwnN base w (.slice none 0 0) [] := World.ownsRow_nil _ _ _ _
theorem OwnN.moved {P : Nat → Prop} {base : Nat} {w w' : World} {v : Value} {l : List Int} (h : OwnN base w v l) (hm : Moved P w w') (hP : ∀ g, v.ownBlock = some g → ¬ P g) : OwnN base w' v l := owns_moved h hm hP
theorem OwnN.below {base : Nat} {w w' : World} {v : Value} {l : List Int} (h : OwnN base w v l) (hb : Below w.heap.size w w') : OwnN base w' v l := h.moved (Moved.of_below hb (fun _ => False)) (fun _ _ h => h)
theorem OwnN.lt {base : Nat} {w : World} {v : Value} {l : List Int} (h : OwnN base w v l) : ∀ q, v.ownBlock = some q → base ≤ q ∧ q < w.heap.size := fun q hq => World.ownsRow.lt h q hq
theorem OwnN.form {base : Nat} {w : World} {v : Value} {l : List Int} (h : OwnN base w v l) : ∃ so cap, v = .slice so l.length cap ∧ l.length ≤ cap ∧ cap ≤ maxLen := owns_form h
theorem OwnN.cell {base : Nat} {w : World} {v : Value} {l : List Int} (h : OwnN base w v l) (h0 : 0 < l.length) : ∃ g cap, v = .slice (some ⟨g, 0, none⟩) l.length cap ∧ ∀ j (hj : j < l.length), w.cell? ⟨g, j, none⟩ = some (.int .i64 l[j]) := by
  rcases h.2 with ⟨rfl, hn⟩ | ⟨g, cap, cur, rfl, hb, hh, h1, h2, h3, h4⟩
  · omega
  · refine ⟨g, cap, rfl, fun j hj => ?_⟩
    have hr : IRow w g l := ⟨cur, hh, by simpa using h4⟩
    exact hr.cell j hj
end Go.Proofs.YtbkokckpjmbjhaaDoor
