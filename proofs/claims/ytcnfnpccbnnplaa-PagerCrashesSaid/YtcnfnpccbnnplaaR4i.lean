/- The state of triadref4 beside the log's. The state of triadref4 beside the log's: a page more, a page fewer. triadref4's pager beside the disk and its pager; Same. triadref4's calls beside the log's. -/
import Derived.Test.YtcnfnpccbnnplaaR4e
import Derived.Test.YtcnfnpccbnnplaaPgFull
import Derived.Deep.QuietTactic
import Derived.BigQuiet
namespace Go.Proofs.Ytcnfnpccbnnplaa
open Go.RowKit Go.Maps
set_option maxRecDepth 100000
section
variable {N : Nat} {s : PS} {H : Lg}

structure RelS (N : Nat) (s : PS) (H : Lg) : Prop where
  ok : s.Ok
  root : s.root = H.root
  free : H.free = (s.gone.map Int.toNat).reverse ++ List.range' s.next (N - s.next)
  goes : ∀ a ∈ s.gone, 1 ≤ a ∧ a < s.next
  next : s.next ≤ N
  page : ∀ i : Int, s.f i = if lgUsed N H i then some ⟨(H.page i.toNat).toArray⟩ else none
  num : s.n + H.free.length + 1 = N
  nodup : H.free.Nodup
  long : ∀ i, lgUsed N H i → (H.page i.toNat).length = 504

theorem RelS.is (h : RelS N s H) (i : Int) : (s.f i).isSome = decide (lgUsed N H i) := by
  rw [h.page]
  by_cases e : lgUsed N H i
  · rw [if_pos e]; simp [e]
  · rw [if_neg e]; simp [e]

theorem cnt_congr {f g : Int → Option ByteArray} : ∀ k, (∀ j : Nat, j < k → (f j).isSome = (g j).isSome) → cnt f k = cnt g k
  | 0, _ => rfl
  | k + 1, h => by
    show cnt f k + _ = cnt g k + _
    rw [cnt_congr k (fun j hj => h j (by omega)), h k (by omega)]
theorem cnt_set {f g : Int → Option ByteArray} {i : Nat} (h1 : 1 ≤ i) (hi : (f i).isSome = false) (hg : (g i).isSome = true) (ho : ∀ j : Nat, j ≠ i → (f j).isSome = (g j).isSome) : ∀ k, i < k → cnt g k = cnt f k + 1
  | 0, h => by omega
  | k + 1, h => by
    show cnt g k + _ = cnt f k + _ + 1
    by_cases e : k = i
    · subst e
      rw [hg, hi, cnt_congr (f := g) (g := f) k (fun j hj => (ho j (by omega)).symm)]
      simp [h1]
    · rw [cnt_set h1 hi hg ho k (by omega), ho k e]
      omega

theorem RelS.new (h : 2 ≤ N) : RelS N PS.new (Lg.new N) := by
  have hn : ∀ i, ¬ lgUsed N (Lg.new N) i := fun i hi => by
    obtain ⟨h1, h2, h3⟩ := hi
    exact h3 (List.mem_range'_1.2 ⟨by omega, by omega⟩)
  refine ⟨⟨by decide, by decide, (fun j hj => by cases hj), rfl, (fun j b hb => by cases hb), by decide⟩, rfl, rfl, (fun a ha => by cases ha), (by show 1 ≤ N; omega), (fun i => by rw [if_neg (hn i)]; rfl), ?_, List.nodup_range' .., fun i hi => absurd hi (hn i)⟩
  show 0 + (List.range' 1 (N - 1)).length + 1 = N
  rw [List.length_range']
  omega

theorem RelS.used_lt (h : RelS N s H) {i : Int} (hi : lgUsed N H i) : 1 ≤ i ∧ i < s.next := h.ok.sup i (by rw [h.is]; simp [hi])

/-- A page's bytes turn. -/
theorem RelS.put (h : RelS N s H) {i : Int} {l : List UInt8} (hi : lgUsed N H i) (hl : l.length = 504) :
    RelS N { s with f := fun j => if j = i then some ⟨l.toArray⟩ else s.f j } { H with page := upd H.page i.toNat l } := by
  have hu : ∀ j, lgUsed N { H with page := upd H.page i.toNat l } j ↔ lgUsed N H j := fun j => Iff.rfl
  have his : ∀ j, ((if j = i then some (⟨l.toArray⟩ : ByteArray) else s.f j)).isSome = (s.f j).isSome := fun j => by
    by_cases e : j = i
    · subst e; rw [if_pos rfl, h.is]; simp [hi]
    · rw [if_neg e]
  refine ⟨⟨h.ok.pos, h.ok.most, fun j hj => h.ok.sup j ((his j).symm.trans hj), ?_, fun j b hb => ?_, h.ok.gone⟩, h.root, h.free, h.goes, h.next, fun j => ?_, h.num, h.nodup, fun j hj => ?_⟩
  · show s.n = _
    rw [h.ok.num]
    exact cnt_congr _ (fun j _ => (his j).symm)
  · by_cases e : j = i
    · subst e
      simp only [if_true] at hb
      cases hb
      show l.toArray.size = 504
      rw [List.size_toArray, hl]
    · simp only [if_neg e] at hb
      exact h.ok.long j b hb
  · show (if j = i then some (⟨l.toArray⟩ : ByteArray) else s.f j) = _
    by_cases e : j = i
    · subst e
      rw [if_pos rfl, if_pos ((hu j).2 hi)]
      show _ = some (⟨(upd H.page j.toNat l j.toNat).toArray⟩ : ByteArray)
      unfold upd; rw [if_pos rfl]
    · rw [if_neg e, h.page j]
      by_cases e2 : lgUsed N H j
      · rw [if_pos e2, if_pos ((hu j).2 e2)]
        show _ = some (⟨(upd H.page i.toNat l j.toNat).toArray⟩ : ByteArray)
        unfold upd
        rw [if_neg (by have := e2.1; have := hi.1; omega)]
      · rw [if_neg e2, if_neg (fun e3 => e2 ((hu j).1 e3))]
  · show (upd H.page i.toNat l j.toNat).length = 504
    unfold upd
    split
    · exact hl
    · exact h.long j hj

theorem RelS.rooted (h : RelS N s H) (i : Int) : RelS N { s with root := i } { H with root := i } :=
  ⟨⟨h.ok.pos, h.ok.most, h.ok.sup, h.ok.num, h.ok.long, h.ok.gone⟩, rfl, h.free, h.goes, h.next, h.page, h.num, h.nodup, h.long⟩

theorem RelS.add_ok (h : RelS N s H) {a : Nat} {rest : List Nat} (hf : H.free = a :: rest) (h1 : 1 ≤ a) (h2 : a < N) :
    (s.f a).isSome = false ∧ (s.add a).n = s.n + 1 ∧ (∀ i : Int, (s.add a).f i = if lgUsed N { H with free := rest, page := upd H.page a (zeros 504) } i then some ⟨(upd H.page a (zeros 504) i.toNat).toArray⟩ else none) ∧
    (∀ i, lgUsed N { H with free := rest, page := upd H.page a (zeros 504) } i ↔ i = a ∨ lgUsed N H i) := by
  have hnu : ¬ lgUsed N H (a : Int) := fun e => e.2.2 (by rw [hf]; simp)
  have his : (s.f a).isSome = false := by rw [h.is]; simp [hnu]
  have hnd := h.nodup
  rw [hf, List.nodup_cons] at hnd
  have hiff : ∀ i, lgUsed N { H with free := rest, page := upd H.page a (zeros 504) } i ↔ i = a ∨ lgUsed N H i := fun i => by
    constructor
    · intro ⟨q1, q2, q3⟩
      by_cases e : i = a
      · exact .inl e
      · refine .inr ⟨q1, q2, ?_⟩
        rw [hf]
        intro hm
        rcases List.mem_cons.1 hm with e2 | e2
        · omega
        · exact q3 e2
    · rintro (rfl | ⟨q1, q2, q3⟩)
      · exact ⟨by omega, by omega, by simpa using hnd.1⟩
      · exact ⟨q1, q2, fun hm => q3 (by rw [hf]; exact List.mem_cons_of_mem _ hm)⟩
  refine ⟨his, by unfold PS.add; rw [his]; rfl, fun i => ?_, hiff⟩
  show (if i = (a : Int) then _ else _) = _
  by_cases e : i = a
  · rw [if_pos e, if_pos ((hiff i).2 (.inl e)), e]
    unfold upd; rw [if_pos (by omega)]
  · rw [if_neg e, h.page i]
    by_cases e2 : lgUsed N H i
    · rw [if_pos e2, if_pos ((hiff i).2 (.inr e2))]
      unfold upd; rw [if_neg (by have := e2.1; omega)]
    · rw [if_neg e2, if_neg (fun e3 => e2 (((hiff i).1 e3).resolve_left e))]
end
end Go.Proofs.Ytcnfnpccbnnplaa

namespace Go.Proofs.Ytcnfnpccbnnplaa
open Go.RowKit Go.Maps
set_option maxRecDepth 100000
section
variable {N : Nat} {s : PS} {H : Lg}

theorem RelS.new_gone (h : RelS N s H) {l : List Int} {a : Int} (hg : s.gone = l ++ [a]) :
    ∃ rest, H.free = a.toNat :: rest ∧ 1 ≤ a ∧ a < N ∧ RelS N { s.add a with gone := l } { H with free := rest, page := upd H.page a.toNat (zeros 504) } := by
  have ha := h.goes a (by rw [hg]; simp)
  have hnx := h.next
  have hf : H.free = a.toNat :: ((l.map Int.toNat).reverse ++ List.range' s.next (N - s.next)) := by
    rw [h.free, hg]; simp
  obtain ⟨k, rfl⟩ : ∃ k : Nat, a = k := ⟨a.toNat, by omega⟩
  rw [Int.toNat_natCast] at hf ⊢
  obtain ⟨rest, hr⟩ : ∃ rest, rest = (l.map Int.toNat).reverse ++ List.range' s.next (N - s.next) := ⟨_, rfl⟩
  rw [← hr] at hf
  obtain ⟨q1, q2, q3, q4⟩ := h.add_ok hf (by omega) (by omega)
  have hlen : H.free.length = rest.length + 1 := by rw [hf]; rfl
  have hnum := h.num
  have hnd := h.nodup
  rw [hf, List.nodup_cons] at hnd
  have hgl : s.gone.length = l.length + 1 := by rw [hg]; simp
  have hgo := h.ok.gone
  refine ⟨rest, hf, ha.1, by omega, ⟨⟨h.ok.pos, h.ok.most, fun j hj => ?_, ?_, fun j b hb => ?_, by show l.length ≤ 1000; omega⟩, h.root, hr, fun b hb => h.goes b (by rw [hg]; simp [hb]), h.next, q3, ?_, hnd.2, fun i hi => ?_⟩⟩
  · have hj' : ((s.add k).f j).isSome = true := hj
    rw [q3] at hj'
    by_cases e : lgUsed N { H with free := rest, page := upd H.page k (zeros 504) } j
    · rcases (q4 j).1 e with rfl | e2
      · exact ha
      · exact h.used_lt e2
    · rw [if_neg e] at hj'; cases hj'
  · show (s.add k).n = cnt (s.add k).f s.next
    rw [q2, h.ok.num]
    refine (cnt_set (i := k) (by omega) q1 ?_ (fun j hj => ?_) s.next (by omega)).symm
    · unfold PS.add; simp
    · unfold PS.add
      show _ = (if (j : Int) = (k : Int) then _ else s.f j).isSome
      rw [if_neg (by omega)]
  · have hb' : (if j = (k : Int) then some (⟨(zeros 504).toArray⟩ : ByteArray) else s.f j) = some b := hb
    by_cases e : j = k
    · rw [if_pos e] at hb'
      cases hb'
      show (zeros 504).toArray.size = 504
      rw [List.size_toArray, zeros_length]
    · rw [if_neg e] at hb'
      exact h.ok.long j b hb'
  · show (s.add k).n + rest.length + 1 = N
    rw [q2]; omega
  · show (upd H.page k (zeros 504) i.toNat).length = 504
    unfold upd
    split
    · exact zeros_length _
    · rename_i hne
      rcases (q4 i).1 hi with rfl | e2
      · exact absurd (Int.toNat_natCast k) hne
      · exact h.long i e2

theorem RelS.new_full (h : RelS N s H) (hg : s.gone = []) (hn : N ≤ s.next) : H.free = [] := by
  rw [h.free, hg, Nat.sub_eq_zero_of_le hn]; rfl

theorem RelS.new_fresh (h : RelS N s H) (hN : N ≤ 400) (hg : s.gone = []) (hn : s.next < N) :
    ∃ rest, H.free = s.next :: rest ∧ RelS N { s.add s.next with next := s.next + 1 } { H with free := rest, page := upd H.page s.next (zeros 504) } := by
  have hpos := h.ok.pos
  have hf : H.free = s.next :: List.range' (s.next + 1) (N - (s.next + 1)) := by
    rw [h.free, hg, show N - s.next = (N - (s.next + 1)) + 1 by omega, List.range'_succ]; rfl
  obtain ⟨rest, hr⟩ : ∃ rest, rest = List.range' (s.next + 1) (N - (s.next + 1)) := ⟨_, rfl⟩
  rw [← hr] at hf
  obtain ⟨q1, q2, q3, q4⟩ := h.add_ok hf (by omega) (by omega)
  have hlen : H.free.length = rest.length + 1 := by rw [hf]; rfl
  have hnum := h.num
  have hnd := h.nodup
  rw [hf, List.nodup_cons] at hnd
  have hsn : s.f (s.next : Int) = none := by
    cases e : s.f (s.next : Int) with
    | none => rfl
    | some b => rw [e] at q1; cases q1
  refine ⟨rest, hf, ⟨⟨by show 1 ≤ s.next + 1; omega, by show s.next + 1 ≤ 1000; omega, fun j hj => ?_, ?_, fun j b hb => ?_, h.ok.gone⟩, h.root, ?_, fun b hb => ?_, hn, q3, ?_, hnd.2, fun i hi => ?_⟩⟩
  · have hj' : ((s.add s.next).f j).isSome = true := hj
    show 1 ≤ j ∧ j < ((s.next + 1 : Nat) : Int)
    rw [q3] at hj'
    by_cases e : lgUsed N { H with free := rest, page := upd H.page s.next (zeros 504) } j
    · rcases (q4 j).1 e with rfl | e2
      · omega
      · have := h.used_lt e2; omega
    · rw [if_neg e] at hj'; cases hj'
  · show (s.add s.next).n = cnt (s.add s.next).f (s.next + 1)
    rw [q2, h.ok.num, ← cnt_same hsn]
    refine (cnt_set (i := s.next) (by omega) q1 ?_ (fun j hj => ?_) (s.next + 1) (by omega)).symm
    · unfold PS.add; simp
    · unfold PS.add
      show _ = (if (j : Int) = (s.next : Int) then _ else s.f j).isSome
      rw [if_neg (by omega)]
  · have hb' : (if j = (s.next : Int) then some (⟨(zeros 504).toArray⟩ : ByteArray) else s.f j) = some b := hb
    by_cases e : j = s.next
    · rw [if_pos e] at hb'
      cases hb'
      show (zeros 504).toArray.size = 504
      rw [List.size_toArray, zeros_length]
    · rw [if_neg e] at hb'
      exact h.ok.long j b hb'
  · show rest = (s.gone.map Int.toNat).reverse ++ List.range' (s.next + 1) (N - (s.next + 1))
    rw [hg, hr]; rfl
  · have hb' : b ∈ s.gone := hb
    rw [hg] at hb'; cases hb'
  · show (s.add s.next).n + rest.length + 1 = N
    rw [q2]; omega
  · show (upd H.page s.next (zeros 504) i.toNat).length = 504
    unfold upd
    split
    · exact zeros_length _
    · rename_i hne
      rcases (q4 i).1 hi with rfl | e2
      · exact absurd (Int.toNat_natCast s.next) hne
      · exact h.long i e2

theorem RelS.drop (h : RelS N s H) (hN : N ≤ 400) {i : Int} (hi : lgUsed N H i) : RelS N (s.del i) { H with free := i.toNat :: H.free } := by
  have hlt := h.used_lt hi
  have hnx := h.next
  have his : (s.f i).isSome = true := by rw [h.is]; simp [hi]
  obtain ⟨k, rfl⟩ : ∃ k : Nat, i = k := ⟨i.toNat, by omega⟩
  rw [Int.toNat_natCast]
  have hnum := h.num
  have hcnt : cnt s.f s.next = cnt (s.del k).f s.next + 1 := by
    refine cnt_set (i := k) (by omega) ?_ his (fun j hj => ?_) s.next (by omega)
    · unfold PS.del; simp
    · unfold PS.del
      show (if (j : Int) = (k : Int) then _ else s.f j).isSome = _
      rw [if_neg (by omega)]
  have hn1 : (s.del k).n = s.n - 1 := by unfold PS.del; rw [his]; rfl
  have hsn : 1 ≤ s.n := by rw [h.ok.num, hcnt]; omega
  have hiff : ∀ j, lgUsed N { H with free := k :: H.free } j ↔ j ≠ k ∧ lgUsed N H j := fun j => by
    constructor
    · intro ⟨q1, q2, q3⟩
      refine ⟨fun e => q3 (by subst e; simp), q1, q2, fun hm => q3 (List.mem_cons_of_mem _ hm)⟩
    · intro ⟨e, q1, q2, q3⟩
      refine ⟨q1, q2, fun hm => ?_⟩
      rcases List.mem_cons.1 hm with e2 | e2
      · omega
      · exact q3 e2
  have hgl : s.gone.length ≤ H.free.length := by rw [h.free]; simp
  have hpg : ∀ j : Int, (s.del k).f j = if lgUsed N { H with free := k :: H.free } j then some ⟨(H.page j.toNat).toArray⟩ else none := fun j => by
    show (if j = (k : Int) then none else s.f j) = _
    by_cases e : j = k
    · rw [if_pos e, if_neg (fun e2 => ((hiff j).1 e2).1 e)]
    · rw [if_neg e, h.page j]
      by_cases e2 : lgUsed N H j
      · rw [if_pos e2, if_pos ((hiff j).2 ⟨e, e2⟩)]
      · rw [if_neg e2, if_neg (fun e3 => e2 ((hiff j).1 e3).2)]
  refine ⟨⟨h.ok.pos, h.ok.most, fun j hj => ?_, ?_, fun j b hb => ?_, ?_⟩, h.root, ?_, fun b hb => ?_, h.next, hpg, ?_, ?_, fun j hj => h.long j ((hiff j).1 hj).2⟩
  · rw [hpg] at hj
    by_cases e : lgUsed N { H with free := k :: H.free } j
    · exact h.used_lt ((hiff j).1 e).2
    · rw [if_neg e] at hj; cases hj
  · show (s.del k).n = cnt (s.del k).f s.next
    rw [hn1, h.ok.num, hcnt]; rfl
  · have hb' : (if j = (k : Int) then none else s.f j) = some b := hb
    by_cases e : j = k
    · rw [if_pos e] at hb'; cases hb'
    · rw [if_neg e] at hb'; exact h.ok.long j b hb'
  · show (s.gone ++ [(k : Int)]).length ≤ 1000
    simp; omega
  · show k :: H.free = ((s.gone ++ [(k : Int)]).map Int.toNat).reverse ++ List.range' s.next (N - s.next)
    rw [h.free]; simp
  · have hb' : b ∈ s.gone ++ [(k : Int)] := hb
    rcases List.mem_append.1 hb' with e | e
    · exact h.goes b e
    · rw [List.mem_singleton] at e; subst e; exact hlt
  · show (s.del k).n + (H.free.length + 1) + 1 = N
    rw [hn1]; omega
  · exact List.nodup_cons.2 ⟨by have := hi.2.2; simpa using this, h.nodup⟩
end
end Go.Proofs.Ytcnfnpccbnnplaa

namespace Go.Proofs.Ytcnfnpccbnnplaa
open Go.RowKit Go.Maps
set_option maxRecDepth 100000

/-- Both pagers: triadref4's at x, with S and T; the one on the disk, with G and H. -/
def Pr (w0 w : World) (x r p N c : Nat) (S : PS) (T : Option PS) (G : Lg) (H : Option Lg) : Prop :=
  ∃ Q, Rp w Q x N S T ∧ Ps w0 w Q r p N c G H ∧ ∀ k, Q k → w0.heap.size ≤ k
section
variable {w0 w w' : World} {x r p N c : Nat} {S : PS} {T : Option PS} {G : Lg} {H : Option Lg}

theorem Ps.mvx {X X' P' : Nat → Prop} (h : Ps w0 w X r p N c G H) (hm : Moved P' w w') (hP : ∀ k, P' k → X k ∧ w0.heap.size ≤ k) (hX : ∀ k, X' k → X k ∨ (w.heap.size ≤ k ∧ k < w'.heap.size)) : Ps w0 w' X' r p N c G H := by
  obtain ⟨A, K, T, ⟨h1, h2, P, Q, h3, h4, h5, h6⟩, k⟩ := h
  have hs := hm.size
  refine ⟨A, K, T, ⟨h1.trans (hm.below (fun k hk => (hP k hk).2) h1.size), fun k hk => ?_, P, Q, h3.moved hm (fun k hk e => (h5 k hk).2.2 (hP k e).1), h4.moved hm (fun k hk e => (h6 k hk).2.2.1 (hP k e).1), fun k hk => ?_, fun k hk => ?_⟩, k⟩
  · rcases hX k hk with e | e
    · exact Nat.lt_of_lt_of_le (h2 k e) hs
    · exact e.2
  · have := h5 k hk
    exact ⟨this.1, by omega, fun e => by rcases hX k e with e | e; exact this.2.2 e; omega⟩
  · have := h6 k hk
    exact ⟨this.1, by omega, fun e => by rcases hX k e with e | e; exact this.2.2.1 e; omega, this.2.2.2⟩

theorem Pr.below (h : Pr w0 w x r p N c S T G H) : Below w0.heap.size w0 w := by obtain ⟨Q, -, h, -⟩ := h; exact h.below
theorem Pr.size (h : Pr w0 w x r p N c S T G H) : w0.heap.size ≤ w.heap.size := h.below.size
theorem Pr.more (h : Pr w0 w x r p N c S T G H) (c' : Nat) (hc : c ≤ c') : Pr w0 w x r p N c' S T G H := by
  obtain ⟨Q, h1, h2, h3⟩ := h; exact ⟨Q, h1, h2.more c' hc, h3⟩
theorem Pr.grow (h : Pr w0 w x r p N c S T G H) (hb : Below w.heap.size w w') : Pr w0 w' x r p N c S T G H := by
  obtain ⟨Q, h1, h2, h3⟩ := h
  exact ⟨Q, h1.moved (Moved.of_below hb (fun _ => False)) (fun _ _ h => h), h2.grow hb, h3⟩
theorem Pr.pages (h : Pr w0 w x r p N c S T G H) : w.cell? ⟨x, 0, none⟩ = some (.int .i64 N) := by
  obtain ⟨Q, ⟨mS, gS, mT, gT, nT, rT, QS, QT, hb, -⟩, -, -⟩ := h
  rw [hb.cell]; rfl
/-- A call of the disk's pager. -/
theorem Pr.pager {f : FuncId} {args : Array Value} {R : Ending → Prop} {p' c' : Nat} {G' : Lg} {H' : Option Lg} (h : Pr w0 w x r p N c S T G H)
    (hc : ∀ X, Ps w0 w X r p N c G H → Calls Try.prog f args w fun e w' => R e ∧ Ps w0 w' X r p' N c' G' H' ∧ Mx w0 X w w') :
    Calls Try.prog f args w fun e w' => R e ∧ Pr w0 w' x r p' N c' S T G' H' := by
  obtain ⟨Q, h1, h2, h3⟩ := h
  refine (hc Q h2).mono ?_
  rintro e w' ⟨hR, g1, g2⟩
  exact ⟨hR, Q, h1.moved g2 (fun k hk e => e.2 hk), g1, h3⟩
/-- A call of triadref4's. -/
theorem Pr.refer {f : FuncId} {args : Array Value} {R : Ending → Prop} {S' : PS} {T' : Option PS} (h : Pr w0 w x r p N c S T G H)
    (hc : ∀ Q, Rp w Q x N S T → Calls Try.prog f args w fun e w' => R e ∧ Rp w' (Gr Q w w') x N S' T' ∧ Moved Q w w') :
    Calls Try.prog f args w fun e w' => R e ∧ Pr w0 w' x r p N c S' T' G H := by
  obtain ⟨Q, h1, h2, h3⟩ := h
  refine (hc Q h1).mono ?_
  rintro e w' ⟨hR, g1, g2⟩
  exact ⟨hR, Gr Q w w', g1, h2.mvx g2 (fun k hk => ⟨hk, h3 k hk⟩) (fun k hk => hk), fun k hk => hk.elim (h3 k) (fun e => Nat.le_trans h2.below.size e.1)⟩
theorem Pr.ref (h : Pr w0 w x r p N c S T G H) : ∃ Q, Rp w Q x N S T := by obtain ⟨Q, h, -⟩ := h; exact ⟨Q, h⟩
theorem Pr.ps (h : Pr w0 w x r p N c S T G H) : ∃ Q, Ps w0 w Q r p N c G H := by obtain ⟨Q, -, h, -⟩ := h; exact ⟨Q, h⟩
end

set_option maxHeartbeats 2000000 in
theorem same_any {w0 w : World} {x r p N c : Nat} {S : PS} {T : Option PS} {G : Lg} {H : Option Lg} (h : Pr w0 w x r p N c S T G H) (hr : RelS N (T.getD S) (H.getD G)) (hN : N ≤ 400) :
    Calls Try.prog 22 #[.pointer (some ⟨p, 0, none⟩), .pointer (some ⟨x, 0, none⟩)] w fun e w' => e = .returned (.bool true) ∧ Below w.heap.size w w' := by
  have HP := Lib.hid h
  have HR := Lib.hid hr
  obtain ⟨X, hps⟩ := h.ps
  obtain ⟨Q, hrp⟩ := h.ref
  have k1 := ps_root hps
  have k2 := rroot_any hrp
  rw [hr.root] at k2
  have K1 := Lib.hid k1
  have K2 := Lib.hid k2
  clear h hr hps hrp k1 k2
  go_enter Try.func22, Try.ntmps22
  go_wp2_with fail
  refine K1.out.mono ?_
  rintro e w1 ⟨rfl, he⟩
  replace he := he.symm
  subst he
  go_wp2_with fail
  refine K2.out.mono ?_
  rintro e w2 ⟨rfl, hb2⟩
  have HP2 := Lib.hid (HP.out.grow hb2)
  have HB2 := Lib.hid hb2
  clear hb2
  obtain ⟨X, hps⟩ := HP2.out.ps
  have k3 := ps_free hps
  have K3 := Lib.hid k3
  clear hps k3
  go_wp2_with fail
  refine K3.out.mono ?_
  rintro e w1 ⟨rfl, he⟩
  replace he := he.symm
  subst he
  obtain ⟨Q, hrp⟩ := HP2.out.ref
  have k4 := rfree_any hrp (by omega) (by have := HR.out.num; omega)
  rw [show (N : Int) - 1 - (T.getD S).n = ((H.getD G).free.length : Nat) by have := HR.out.num; omega] at k4
  have K4 := Lib.hid k4
  clear hrp k4 K3
  go_wp2_with fail
  refine K4.out.mono ?_
  rintro e w3 ⟨rfl, hb3⟩
  have HB3 := Lib.hid (HB2.out.trans (hb3.mono HB2.out.size))
  clear hb3 K4
  go_wp2_with fail
  go_loopw [5, 6, 7, 8, 9] (fun i _ _ _ _ wr => ∃ j : Nat, j ≤ N + 2 ∧ i = .int .i64 ((j : Int) - 1) ∧ Below w.heap.size w wr) (fun i _ _ _ _ _ => N + 2 - (intOf i + 1).toNat)
  case atStart => exact ⟨0, Nat.zero_le _, rfl, HB3.out⟩
  case round =>
    obtain ⟨j, hj, rfl, hbr⟩ := hrel
    have HBR := Lib.hid hbr
    have hp := HP.out.grow hbr
    have c0 := hp.pages
    have HPR := Lib.hid hp
    clear hbr hp
    by_cases hlt : j < N + 2
    · have hwf : (Lit.int .i64 ((j : Int) - 1)).wf = true := WalkArith.wf_i64 (by omega)
      obtain ⟨X, hps⟩ := HPR.out.ps
      have k1 := ps_get ((j : Int) - 1) hps
      have K1 := Lib.hid k1
      have HWF := Lib.hid hwf
      have hle : (j : Int) - 1 ≤ N := by omega
      clear hps k1 hwf
      go_wp2_with fail
      refine K1.out.mono ?_
      rintro e w4 ⟨v, rfl, hv, -, hb4⟩
      obtain ⟨Q, hrp⟩ := (HPR.out.grow hb4).ref
      have k2 := rget_any ((j : Int) - 1) HWF.out hrp
      rw [HR.out.page] at k2
      have HV := Lib.hid hv
      have HB4 := Lib.hid (HBR.out.trans (hb4.mono HBR.out.size))
      have H44 := Lib.hid hb4
      obtain ⟨Y, hY⟩ : ∃ Y : ByteArray, Y = ⟨(if lgUsed N (H.getD G) ((j : Int) - 1) then (H.getD G).page ((j : Int) - 1).toNat else []).toArray⟩ := ⟨_, rfl⟩
      have HY := Lib.hid hY
      have e1 : ((if lgUsed N (H.getD G) ((j : Int) - 1) then some (⟨((H.getD G).page ((j : Int) - 1).toNat).toArray⟩ : ByteArray) else none).getD ByteArray.empty) = Y := by
        rw [hY]
        split <;> rfl
      have e2 : (if (if lgUsed N (H.getD G) ((j : Int) - 1) then some (⟨((H.getD G).page ((j : Int) - 1).toNat).toArray⟩ : ByteArray) else none).isSome then (0 : Int) else 1) = if lgUsed N (H.getD G) ((j : Int) - 1) then 0 else 1 := by
        split <;> rfl
      rw [e1, e2] at k2
      obtain ⟨f, hf⟩ : ∃ f : Int, f = if lgUsed N (H.getD G) ((j : Int) - 1) then 0 else 1 := ⟨_, rfl⟩
      rw [← hf] at k2 ⊢
      have K2 := Lib.hid k2
      clear hrp k2 hb4 hv e1 e2 hf hY K1
      go_wp2_with fail
      refine K2.out.mono ?_
      rintro e w5 ⟨rfl, hb5⟩
      have hcz := run_conv_bytes (HV.out.below hb5)
      rw [← HY.out] at hcz
      have HB5 := Lib.hid (HB4.out.trans (hb5.mono HB4.out.size))
      clear hb5 K2
      go_wp2_with fail
      go_roundw
      case rel => exact ⟨j + 1, by omega, by go_num, HB5.out⟩
      case measure => simp [intOf]; omega
    · obtain rfl : j = N + 2 := by omega
      go_wp2_with fail
      go_ret
      exact ⟨rfl, HBR.out⟩
end Go.Proofs.Ytcnfnpccbnnplaa

namespace Go.Proofs.Ytcnfnpccbnnplaa
open Go.RowKit Go.Maps
set_option maxRecDepth 100000

/-- The states lie beside the log's. -/
def Rl (N : Nat) (S : PS) (T : Option PS) (G : Lg) (H : Option Lg) : Prop :=
  RelS N S G ∧ match T, H with
    | none, none => True
    | some t, some h => RelS N t h
    | _, _ => False
section
variable {w0 w w' : World} {x r p N c : Nat} {S : PS} {T : Option PS} {G : Lg} {H : Option Lg} {Q : Nat → Prop}

theorem Rl.both (h : Rl N S T G H) : RelS N (T.getD S) (H.getD G) := by
  obtain ⟨h1, h2⟩ := h
  cases T <;> cases H <;> first | exact h1 | exact h2 | exact h2.elim
theorem Rl.cases (h : Rl N S T G H) : (T = none ∧ H = none) ∨ ∃ t h', T = some t ∧ H = some h' ∧ RelS N t h' := by
  obtain ⟨h1, h2⟩ := h
  cases T <;> cases H
  · exact .inl ⟨rfl, rfl⟩
  · exact h2.elim
  · exact h2.elim
  · exact .inr ⟨_, _, rfl, rfl, h2⟩

/-- A call of triadref4's, its end among others. -/
theorem Pr.refers {f : FuncId} {args : Array Value} {R : Ending → Prop} {C : PS → Option PS → Prop} (h : Pr w0 w x r p N c S T G H)
    (hc : ∀ Q, Rp w Q x N S T → Calls Try.prog f args w fun e w' => R e ∧ ∃ S' T', C S' T' ∧ Rp w' (Gr Q w w') x N S' T' ∧ Moved Q w w') :
    Calls Try.prog f args w fun e w' => R e ∧ ∃ S' T', C S' T' ∧ Pr w0 w' x r p N c S' T' G H := by
  obtain ⟨Q, h1, h2, h3⟩ := h
  refine (hc Q h1).mono ?_
  rintro e w' ⟨hR, S', T', hC, g1, g2⟩
  exact ⟨hR, S', T', hC, Gr Q w w', g1, h2.mvx g2 (fun k hk => ⟨hk, h3 k hk⟩) (fun k hk => hk), fun k hk => hk.elim (h3 k) (fun e => Nat.le_trans h2.below.size e.1)⟩

theorem Rp.gr (h : Rp w Q x N S T) (w1 : World) : Rp w (Gr Q w1 w) x N S T := h.mono (fun _ h => .inl h)

theorem rnew_rel (h : Rp w Q x N S T) (hr : Rl N S T G H) (hN : N ≤ 400) :
    Calls Try.prog 25 #[.pointer (some ⟨x, 0, none⟩)] w fun e w' => e = .returned (.tuple #[.int .i64 (lgNew H).1, .int .i64 (lgNew H).2.1]) ∧
      ∃ S' T', Rl N S' T' G (lgNew H).2.2 ∧ Rp w' (Gr Q w w') x N S' T' ∧ Moved Q w w' := by
  have h1 := hr.1
  rcases hr.cases with ⟨rfl, rfl⟩ | ⟨t, H', rfl, rfl, h2⟩
  · refine (rnew_busy h).mono ?_
    rintro e w' ⟨rfl, he⟩
    subst he
    exact ⟨rfl, S, none, ⟨h1, trivial⟩, h.gr _, Moved.refl _ _⟩
  · have hlen : H'.free.length < N := by have := h2.num; omega
    rcases List.eq_nil_or_concat t.gone with hg | ⟨l, a, hg⟩
    · by_cases hn : t.next < N
      · obtain ⟨rest, hf, hrel⟩ := h2.new_fresh hN hg hn
        have e : lgNew (some H') = ((t.next : Int), 0, some { H' with free := rest, page := upd H'.page t.next (zeros 504) }) := by
          unfold lgNew; simp only [hf]
        rw [e]
        refine (rnew_fresh h hg hn (by omega) (by have := h2.num; omega)).mono ?_
        rintro e w' ⟨rfl, g1, g2⟩
        exact ⟨rfl, S, _, ⟨h1, hrel⟩, g1.mono (fun _ h => .inl h), g2⟩
      · have hf := h2.new_full hg (by omega)
        have e : lgNew (some H') = (0, 14, some H') := by unfold lgNew; simp only [hf]
        rw [e]
        refine (rnew_full h hg (by omega)).mono ?_
        rintro e w' ⟨rfl, he⟩
        subst he
        exact ⟨rfl, S, some t, ⟨h1, h2⟩, h.gr _, Moved.refl _ _⟩
    · have hg' : t.gone = l ++ [a] := by rw [hg]; simp
      obtain ⟨rest, hf, ha1, ha2, hrel⟩ := h2.new_gone hg'
      have e : lgNew (some H') = (a, 0, some { H' with free := rest, page := upd H'.page a.toNat (zeros 504) }) := by
        unfold lgNew; simp only [hf]
        rw [show ((a.toNat : Nat) : Int) = a by omega]
      rw [e]
      have hgl := h2.ok.gone
      rw [hg'] at hgl
      refine (rnew_gone h l a hg' ⟨by omega, by omega⟩ (by simp at hgl; omega) (by have := h2.num; omega)).mono ?_
      rintro e w' ⟨rfl, g1, g2⟩
      exact ⟨rfl, S, _, ⟨h1, hrel⟩, g1.mono (fun _ h => .inl h), g2⟩

theorem rput_rel (i : Int) (hi : (Lit.int .i64 i).wf = true) (v : Value) (l : List UInt8) (hv : Bs w v l) (h : Rp w Q x N S T) (hr : Rl N S T G H) (hN : N ≤ 400) :
    Calls Try.prog 47 #[.pointer (some ⟨x, 0, none⟩), .int .i64 i, v] w fun e w' => e = .returned (.int .i64 (lgPut N i l H).1) ∧
      ∃ S' T', Rl N S' T' G (lgPut N i l H).2 ∧ Rp w' (Gr Q w w') x N S' T' ∧ Moved Q w w' := by
  have h1 := hr.1
  rcases hr.cases with ⟨rfl, rfl⟩ | ⟨t, H', rfl, rfl, h2⟩
  · refine (rput_busy i v h).mono ?_
    rintro e w' ⟨rfl, he⟩
    subst he
    exact ⟨rfl, S, none, ⟨h1, trivial⟩, h.gr _, Moved.refl _ _⟩
  · rw [lgPut_some]
    by_cases hu : lgUsed N H' i
    · rw [if_pos hu]
      have hf : (t.f i).isSome = true := by rw [h2.is]; simp [hu]
      by_cases hl : 504 < l.length
      · rw [if_pos hl]
        refine (rput_long i hi v l hv hl h hf).mono ?_
        rintro e w' ⟨rfl, he⟩
        subst he
        exact ⟨rfl, S, some t, ⟨h1, h2⟩, h.gr _, Moved.refl _ _⟩
      · rw [if_neg hl]
        refine (rput_ok i hi v l hv (by omega) h hf (by have := h2.num; simp [maxLen]; omega)).mono ?_
        rintro e w' ⟨rfl, g1, g2⟩
        exact ⟨rfl, S, _, ⟨h1, h2.put hu (page_length l (by omega))⟩, g1.mono (fun _ h => .inl h), g2⟩
    · rw [if_neg hu]
      refine (rput_arg i hi v h (by rw [h2.is]; simp [hu])).mono ?_
      rintro e w' ⟨rfl, he⟩
      subst he
      exact ⟨rfl, S, some t, ⟨h1, h2⟩, h.gr _, Moved.refl _ _⟩

theorem rdrop_rel (i : Int) (hi : (Lit.int .i64 i).wf = true) (h : Rp w Q x N S T) (hr : Rl N S T G H) (hN : N ≤ 400) :
    Calls Try.prog 49 #[.pointer (some ⟨x, 0, none⟩), .int .i64 i] w fun e w' => e = .returned (.int .i64 (lgDrop N i H).1) ∧
      ∃ S' T', Rl N S' T' G (lgDrop N i H).2 ∧ Rp w' (Gr Q w w') x N S' T' ∧ Moved Q w w' := by
  have h1 := hr.1
  rcases hr.cases with ⟨rfl, rfl⟩ | ⟨t, H', rfl, rfl, h2⟩
  · refine (rdrop_busy i h).mono ?_
    rintro e w' ⟨rfl, he⟩
    subst he
    exact ⟨rfl, S, none, ⟨h1, trivial⟩, h.gr _, Moved.refl _ _⟩
  · rw [lgDrop_some]
    by_cases hu : lgUsed N H' i
    · rw [if_pos hu]
      refine (rdrop_ok i hi h (by rw [h2.is]; simp [hu]) (by have := h2.ok.gone; omega)).mono ?_
      rintro e w' ⟨rfl, g1, g2⟩
      exact ⟨rfl, S, _, ⟨h1, h2.drop hN hu⟩, g1, g2⟩
    · rw [if_neg hu]
      refine (rdrop_arg i hi h (by rw [h2.is]; simp [hu])).mono ?_
      rintro e w' ⟨rfl, he⟩
      subst he
      exact ⟨rfl, S, some t, ⟨h1, h2⟩, h.gr _, Moved.refl _ _⟩

theorem rbegin_rel (h : Rp w Q x N S T) (hr : Rl N S T G H) :
    Calls Try.prog 14 #[.pointer (some ⟨x, 0, none⟩)] w fun e w' => e = .returned (.int .i64 (if H.isSome then 12 else 0)) ∧
      ∃ S' T', Rl N S' T' G (some (H.getD G)) ∧ Rp w' (Gr Q w w') x N S' T' ∧ Moved Q w w' := by
  have h1 := hr.1
  rcases hr.cases with ⟨rfl, rfl⟩ | ⟨t, H', rfl, rfl, h2⟩
  · refine (rbegin_ok h h1.ok).mono ?_
    rintro e w' ⟨rfl, g1, g2⟩
    exact ⟨rfl, S, some S, ⟨h1, h1⟩, g1, g2⟩
  · refine (rbegin_busy h).mono ?_
    rintro e w' ⟨rfl, he⟩
    subst he
    exact ⟨rfl, S, some t, ⟨h1, h2⟩, h.gr _, Moved.refl _ _⟩

theorem rcommit_rel (h : Rp w Q x N S T) (hr : Rl N S T G H) :
    Calls Try.prog 18 #[.pointer (some ⟨x, 0, none⟩)] w fun e w' => e = .returned (.int .i64 (lgCommit G H).1) ∧
      ∃ S' T', Rl N S' T' (lgCommit G H).2 none ∧ Rp w' (Gr Q w w') x N S' T' ∧ Moved Q w w' := by
  have h1 := hr.1
  rcases hr.cases with ⟨rfl, rfl⟩ | ⟨t, H', rfl, rfl, h2⟩
  · refine (rcommit_busy h).mono ?_
    rintro e w' ⟨rfl, he⟩
    subst he
    exact ⟨rfl, S, none, ⟨h1, trivial⟩, h.gr _, Moved.refl _ _⟩
  · have hx : Q x := by obtain ⟨mS, gS, mT, gT, nT, rT, QS, QT, hb, hx, -⟩ := h; exact hx
    refine (rcommit4_any h).mono ?_
    rintro e w' ⟨rfl, g1, g2⟩
    exact ⟨rfl, t, none, ⟨h2, trivial⟩, g1.mono (fun _ h => .inl h), g2.mono (fun _ e => e ▸ hx)⟩

theorem rabort_rel (h : Rp w Q x N S T) (hr : Rl N S T G H) :
    Calls Try.prog 21 #[.pointer (some ⟨x, 0, none⟩)] w fun e w' => e = .returned (.tuple #[]) ∧
      ∃ S' T', Rl N S' T' G none ∧ Rp w' (Gr Q w w') x N S' T' ∧ Moved Q w w' := by
  have hx : Q x := by obtain ⟨mS, gS, mT, gT, nT, rT, QS, QT, hb, hx, -⟩ := h; exact hx
  refine (rabort_any h).mono ?_
  rintro e w' ⟨rfl, g1, g2⟩
  exact ⟨rfl, S, none, ⟨hr.1, trivial⟩, g1.mono (fun _ h => .inl h), g2.mono (fun _ e => e ▸ hx)⟩

theorem rsetroot_rel (i : Int) (h : Rp w Q x N S T) (hr : Rl N S T G H) :
    Calls Try.prog 51 #[.pointer (some ⟨x, 0, none⟩), .int .i64 i] w fun e w' => e = .returned (.int .i64 (lgRoot H i)) ∧
      ∃ S' T', Rl N S' T' G (if 0 ≤ i then H.map (fun h => { h with root := i }) else H) ∧ Rp w' (Gr Q w w') x N S' T' ∧ Moved Q w w' := by
  have hx : Q x := by obtain ⟨mS, gS, mT, gT, nT, rT, QS, QT, hb, hx, -⟩ := h; exact hx
  have h1 := hr.1
  rcases hr.cases with ⟨rfl, rfl⟩ | ⟨t, H', rfl, rfl, h2⟩
  · refine (rsetroot_busy i h).mono ?_
    rintro e w' ⟨rfl, he⟩
    subst he
    exact ⟨by unfold lgRoot; simp, S, none, by split <;> exact ⟨h1, trivial⟩, h.gr _, Moved.refl _ _⟩
  · by_cases hi : 0 ≤ i
    · refine (rsetroot_any i h hi).mono ?_
      rintro e w' ⟨rfl, g1, g2⟩
      exact ⟨by unfold lgRoot; simp [hi], S, _, by rw [if_pos hi]; exact ⟨h1, h2.rooted i⟩, g1.mono (fun _ h => .inl h), g2.mono (fun _ e => e ▸ hx)⟩
    · refine (rsetroot_arg i h (by omega)).mono ?_
      rintro e w' ⟨rfl, he⟩
      subst he
      exact ⟨by unfold lgRoot; simp [hi], S, some t, by rw [if_neg hi]; exact ⟨h1, h2⟩, h.gr _, Moved.refl _ _⟩
end
end Go.Proofs.Ytcnfnpccbnnplaa

