/- The state of triadref4 beside the log's. -/
import Derived.Test.YtbdmlhmmdcdppaaR4e
import Derived.Test.YtbdmlhmmdcdppaaPgFull
namespace Go.Proofs.Ytbdmlhmmdcdppaa
open Go.RowKit Go.Maps
set_option maxRecDepth 100000
section
variable {N : Nat} {s : PS} {H : Lg}

structure RelS (N : Nat) (s : PS) (H : Lg) : Prop where
  ok : s.Ok
  root : s.root = H.root
  free : H.free = (s.gone.map Int.toNat).reverse ++ List.range' s.next (N - s.next)
  goes : ∀ a ∈ s.gone, 1 ≤ a ∧ a < s.next
  next : s.next ≤ N
  page : ∀ i : Int, s.f i = if lgUsed N H i then some ⟨(H.page i.toNat).toArray⟩ else none
  num : s.n + H.free.length + 1 = N
  nodup : H.free.Nodup
  long : ∀ i, lgUsed N H i → (H.page i.toNat).length = 504

theorem RelS.is (h : RelS N s H) (i : Int) : (s.f i).isSome = decide (lgUsed N H i) := by
  rw [h.page]
  by_cases e : lgUsed N H i
  · rw [if_pos e]; simp [e]
  · rw [if_neg e]; simp [e]

theorem cnt_congr {f g : Int → Option ByteArray} : ∀ k, (∀ j : Nat, j < k → (f j).isSome = (g j).isSome) → cnt f k = cnt g k
  | 0, _ => rfl
  | k + 1, h => by
    show cnt f k + _ = cnt g k + _
    rw [cnt_congr k (fun j hj => h j (by omega)), h k (by omega)]
theorem cnt_set {f g : Int → Option ByteArray} {i : Nat} (h1 : 1 ≤ i) (hi : (f i).isSome = false) (hg : (g i).isSome = true) (ho : ∀ j : Nat, j ≠ i → (f j).isSome = (g j).isSome) : ∀ k, i < k → cnt g k = cnt f k + 1
  | 0, h => by omega
  | k + 1, h => by
    show cnt g k + _ = cnt f k + _ + 1
    by_cases e : k = i
    · subst e
      rw [hg, hi, cnt_congr (f := g) (g := f) k (fun j hj => (ho j (by omega)).symm)]
      simp [h1]
    · rw [cnt_set h1 hi hg ho k (by omega), ho k e]
      omega

theorem RelS.new (h : 2 ≤ N) : RelS N PS.new (Lg.new N) := by
  have hn : ∀ i, ¬ lgUsed N (Lg.new N) i := fun i hi => by
    obtain ⟨h1, h2, h3⟩ := hi
    exact h3 (List.mem_range'_1.2 ⟨by omega, by omega⟩)
  refine ⟨⟨by decide, by decide, (fun j hj => by cases hj), rfl, (fun j b hb => by cases hb), by decide⟩, rfl, rfl, (fun a ha => by cases ha), (by show 1 ≤ N; omega), (fun i => by rw [if_neg (hn i)]; rfl), ?_, List.nodup_range' .., fun i hi => absurd hi (hn i)⟩
  show 0 + (List.range' 1 (N - 1)).length + 1 = N
  rw [List.length_range']
  omega

theorem RelS.used_lt (h : RelS N s H) {i : Int} (hi : lgUsed N H i) : 1 ≤ i ∧ i < s.next := h.ok.sup i (by rw [h.is]; simp [hi])

/-- A page's bytes turn. -/
theorem RelS.put (h : RelS N s H) {i : Int} {l : List UInt8} (hi : lgUsed N H i) (hl : l.length = 504) :
    RelS N { s with f := fun j => if j = i then some ⟨l.toArray⟩ else s.f j } { H with page := upd H.page i.toNat l } := by
  have hu : ∀ j, lgUsed N { H with page := upd H.page i.toNat l } j ↔ lgUsed N H j := fun j => Iff.rfl
  have his : ∀ j, ((if j = i then some (⟨l.toArray⟩ : ByteArray) else s.f j)).isSome = (s.f j).isSome := fun j => by
    by_cases e : j = i
    · subst e; rw [if_pos rfl, h.is]; simp [hi]
    · rw [if_neg e]
  refine ⟨⟨h.ok.pos, h.ok.most, fun j hj => h.ok.sup j ((his j).symm.trans hj), ?_, fun j b hb => ?_, h.ok.gone⟩, h.root, h.free, h.goes, h.next, fun j => ?_, h.num, h.nodup, fun j hj => ?_⟩
  · show s.n = _
    rw [h.ok.num]
    exact cnt_congr _ (fun j _ => (his j).symm)
  · by_cases e : j = i
    · subst e
      simp only [if_true] at hb
      cases hb
      show l.toArray.size = 504
      rw [List.size_toArray, hl]
    · simp only [if_neg e] at hb
      exact h.ok.long j b hb
  · show (if j = i then some (⟨l.toArray⟩ : ByteArray) else s.f j) = _
    by_cases e : j = i
    · subst e
      rw [if_pos rfl, if_pos ((hu j).2 hi)]
      show _ = some (⟨(upd H.page j.toNat l j.toNat).toArray⟩ : ByteArray)
      unfold upd; rw [if_pos rfl]
    · rw [if_neg e, h.page j]
      by_cases e2 : lgUsed N H j
      · rw [if_pos e2, if_pos ((hu j).2 e2)]
        show _ = some (⟨(upd H.page i.toNat l j.toNat).toArray⟩ : ByteArray)
        unfold upd
        rw [if_neg (by have := e2.1; have := hi.1; omega)]
      · rw [if_neg e2, if_neg (fun e3 => e2 ((hu j).1 e3))]
  · show (upd H.page i.toNat l j.toNat).length = 504
    unfold upd
    split
    · exact hl
    · exact h.long j hj

theorem RelS.rooted (h : RelS N s H) (i : Int) : RelS N { s with root := i } { H with root := i } :=
  ⟨⟨h.ok.pos, h.ok.most, h.ok.sup, h.ok.num, h.ok.long, h.ok.gone⟩, rfl, h.free, h.goes, h.next, h.page, h.num, h.nodup, h.long⟩

theorem RelS.add_ok (h : RelS N s H) {a : Nat} {rest : List Nat} (hf : H.free = a :: rest) (h1 : 1 ≤ a) (h2 : a < N) :
    (s.f a).isSome = false ∧ (s.add a).n = s.n + 1 ∧ (∀ i : Int, (s.add a).f i = if lgUsed N { H with free := rest, page := upd H.page a (zeros 504) } i then some ⟨(upd H.page a (zeros 504) i.toNat).toArray⟩ else none) ∧
    (∀ i, lgUsed N { H with free := rest, page := upd H.page a (zeros 504) } i ↔ i = a ∨ lgUsed N H i) := by
  have hnu : ¬ lgUsed N H (a : Int) := fun e => e.2.2 (by rw [hf]; simp)
  have his : (s.f a).isSome = false := by rw [h.is]; simp [hnu]
  have hnd := h.nodup
  rw [hf, List.nodup_cons] at hnd
  have hiff : ∀ i, lgUsed N { H with free := rest, page := upd H.page a (zeros 504) } i ↔ i = a ∨ lgUsed N H i := fun i => by
    constructor
    · intro ⟨q1, q2, q3⟩
      by_cases e : i = a
      · exact .inl e
      · refine .inr ⟨q1, q2, ?_⟩
        rw [hf]
        intro hm
        rcases List.mem_cons.1 hm with e2 | e2
        · omega
        · exact q3 e2
    · rintro (rfl | ⟨q1, q2, q3⟩)
      · exact ⟨by omega, by omega, by simpa using hnd.1⟩
      · exact ⟨q1, q2, fun hm => q3 (by rw [hf]; exact List.mem_cons_of_mem _ hm)⟩
  refine ⟨his, by unfold PS.add; rw [his]; rfl, fun i => ?_, hiff⟩
  show (if i = (a : Int) then _ else _) = _
  by_cases e : i = a
  · rw [if_pos e, if_pos ((hiff i).2 (.inl e)), e]
    unfold upd; rw [if_pos (by omega)]
  · rw [if_neg e, h.page i]
    by_cases e2 : lgUsed N H i
    · rw [if_pos e2, if_pos ((hiff i).2 (.inr e2))]
      unfold upd; rw [if_neg (by have := e2.1; omega)]
    · rw [if_neg e2, if_neg (fun e3 => e2 (((hiff i).1 e3).resolve_left e))]
end
end Go.Proofs.Ytbdmlhmmdcdppaa
