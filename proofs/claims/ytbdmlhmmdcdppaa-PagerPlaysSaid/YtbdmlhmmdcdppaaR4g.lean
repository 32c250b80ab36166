/- The state of triadref4 beside the log's: a page more, a page fewer. -/
import Derived.Test.YtbdmlhmmdcdppaaR4f
namespace Go.Proofs.Ytbdmlhmmdcdppaa
open Go.RowKit Go.Maps
set_option maxRecDepth 100000
section
variable {N : Nat} {s : PS} {H : Lg}

theorem RelS.new_gone (h : RelS N s H) {l : List Int} {a : Int} (hg : s.gone = l ++ [a]) :
    ∃ rest, H.free = a.toNat :: rest ∧ 1 ≤ a ∧ a < N ∧ RelS N { s.add a with gone := l } { H with free := rest, page := upd H.page a.toNat (zeros 504) } := by
  have ha := h.goes a (by rw [hg]; simp)
  have hnx := h.next
  have hf : H.free = a.toNat :: ((l.map Int.toNat).reverse ++ List.range' s.next (N - s.next)) := by
    rw [h.free, hg]; simp
  obtain ⟨k, rfl⟩ : ∃ k : Nat, a = k := ⟨a.toNat, by omega⟩
  rw [Int.toNat_natCast] at hf ⊢
  obtain ⟨rest, hr⟩ : ∃ rest, rest = (l.map Int.toNat).reverse ++ List.range' s.next (N - s.next) := ⟨_, rfl⟩
  rw [← hr] at hf
  obtain ⟨q1, q2, q3, q4⟩ := h.add_ok hf (by omega) (by omega)
  have hlen : H.free.length = rest.length + 1 := by rw [hf]; rfl
  have hnum := h.num
  have hnd := h.nodup
  rw [hf, List.nodup_cons] at hnd
  have hgl : s.gone.length = l.length + 1 := by rw [hg]; simp
  have hgo := h.ok.gone
  refine ⟨rest, hf, ha.1, by omega, ⟨⟨h.ok.pos, h.ok.most, fun j hj => ?_, ?_, fun j b hb => ?_, by show l.length ≤ 1000; omega⟩, h.root, hr, fun b hb => h.goes b (by rw [hg]; simp [hb]), h.next, q3, ?_, hnd.2, fun i hi => ?_⟩⟩
  · have hj' : ((s.add k).f j).isSome = true := hj
    rw [q3] at hj'
    by_cases e : lgUsed N { H with free := rest, page := upd H.page k (zeros 504) } j
    · rcases (q4 j).1 e with rfl | e2
      · exact ha
      · exact h.used_lt e2
    · rw [if_neg e] at hj'; cases hj'
  · show (s.add k).n = cnt (s.add k).f s.next
    rw [q2, h.ok.num]
    refine (cnt_set (i := k) (by omega) q1 ?_ (fun j hj => ?_) s.next (by omega)).symm
    · unfold PS.add; simp
    · unfold PS.add
      show _ = (if (j : Int) = (k : Int) then _ else s.f j).isSome
      rw [if_neg (by omega)]
  · have hb' : (if j = (k : Int) then some (⟨(zeros 504).toArray⟩ : ByteArray) else s.f j) = some b := hb
    by_cases e : j = k
    · rw [if_pos e] at hb'
      cases hb'
      show (zeros 504).toArray.size = 504
      rw [List.size_toArray, zeros_length]
    · rw [if_neg e] at hb'
      exact h.ok.long j b hb'
  · show (s.add k).n + rest.length + 1 = N
    rw [q2]; omega
  · show (upd H.page k (zeros 504) i.toNat).length = 504
    unfold upd
    split
    · exact zeros_length _
    · rename_i hne
      rcases (q4 i).1 hi with rfl | e2
      · exact absurd (Int.toNat_natCast k) hne
      · exact h.long i e2

theorem RelS.new_full (h : RelS N s H) (hg : s.gone = []) (hn : N ≤ s.next) : H.free = [] := by
  rw [h.free, hg, Nat.sub_eq_zero_of_le hn]; rfl

theorem RelS.new_fresh (h : RelS N s H) (hN : N ≤ 400) (hg : s.gone = []) (hn : s.next < N) :
    ∃ rest, H.free = s.next :: rest ∧ RelS N { s.add s.next with next := s.next + 1 } { H with free := rest, page := upd H.page s.next (zeros 504) } := by
  have hpos := h.ok.pos
  have hf : H.free = s.next :: List.range' (s.next + 1) (N - (s.next + 1)) := by
    rw [h.free, hg, show N - s.next = (N - (s.next + 1)) + 1 by omega, List.range'_succ]; rfl
  obtain ⟨rest, hr⟩ : ∃ rest, rest = List.range' (s.next + 1) (N - (s.next + 1)) := ⟨_, rfl⟩
  rw [← hr] at hf
  obtain ⟨q1, q2, q3, q4⟩ := h.add_ok hf (by omega) (by omega)
  have hlen : H.free.length = rest.length + 1 := by rw [hf]; rfl
  have hnum := h.num
  have hnd := h.nodup
  rw [hf, List.nodup_cons] at hnd
  have hsn : s.f (s.next : Int) = none := by
    cases e : s.f (s.next : Int) with
    | none => rfl
    | some b => rw [e] at q1; cases q1
  refine ⟨rest, hf, ⟨⟨by show 1 ≤ s.next + 1; omega, by show s.next + 1 ≤ 1000; omega, fun j hj => ?_, ?_, fun j b hb => ?_, h.ok.gone⟩, h.root, ?_, fun b hb => ?_, hn, q3, ?_, hnd.2, fun i hi => ?_⟩⟩
  · have hj' : ((s.add s.next).f j).isSome = true := hj
    show 1 ≤ j ∧ j < ((s.next + 1 : Nat) : Int)
    rw [q3] at hj'
    by_cases e : lgUsed N { H with free := rest, page := upd H.page s.next (zeros 504) } j
    · rcases (q4 j).1 e with rfl | e2
      · omega
      · have := h.used_lt e2; omega
    · rw [if_neg e] at hj'; cases hj'
  · show (s.add s.next).n = cnt (s.add s.next).f (s.next + 1)
    rw [q2, h.ok.num, ← cnt_same hsn]
    refine (cnt_set (i := s.next) (by omega) q1 ?_ (fun j hj => ?_) (s.next + 1) (by omega)).symm
    · unfold PS.add; simp
    · unfold PS.add
      show _ = (if (j : Int) = (s.next : Int) then _ else s.f j).isSome
      rw [if_neg (by omega)]
  · have hb' : (if j = (s.next : Int) then some (⟨(zeros 504).toArray⟩ : ByteArray) else s.f j) = some b := hb
    by_cases e : j = s.next
    · rw [if_pos e] at hb'
      cases hb'
      show (zeros 504).toArray.size = 504
      rw [List.size_toArray, zeros_length]
    · rw [if_neg e] at hb'
      exact h.ok.long j b hb'
  · show rest = (s.gone.map Int.toNat).reverse ++ List.range' (s.next + 1) (N - (s.next + 1))
    rw [hg, hr]; rfl
  · have hb' : b ∈ s.gone := hb
    rw [hg] at hb'; cases hb'
  · show (s.add s.next).n + rest.length + 1 = N
    rw [q2]; omega
  · show (upd H.page s.next (zeros 504) i.toNat).length = 504
    unfold upd
    split
    · exact zeros_length _
    · rename_i hne
      rcases (q4 i).1 hi with rfl | e2
      · exact absurd (Int.toNat_natCast s.next) hne
      · exact h.long i e2

theorem RelS.drop (h : RelS N s H) (hN : N ≤ 400) {i : Int} (hi : lgUsed N H i) : RelS N (s.del i) { H with free := i.toNat :: H.free } := by
  have hlt := h.used_lt hi
  have hnx := h.next
  have his : (s.f i).isSome = true := by rw [h.is]; simp [hi]
  obtain ⟨k, rfl⟩ : ∃ k : Nat, i = k := ⟨i.toNat, by omega⟩
  rw [Int.toNat_natCast]
  have hnum := h.num
  have hcnt : cnt s.f s.next = cnt (s.del k).f s.next + 1 := by
    refine cnt_set (i := k) (by omega) ?_ his (fun j hj => ?_) s.next (by omega)
    · unfold PS.del; simp
    · unfold PS.del
      show (if (j : Int) = (k : Int) then _ else s.f j).isSome = _
      rw [if_neg (by omega)]
  have hn1 : (s.del k).n = s.n - 1 := by unfold PS.del; rw [his]; rfl
  have hsn : 1 ≤ s.n := by rw [h.ok.num, hcnt]; omega
  have hiff : ∀ j, lgUsed N { H with free := k :: H.free } j ↔ j ≠ k ∧ lgUsed N H j := fun j => by
    constructor
    · intro ⟨q1, q2, q3⟩
      refine ⟨fun e => q3 (by subst e; simp), q1, q2, fun hm => q3 (List.mem_cons_of_mem _ hm)⟩
    · intro ⟨e, q1, q2, q3⟩
      refine ⟨q1, q2, fun hm => ?_⟩
      rcases List.mem_cons.1 hm with e2 | e2
      · omega
      · exact q3 e2
  have hgl : s.gone.length ≤ H.free.length := by rw [h.free]; simp
  have hpg : ∀ j : Int, (s.del k).f j = if lgUsed N { H with free := k :: H.free } j then some ⟨(H.page j.toNat).toArray⟩ else none := fun j => by
    show (if j = (k : Int) then none else s.f j) = _
    by_cases e : j = k
    · rw [if_pos e, if_neg (fun e2 => ((hiff j).1 e2).1 e)]
    · rw [if_neg e, h.page j]
      by_cases e2 : lgUsed N H j
      · rw [if_pos e2, if_pos ((hiff j).2 ⟨e, e2⟩)]
      · rw [if_neg e2, if_neg (fun e3 => e2 ((hiff j).1 e3).2)]
  refine ⟨⟨h.ok.pos, h.ok.most, fun j hj => ?_, ?_, fun j b hb => ?_, ?_⟩, h.root, ?_, fun b hb => ?_, h.next, hpg, ?_, ?_, fun j hj => h.long j ((hiff j).1 hj).2⟩
  · rw [hpg] at hj
    by_cases e : lgUsed N { H with free := k :: H.free } j
    · exact h.used_lt ((hiff j).1 e).2
    · rw [if_neg e] at hj; cases hj
  · show (s.del k).n = cnt (s.del k).f s.next
    rw [hn1, h.ok.num, hcnt]; rfl
  · have hb' : (if j = (k : Int) then none else s.f j) = some b := hb
    by_cases e : j = k
    · rw [if_pos e] at hb'; cases hb'
    · rw [if_neg e] at hb'; exact h.ok.long j b hb'
  · show (s.gone ++ [(k : Int)]).length ≤ 1000
    simp; omega
  · show k :: H.free = ((s.gone ++ [(k : Int)]).map Int.toNat).reverse ++ List.range' s.next (N - s.next)
    rw [h.free]; simp
  · have hb' : b ∈ s.gone ++ [(k : Int)] := hb
    rcases List.mem_append.1 hb' with e | e
    · exact h.goes b e
    · rw [List.mem_singleton] at e; subst e; exact hlt
  · show (s.del k).n + (H.free.length + 1) + 1 = N
    rw [hn1]; omega
  · exact List.nodup_cons.2 ⟨by have := hi.2.2; simpa using this, h.nodup⟩
end
end Go.Proofs.Ytbdmlhmmdcdppaa
