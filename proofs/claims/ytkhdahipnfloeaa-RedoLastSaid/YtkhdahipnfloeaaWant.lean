/- What the homes are behind commits, and a row of texts whose cells are set. -/
import Derived.Test.YtkhdahipnfloeaaCommits
import Derived.Test.YtkhdahipnfloeaaZeros
namespace Go.Proofs.Ytkhdahipnfloeaa
open Go.RowKit
set_option maxRecDepth 100000

def texts (L : List (List UInt8)) : List ByteArray := L.map fun s => ⟨s.toArray⟩
theorem homesOf_texts (A : Ab) : homesOf A = texts (A.now.drop 401) := rfl
theorem texts_length (L : List (List UInt8)) : (texts L).length = L.length := by simp [texts]
theorem texts_set (L : List (List UInt8)) (j : Nat) (s : List UInt8) : texts (L.set j s) = (texts L).set j ⟨s.toArray⟩ := by simp [texts, List.map_set]
def wants (H : List (List UInt8)) (l : Pages) : List (List UInt8) := over H (l.map fun p => (p.1.toNat - 401, sec p.2))
theorem wants_nil (H : List (List UInt8)) : wants H [] = H := rfl
theorem wants_length (H : List (List UInt8)) (l : Pages) : (wants H l).length = H.length := over_length _ _
theorem wants_succ (H : List (List UInt8)) (l : Pages) (k : Nat) (hk : k < l.length) : wants H (l.take (k + 1)) = (wants H (l.take k)).set (l[k].1.toNat - 401) (sec l[k].2) := by
  unfold wants
  rw [List.take_succ_eq_append_getElem hk, List.map_append, over_append]
  rfl

theorem before_homes {K H : List (List UInt8)} (h : Before K H) : K.drop 401 = H.drop 401 := by
  apply List.ext_getElem?
  intro j
  rw [List.getElem?_drop, List.getElem?_drop]
  exact h.homes (401 + j) (by omega)
theorem after_homes {K H : List (List UInt8)} {l : Pages} (h : After K H l) (hl : Pagess H.length l) : K.drop 401 = wants (H.drop 401) l := by
  apply List.ext_getElem?
  intro j
  rw [List.getElem?_drop]
  by_cases hp : ∃ p ∈ l, p.1 = ((401 + j : Nat) : Int)
  · obtain ⟨p, hp, e⟩ := hp
    have hok := hl.ok p hp
    have h1 := h.mine p hp
    rw [show p.1.toNat = 401 + j by omega, sec_page _ hok.2.2] at h1
    rw [h1]
    symm
    refine over_mem _ _ ?_ j (sec p.2) (List.mem_map.2 ⟨p, hp, by rw [show p.1.toNat - 401 = j by omega]⟩) ?_
    · rw [List.map_map]
      have hn := hl.nodup
      rw [List.Nodup, List.pairwise_map] at hn ⊢
      refine List.Pairwise.imp_of_mem (fun {a b} ha hb hab hne => ?_) hn
      have h2 := hl.ok a ha
      have h3 := hl.ok b hb
      simp only [Function.comp] at hne
      exact hab (by omega)
    · rw [List.length_drop]; omega
  · rw [h.homes (401 + j) (by omega) (fun p hp' e => hp ⟨p, hp', e⟩)]
    unfold wants
    rw [over_other _ _ _ (fun q hq e => ?_), List.getElem?_drop]
    obtain ⟨p, hp', rfl⟩ := List.mem_map.1 hq
    have hok := hl.ok p hp'
    exact hp ⟨p, hp', by simp only at e; omega⟩

/-- Recover, stopped or not, and a crash. -/
theorem recover_crash {A : Ab} {K H : List (List UInt8)} {l : Pages} (hS : Synced A K) (h3 : Some3 K H l) (hl : Pagess H.length l) (hsz : H.length ≤ 1073741824) (keep : List Bool) :
    ∃ K', Synced (A.recover.2.2.crash keep) K' ∧ (A.recover.2.2.crash keep).stop = 0 ∧ Some3 K' H l ∧ (After K H l → After K' H l) := by
  by_cases ha : After K H l
  · rw [recover_none hS ha.head]
    exact ⟨K, (hS.crash keep).1, (hS.crash keep).2, .inr (.inr ha), fun h => h⟩
  · rcases h3 with h | h | h
    · rw [recover_none hS h.head]
      exact ⟨K, (hS.crash keep).1, (hS.crash keep).2, .inl h, fun h => absurd h ha⟩
    · have hl' : Pagess K.length l := by rw [h.len]; exact hl
      rcases recover_log hS h hl' (by rw [h.len]; exact hsz) with ⟨e, K', q1, q2⟩ | ⟨e, ⟨K0, ws, q1, q2⟩, -⟩
      · rw [e]
        exact ⟨K', (q1.crash keep).1, (q1.crash keep).2, .inr (.inr q2), fun _ => q2⟩
      · rw [e]
        obtain ⟨l', g1, g2, g3⟩ := q1.crash keep
        exact ⟨_, g2, g3, .inr (q2 l' g1), fun h => absurd h ha⟩
    · exact absurd h ha

/-! ### A row of texts -/

/-- The block g is a row of texts (and what stands behind). -/
def RowS (w : World) (g : Nat) (L : List ByteArray) : Prop := ∃ cur : Array Value, Blk w g cur 9 ∧ cur.toList.take L.length = strs L
theorem strs_length (L : List ByteArray) : (strs L).length = L.length := by simp [strs]
theorem RowS.lt {w : World} {g : Nat} {L : List ByteArray} (h : RowS w g L) : g < w.heap.size := by
  obtain ⟨cur, h1, -⟩ := h
  exact h1.lt
theorem RowS.cell {w : World} {g : Nat} {L : List ByteArray} (h : RowS w g L) (j : Nat) (hj : j < L.length) : w.cell? ⟨g, j, none⟩ = some (.string L[j]) := by
  obtain ⟨cur, h1, h2⟩ := h
  rw [h1.cell, ← Array.getElem?_toList]
  have e : (cur.toList.take L.length)[j]? = cur.toList[j]? := by rw [List.getElem?_take, if_pos hj]
  rw [← e, h2]
  simp [strs, hj]
theorem RowS.frozen {w : World} {g : Nat} {L : List ByteArray} (h : RowS w g L) (j : Nat) : w.frozen? ⟨g, j, none⟩ = false := by
  obtain ⟨cur, h1, -⟩ := h
  exact h1.frozen j
theorem RowS.set {w : World} {g : Nat} {L : List ByteArray} (h : RowS w g L) (j : Nat) (b : ByteArray) : RowS (w.setCell ⟨g, j, none⟩ (.string b)) g (L.set j b) := by
  obtain ⟨cur, h1, h2⟩ := h
  refine ⟨_, h1.set j (.string b), ?_⟩
  rw [List.length_set, Array.toList_setIfInBounds, List.take_set, h2]
  simp [strs, List.map_set]
theorem RowS.moved {P : Nat → Prop} {w w' : World} {g : Nat} {L : List ByteArray} (h : RowS w g L) (hm : Moved P w w') (hP : ¬ P g) : RowS w' g L := by
  obtain ⟨cur, h1, h2⟩ := h
  exact ⟨cur, h1.moved hm hP, h2⟩
theorem RowS.ss {w : World} {g : Nat} {L : List ByteArray} (h : RowS w g L) (n cap : Nat) (hn : n = L.length) (hc : L.length ≤ cap) (hm : cap ≤ maxLen) : Ss w (.slice (some ⟨g, 0, none⟩) n cap) L := by
  refine ⟨_, cap, by rw [hn], hc, hm, (fun h => by cases h), fun ad had j u hu => ?_⟩
  cases had
  have hj : j < L.length := by
    have := (List.getElem?_eq_some_iff.1 hu).1
    rwa [strs_length] at this
  have hcell := h.cell j hj
  rw [Addr.add_lit, Nat.zero_add, hcell]
  simpa [strs, hj] using hu
theorem OwnS.row {w : World} {base : Nat} {v : Value} {L : List ByteArray} (h : OwnS w base v L) (h0 : 0 < L.length) : ∃ g cap, v = .slice (some ⟨g, 0, none⟩) L.length cap ∧ L.length ≤ cap ∧ cap ≤ maxLen ∧ base ≤ g ∧ RowS w g L := by
  rcases h.2 with ⟨rfl, hn⟩ | ⟨g, cap, cur, rfl, hb, hh, h1, h2, h3, h4⟩
  · omega
  · exact ⟨g, cap, rfl, h1, h2, hb, cur, hh, by simpa using h4⟩

theorem Sx.mv {w0 w w' : World} {X P' : Nat → Prop} {r : Nat} {A : Ab} (h : Sx w0 w X r A) (hm : Moved P' w w') (hP : ∀ k, P' k → X k ∧ w0.heap.size ≤ k) : Sx w0 w' X r A := by
  obtain ⟨h1, h2, P, h3, h4⟩ := h
  exact ⟨h1.trans (hm.below (fun j hj => (hP j hj).2) h1.size), fun k hk => Nat.lt_of_lt_of_le (h2 k hk) hm.size, P, h3.moved hm (fun k hk hj => (h4 k hk).2.2 (hP k hj).1), fun k hk => ⟨(h4 k hk).1, Nat.lt_of_lt_of_le (h4 k hk).2.1 hm.size, (h4 k hk).2.2⟩⟩
end Go.Proofs.Ytkhdahipnfloeaa
