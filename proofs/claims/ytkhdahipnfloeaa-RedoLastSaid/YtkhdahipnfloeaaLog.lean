/- The log: what Commit and Recover do, plain, and what is left wherever the power goes. -/
import Derived.Test.YtkhdahipnfloeaaRun
namespace Go.Proofs.Ytkhdahipnfloeaa
open Go.RowKit
set_option maxRecDepth 100000

def magic : List UInt8 := [84, 82, 73, 65, 68, 76, 79, 71]
def page (b : List UInt8) : List UInt8 := b ++ zeros (504 - b.length)
theorem page_length (b : List UInt8) (h : b.length ≤ 504) : (page b).length = 504 := by rw [page, List.length_append, zeros_length]; omega
theorem page_page (b : List UInt8) (h : b.length ≤ 504) : page (page b) = page b := by
  have := page_length b h
  rw [page, this]
  show page b ++ [] = _
  rw [List.append_nil]

abbrev Pages := List (Int × List UInt8)
def okPages (size : Nat) (l : Pages) : Bool := l.all (fun p => decide (401 ≤ p.1) && decide (p.1 < size) && decide (p.2.length ≤ 504)) && decide (l.map (·.1)).Nodup
def fitsOf (size : Nat) (l : Pages) : Int := if l.length = 0 then 1 else if 400 < l.length then 4 else if okPages size l then 0 else 1

def bodyWs : Nat → Pages → List (Nat × List UInt8)
  | _, [] => []
  | k, p :: t => (k, le p.1 8 ++ page p.2) :: bodyWs (k + 1) t
def homeWs (l : Pages) : List (Nat × List UInt8) := l.map fun p => (p.1.toNat, page p.2)
def headOf (n : Nat) : List UInt8 := magic ++ le n 8

/-- A row of Writes, and a Sync. -/
def ph (ws : List (Nat × List UInt8)) : List Dop := (ws.map fun p => Dop.W p.1 p.2) ++ [Dop.S]
def homesOps (l : Pages) : List Dop := ph (homeWs l) ++ ph [(0, [])]
def commitOps (l : Pages) : List Dop := ph (bodyWs 1 l) ++ (ph [(0, headOf l.length)] ++ homesOps l)
def Ab.commit (A : Ab) (l : Pages) : Int × Ab := if fitsOf A.now.length l = 0 then A.run (commitOps l) else (fitsOf A.now.length l, A)

def cntOf (h : List UInt8) : Int := wrap64 (num ((h.drop 8).take 8))
def isLog (size : Nat) (h : List UInt8) : Prop := h.take 8 = magic ∧ 1 ≤ cntOf h ∧ cntOf h ≤ 400 ∧ cntOf h < size
instance (size : Nat) (h : List UInt8) : Decidable (isLog size h) := by unfold isLog; infer_instance
def atOf (s : List UInt8) : Int := wrap64 (num (s.take 8))
def pagesOf (K : List (List UInt8)) : Nat → Option Pages
  | 0 => some []
  | i + 1 => match pagesOf K i with
    | none => none
    | some l => if 401 ≤ atOf (K.getD (1 + i) []) ∧ atOf (K.getD (1 + i) []) < K.length then some (l ++ [(atOf (K.getD (1 + i) []), (K.getD (1 + i) []).drop 8)]) else none
def Ab.recover (A : Ab) : Int × Int × Ab :=
  if A.fault 0 ≠ 0 then (0, A.fault 0, A)
  else if isLog A.now.length (A.now.getD 0 []) then
    match pagesOf A.now (cntOf (A.now.getD 0 [])).toNat with
    | none => (0, 9, A)
    | some l => if (A.run (homesOps l)).1 = 0 then (cntOf (A.now.getD 0 []), 0, (A.run (homesOps l)).2) else (0, (A.run (homesOps l)).1, (A.run (homesOps l)).2)
  else (0, 0, A)

theorem run_ph (ws : List (Nat × List UInt8)) (rest : List Dop) {A : Ab} {K : List (List UInt8)} (h : Synced A K) (hw : okWrites K.length ws) :
    (∃ A', Synced A' (over K (secs ws)) ∧ A'.ops = A.ops + (ws.length + 1) ∧ A'.stop = A.stop - (ws.length + 1) ∧ A.run (ph ws ++ rest) = A'.run rest) ∨
    ((A.run (ph ws ++ rest)).1 = 13 ∧ (∃ m, Gone (A.run (ph ws ++ rest)).2 K ((secs ws).take m)) ∧ 1 ≤ A.stop) := by
  rw [run_append]
  rcases run_phase ws h hw with ⟨g1, g2, g3, g4, -⟩ | ⟨g1, g2, g3, -⟩
  · left
    exact ⟨_, g2, g3, g4, by rw [ph, if_pos g1]⟩
  · right
    rw [ph, if_neg (by rw [g1]; decide)]
    exact ⟨g1, g2, g3⟩

/-! ### What the sectors hold -/

structure Pagess (n : Nat) (l : Pages) : Prop where
  some' : l.length ≠ 0
  most : l.length ≤ 400
  ok : ∀ p ∈ l, 401 ≤ p.1 ∧ p.1 < n ∧ p.2.length ≤ 504
  nodup : (l.map (·.1)).Nodup

theorem fits_iff (n : Nat) (l : Pages) : fitsOf n l = 0 ↔ Pagess n l := by
  unfold fitsOf
  constructor
  · intro h
    split at h
    · simp at h
    · split at h
      · simp at h
      · split at h
        · rename_i h1 h2 h3
          simp only [okPages, Bool.and_eq_true, List.all_eq_true, decide_eq_true_eq] at h3
          exact ⟨h1, by omega, fun p hp => ⟨(h3.1 p hp).1.1, (h3.1 p hp).1.2, (h3.1 p hp).2⟩, h3.2⟩
        · simp at h
  · intro h
    rw [if_neg h.some', if_neg (by have := h.most; omega), if_pos]
    simp only [okPages, Bool.and_eq_true, List.all_eq_true, decide_eq_true_eq]
    exact ⟨fun p hp => ⟨⟨(h.ok p hp).1, (h.ok p hp).2.1⟩, (h.ok p hp).2.2⟩, h.nodup⟩

/-- No log, and the homes are H's. -/
structure Before (K H : List (List UInt8)) : Prop where
  len : K.length = H.length
  head : K[0]? = some (zeros 512)
  homes : ∀ j : Nat, 401 ≤ j → K[j]? = H[j]?
/-- A log of l; the homes that it does not have are H's. -/
structure Logged (K H : List (List UInt8)) (l : Pages) : Prop where
  len : K.length = H.length
  head : K[0]? = some (sec (headOf l.length))
  body : ∀ i (h : i < l.length), K[1 + i]? = some (sec (le l[i].1 8 ++ page l[i].2))
  homes : ∀ j : Nat, 401 ≤ j → (∀ p ∈ l, p.1 ≠ (j : Int)) → K[j]? = H[j]?
/-- No log, and the homes are l's, the others H's. -/
structure After (K H : List (List UInt8)) (l : Pages) : Prop where
  len : K.length = H.length
  head : K[0]? = some (zeros 512)
  mine : ∀ p ∈ l, K[p.1.toNat]? = some (sec (page p.2))
  homes : ∀ j : Nat, 401 ≤ j → (∀ p ∈ l, p.1 ≠ (j : Int)) → K[j]? = H[j]?

theorem bodyWs_pos (k : Nat) (l : Pages) : ∀ p ∈ bodyWs k l, k ≤ p.1 ∧ p.1 < k + l.length := by
  induction l generalizing k with
  | nil => intro p hp; simp [bodyWs] at hp
  | cons q t ih =>
    intro p hp
    rcases List.mem_cons.1 hp with rfl | hp
    · simp
    · have := ih (k + 1) p hp
      rw [List.length_cons]; omega
theorem bodyWs_nodup (k : Nat) (l : Pages) : ((bodyWs k l).map (·.1)).Nodup := by
  induction l generalizing k with
  | nil => simp [bodyWs]
  | cons q t ih =>
    rw [bodyWs, List.map_cons, List.nodup_cons]
    refine ⟨fun h => ?_, ih _⟩
    obtain ⟨p, hp, e⟩ := List.mem_map.1 h
    have := (bodyWs_pos (k + 1) t p hp).1
    simp only at e
    omega
theorem bodyWs_mem (k : Nat) (l : Pages) (i : Nat) (hi : i < l.length) : (k + i, le l[i].1 8 ++ page l[i].2) ∈ bodyWs k l := by
  induction l generalizing k i with
  | nil => simp at hi
  | cons q t ih =>
    cases i with
    | zero => simp [bodyWs]
    | succ i =>
      have := ih (k + 1) i (by simpa using hi)
      rw [bodyWs]
      refine List.mem_cons_of_mem _ ?_
      rw [show k + (i + 1) = k + 1 + i by omega]
      simpa using this
theorem bodyWs_short (k : Nat) (l : Pages) (h : ∀ p ∈ l, p.2.length ≤ 504) : ∀ p ∈ bodyWs k l, p.2.length = 512 := by
  induction l generalizing k with
  | nil => intro p hp; simp [bodyWs] at hp
  | cons q t ih =>
    intro p hp
    rcases List.mem_cons.1 hp with rfl | hp
    · rw [List.length_append, le_length, page_length _ (h q (List.mem_cons_self ..))]
    · exact ih (k + 1) (fun r hr => h r (List.mem_cons_of_mem _ hr)) p hp
theorem bodyWs_length (k : Nat) (l : Pages) : (bodyWs k l).length = l.length := by
  induction l generalizing k with
  | nil => rfl
  | cons q t ih => rw [bodyWs, List.length_cons, ih, List.length_cons]

theorem secs_pos {ws : List (Nat × List UInt8)} {P : Nat → Prop} (h : ∀ p ∈ ws, P p.1) : ∀ p ∈ secs ws, P p.1 := by
  intro p hp
  obtain ⟨q, hq, rfl⟩ := List.mem_map.1 hp
  exact h q hq
theorem secs_keys (ws : List (Nat × List UInt8)) : (secs ws).map (·.1) = ws.map (·.1) := by
  unfold secs; rw [List.map_map]; rfl

theorem before_over {K H : List (List UInt8)} (h : Before K H) (l' : List (Nat × List UInt8)) (hp : ∀ p ∈ l', 1 ≤ p.1 ∧ p.1 ≤ 400) : Before (over K l') H := by
  refine ⟨by rw [over_length, h.len], ?_, fun j hj => ?_⟩
  · rw [over_other _ _ _ (fun p hp' => by have := (hp p hp').1; omega)]; exact h.head
  · rw [over_other _ _ _ (fun p hp' => by have := (hp p hp').2; omega)]; exact h.homes j hj

theorem okBody {n : Nat} {l : Pages} (h : Pagess n l) : okWrites n (bodyWs 1 l) := by
  intro p hp
  have h1 := bodyWs_pos 1 l p hp
  have h2 := bodyWs_short 1 l (fun q hq => (h.ok q hq).2.2) p hp
  have h3 := h.most
  obtain ⟨q, hq⟩ : ∃ q, q ∈ l := by
    cases l with
    | nil => exact absurd rfl h.some'
    | cons q t => exact ⟨q, List.mem_cons_self ..⟩
  have h4 := h.ok q hq
  exact ⟨by omega, by omega⟩
theorem Pagess.size {n : Nat} {l : Pages} (h : Pagess n l) : 402 ≤ n := by
  obtain ⟨q, hq⟩ : ∃ q, q ∈ l := by
    cases l with
    | nil => exact absurd rfl h.some'
    | cons q t => exact ⟨q, List.mem_cons_self ..⟩
  have h4 := h.ok q hq
  omega
theorem okHomes {n : Nat} {l : Pages} (h : Pagess n l) : okWrites n (homeWs l) := by
  intro p hp
  obtain ⟨q, hq, rfl⟩ := List.mem_map.1 hp
  have h4 := h.ok q hq
  exact ⟨by show q.1.toNat < n; omega, by show (page q.2).length ≤ 512; rw [page_length _ h4.2.2]; omega⟩
theorem headOf_length (n : Nat) : (headOf n).length = 16 := by rw [headOf, List.length_append, le_length]; rfl

theorem Before.logged {K H : List (List UInt8)} {l : Pages} (h : Before K H) (hl : Pagess K.length l) (hb : ∀ i (hi : i < l.length), K[1 + i]? = some (sec (le l[i].1 8 ++ page l[i].2))) : Logged (over K [(0, sec (headOf l.length))]) H l := by
  have h402 := hl.size
  refine ⟨by rw [over_length, h.len], ?_, fun i hi => ?_, fun j hj _ => ?_⟩
  · rw [over_cons, over_nil, List.getElem?_set_self (by omega)]
  · rw [over_other _ _ _ (fun p hp => by simp at hp; subst hp; show 0 ≠ _; omega)]; exact hb i hi
  · rw [over_other _ _ _ (fun p hp => by simp at hp; subst hp; show 0 ≠ _; omega)]; exact h.homes j hj

theorem homeWs_pos {n : Nat} {l : Pages} (h : Pagess n l) : ∀ p ∈ homeWs l, 401 ≤ p.1 ∧ ∃ q ∈ l, q.1 = (p.1 : Int) := by
  intro p hp
  obtain ⟨q, hq, rfl⟩ := List.mem_map.1 hp
  have h4 := h.ok q hq
  exact ⟨by show 401 ≤ q.1.toNat; omega, q, hq, by show q.1 = (q.1.toNat : Int); omega⟩
theorem homeWs_nodup {n : Nat} {l : Pages} (h : Pagess n l) : ((homeWs l).map (·.1)).Nodup := by
  have e : (homeWs l).map (·.1) = (l.map (·.1)).map Int.toNat := by unfold homeWs; rw [List.map_map, List.map_map]; rfl
  rw [e]
  have g : ∀ m : List Int, (∀ a ∈ m, 401 ≤ a) → m.Nodup → (m.map Int.toNat).Nodup := by
    intro m
    induction m with
    | nil => intro _ _; simp
    | cons a t ih =>
      intro hm hn
      rw [List.nodup_cons] at hn
      rw [List.map_cons, List.nodup_cons]
      refine ⟨fun hin => ?_, ih (fun b hb => hm b (List.mem_cons_of_mem _ hb)) hn.2⟩
      obtain ⟨b, hb, e⟩ := List.mem_map.1 hin
      have h1 := hm a (List.mem_cons_self ..)
      have h2 := hm b (List.mem_cons_of_mem _ hb)
      have : b = a := by omega
      subst this
      exact hn.1 hb
  refine g _ (fun a ha => ?_) h.nodup
  obtain ⟨p, hp, rfl⟩ := List.mem_map.1 ha
  exact (h.ok p hp).1

theorem logged_over {n : Nat} {K H : List (List UInt8)} {l : Pages} (h : Logged K H l) (hl : Pagess n l) (l' : List (Nat × List UInt8)) (hp : ∀ p ∈ l', 401 ≤ p.1 ∧ ∃ q ∈ l, q.1 = (p.1 : Int)) : Logged (over K l') H l := by
  have hm := hl.most
  refine ⟨by rw [over_length, h.len], ?_, fun i hi => ?_, fun j hj hne => ?_⟩
  · rw [over_other _ _ _ (fun p hp' => by have := (hp p hp').1; omega)]; exact h.head
  · rw [over_other _ _ _ (fun p hp' => by have := (hp p hp').1; omega)]; exact h.body i hi
  · rw [over_other _ _ _ (fun p hp' e => by
      obtain ⟨-, q, hq, e'⟩ := hp p hp'
      exact hne q hq (by rw [e', e]))]
    exact h.homes j hj hne

theorem Logged.after {K H : List (List UInt8)} {l : Pages} (h : Logged K H l) (hl : Pagess K.length l) (hm : ∀ p ∈ l, K[p.1.toNat]? = some (sec (page p.2))) : After (over K [(0, sec [])]) H l := by
  have h402 := hl.size
  have e0 : ∀ j, 401 ≤ j → (over K [(0, sec [])])[j]? = K[j]? := fun j hj => over_other _ _ _ (fun p hp => by simp at hp; subst hp; show 0 ≠ _; omega)
  refine ⟨by rw [over_length, h.len], ?_, fun p hp => ?_, fun j hj hne => ?_⟩
  · rw [over_cons, over_nil, List.getElem?_set_self (by omega)]; rfl
  · rw [e0 _ (by have := (hl.ok p hp).1; omega)]; exact hm p hp
  · rw [e0 j hj]; exact h.homes j hj hne
end Go.Proofs.Ytkhdahipnfloeaa
