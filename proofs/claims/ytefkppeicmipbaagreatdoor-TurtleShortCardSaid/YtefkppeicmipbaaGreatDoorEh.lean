/- Rows of numbers, read. -/
import Derived.Test.YtefkppeicmipbaaGreatDoorUx
import Derived.ChangeMaps5
import Derived.OpenShut
import Derived.Test.YtefkppeicmipbaaGreatDoorUa
import Derived.Deep.AppendLies
import Derived.Deep.LoopGhost
namespace Go.Proofs.YtefkppeicmipbaaGreatDoor
open Go.RowKit
set_option maxRecDepth 100000
set_option linter.unusedVariables false
/-- A slice of numbers that reads as l, wherever it lies. -/
def Nl (w : World) (v : Value) (l : List Int) : Prop :=
  ∃ ao cap, v = .slice ao l.length cap ∧ l.length ≤ cap ∧ cap ≤ maxLen ∧ (ao = none → cap = 0) ∧ ∀ ad, ao = some ad → ∀ j u, (l.map (Value.int .i64))[j]? = some u → w.cell? (ad.add j) = some u
theorem Nl.at {w : World} {v : Value} {l : List Int} (h : Nl w v l) (hl : 0 < l.length) :
    ∃ b off cap, v = .slice (some ⟨b, off, none⟩) l.length cap ∧ l.length ≤ cap ∧ cap ≤ maxLen ∧ ∀ j (hj : j < l.length), w.cell? ⟨b, off + j, none⟩ = some (.int .i64 l[j]) := by
  obtain ⟨ao, cap, rfl, h1, h2, h3, h4⟩ := h
  cases ao with
  | none => have := h3 rfl; omega
  | some ad =>
    obtain ⟨b, off, spot⟩ := ad
    have key : ∀ j (hj : j < l.length), w.cell? ((⟨b, off, spot⟩ : Addr).add j) = some (.int .i64 l[j]) := fun j hj => h4 _ rfl j _ (by simp [hj])
    have hs : spot = none := by simpa [Addr.add] using World.cell?_spot (key 0 hl)
    subst hs
    refine ⟨b, off, cap, rfl, h1, h2, fun j hj => ?_⟩
    have := key j hj
    rwa [Addr.add_lit] at this
theorem Nl.of_row {w : World} {a : Option Addr} {len cap : Nat} {zs : List Int}
    (h : (a = none ∧ len = 0 ∧ cap = 0 ∧ zs = []) ∨ ∃ x, a = some x ∧ len ≤ cap ∧ cap ≤ maxLen ∧ zs.length = cap ∧ (∀ i, i < zs.length → w.cell? (x.add i) = some (.int .i64 (zs.getD i 0))) ∧ ∀ n ∈ zs, (Lit.int .i64 n).wf = true) :
    ∃ l : List Int, l.length = len ∧ Nl w (.slice a len cap) l := by
  rcases h with ⟨rfl, rfl, rfl, rfl⟩ | ⟨x, rfl, hl, hm, hz, hc, hw⟩
  · exact ⟨[], rfl, none, 0, rfl, by simp, by simp [maxLen], fun _ => rfl, fun ad h => by cases h⟩
  · have hlen : (zs.take len).length = len := by simp; omega
    refine ⟨zs.take len, hlen, some x, cap, by rw [hlen], by omega, hm, (fun h => by cases h), fun ad had j u hu => ?_⟩
    cases had
    have hj : j < len := by
      have := (List.getElem?_eq_some_iff.1 hu).1
      rw [List.length_map, hlen] at this; exact this
    rw [hc j (by omega)]
    have hjz : j < zs.length := by omega
    simp [hj, hjz] at hu
    rw [← hu]
    simp [List.getD, hjz]
theorem Nl.below {w w' : World} {v : Value} {l : List Int} (h : Nl w v l) (hb : Below w.heap.size w w') : Nl w' v l := by
  obtain ⟨ao, cap, e, h1, h2, h3, h4⟩ := h
  exact ⟨ao, cap, e, h1, h2, h3, fun ad had j u hu => (hb.cell (World.block_lt_of_cell? _ _ (h4 ad had j u hu))).trans (h4 ad had j u hu)⟩
end Go.Proofs.YtefkppeicmipbaaGreatDoor
/- Triples as text: what is told with ; and , plainly. -/
namespace Go.Proofs.YtefkppeicmipbaaGreatDoor
open Go.RowKit
set_option maxRecDepth 1000000
set_option linter.unusedVariables false
set_option linter.unusedSimpArgs false
/-- the predicates and the objects, as text, as tokens, as terms. -/
def shP : Nat → List UInt8
  | 0 => [60, 112, 58, 97, 62]
  | 1 => [60, 112, 58, 98, 62]
  | _ => [97]
def shO : Nat → List UInt8
  | 0 => [49]
  | 1 => [60, 111, 58, 111, 62]
  | 2 => [34, 116, 34, 64, 101, 110]
  | _ => [95, 58, 98]
def shPK : Nat → Tok
  | 0 => (1, [112, 58, 97])
  | 1 => (1, [112, 58, 98])
  | _ => (8, [97])
def shOK : Nat → List Tok
  | 0 => [(7, [49])]
  | 1 => [(1, [111, 58, 111])]
  | 2 => [(5, [116]), (6, [101, 110])]
  | _ => [(3, [98])]
def shPT : Nat → Tm
  | 0 => named (bl [112, 58, 97])
  | 1 => named (bl [112, 58, 98])
  | _ => named rTypeB
def shOT : Nat → Tm
  | 0 => numT [] (7, [49])
  | 1 => named (bl [111, 58, 111])
  | 2 => ⟨3, bl [116], bl [101, 110], nobT⟩
  | _ => ⟨2, bl [98], nobT, nobT⟩
def shS : Tm := named (bl [115, 58, 115])
def shX (p o : Nat) : Tri3 := (shS, shPT p, shOT o)
def ssK : Tok := (1, [115, 58, 115])
/-- a document on its way. -/
def stE (K : List Tok) (told : List Tri3) : St := ⟨K, ⟨#[]⟩, [], 0, 0, told, 0⟩
theorem sh_fits (p o : Nat) : fitsK shS (shPT p) (shOT o) = 0 := by
  unfold shPT shOT
  (repeat' split) <;> decide +kernel
theorem sh_tell (p o : Nat) (K : List Tok) (told : List Tri3) (h : told.length < 300) : (stE K told).tell shS (shPT p) (shOT o) = stE K (told ++ [shX p o]) := by
  unfold St.tell
  rw [sh_fits]
  have h1 : (stE K told).many = stE K told := if_neg (by show ¬ told.length = 300; omega)
  rw [h1]
  rfl
theorem sh_obj (lab : ByteArray) (o m : Nat) (K : List Tok) (told : List Tri3) : objP lab (m + 2) (stE (shOK o ++ K) told) = (shOT o, stE K told) := by
  match o with
  | 0 => show _ = _; kernel_rfl
  | 1 => show _ = _; kernel_rfl
  | 2 => show _ = _; kernel_rfl
  | _ + 3 => show _ = _; kernel_rfl
theorem sh_pred (p : Nat) (K : List Tok) (told : List Tri3) : predT (stE (shPK p :: K) told) = shPT p ∧ predS (stE (shPK p :: K) told) = stE K told := by
  match p with
  | 0 => exact ⟨by kernel_rfl, by kernel_rfl⟩
  | 1 => exact ⟨by kernel_rfl, by kernel_rfl⟩
  | _ + 2 => exact ⟨by kernel_rfl, by kernel_rfl⟩
theorem sh_objs1 (lab : ByteArray) (m p o : Nat) (T : Tok) (K : List Tok) (told : List Tri3) (h : told.length < 300) :
    objsP lab (m + 3) shS (shPT p) (stE (shOK o ++ T :: K) told) =
      if T = sg [44] then objsP lab (m + 2) shS (shPT p) (stE K (told ++ [shX p o])) else if T = sg [59] then (true, (stE K (told ++ [shX p o])).skip [59]) else (false, stE (T :: K) (told ++ [shX p o])) := by
  rw [objsP, sh_obj]
  dsimp only
  rw [sh_tell p o _ told h]
  rfl
/-- the objects' tokens, with ',' between. -/
def osK : List Nat → List Tok
  | [] => []
  | [o] => shOK o
  | o :: r => shOK o ++ sg [44] :: osK r
theorem sh_objs (lab : ByteArray) (p : Nat) (T : Tok) (K : List Tok) (hT : T ≠ sg [44]) : ∀ (os : List Nat) (m : Nat) (told : List Tri3), os ≠ [] → told.length + os.length ≤ 300 →
    objsP lab (m + os.length + 2) shS (shPT p) (stE (osK os ++ T :: K) told) =
      if T = sg [59] then (true, (stE K (told ++ os.map (shX p))).skip [59]) else (false, stE (T :: K) (told ++ os.map (shX p)))
  | [], _, _, h, _ => absurd rfl h
  | [o], m, told, _, ht => by
    have := sh_objs1 lab m p o T K told (by simp at ht; omega)
    rw [if_neg hT] at this
    exact this
  | o :: o2 :: r, m, told, _, ht => by
    simp only [List.length_cons] at ht
    have h1 := sh_objs1 lab (m + (o2 :: r).length) p o (sg [44]) (osK (o2 :: r) ++ T :: K) told (by omega)
    rw [if_pos rfl] at h1
    have ih := sh_objs lab p T K hT (o2 :: r) m (told ++ [shX p o]) (by simp) (by simp only [List.length_append, List.length_cons, List.length_nil]; omega)
    rw [ih] at h1
    have e : osK (o :: o2 :: r) ++ T :: K = shOK o ++ sg [44] :: (osK (o2 :: r) ++ T :: K) := by
      show (shOK o ++ sg [44] :: osK (o2 :: r)) ++ T :: K = _
      simp
    rw [e, show m + (o :: o2 :: r).length + 2 = m + (o2 :: r).length + 3 by simp only [List.length_cons]; omega, h1]
    simp
/-- the predicates' tokens, with ';' between. -/
def psK : List (Nat × List Nat) → List Tok
  | [] => []
  | [x] => shPK x.1 :: osK x.2
  | x :: r => shPK x.1 :: osK x.2 ++ sg [59] :: psK r
def psX : List (Nat × List Nat) → List Tri3
  | [] => []
  | x :: r => x.2.map (shX x.1) ++ psX r
def psN (L : List (Nat × List Nat)) : Nat := (psX L).length
theorem sh_skip (p : Nat) (K : List Tok) (told : List Tri3) : (stE (shPK p :: K) told).skip [59] = stE (shPK p :: K) told ∧ (stE (shPK p :: K) told).ends = false := by
  match p with
  | 0 => exact ⟨rfl, rfl⟩
  | 1 => exact ⟨rfl, rfl⟩
  | _ + 2 => exact ⟨rfl, rfl⟩
theorem psK_head (x : Nat × List Nat) (r : List (Nat × List Nat)) : ∃ K, psK (x :: r) = shPK x.1 :: K := by
  cases r with
  | nil => exact ⟨_, rfl⟩
  | cons y r => exact ⟨_, rfl⟩
theorem sh_verbs (lab : ByteArray) (K : List Tok) : ∀ (L : List (Nat × List Nat)) (m : Nat) (told : List Tri3), L ≠ [] → (∀ x ∈ L, x.2 ≠ []) → told.length + psN L ≤ 300 →
    verbP lab (m + psN L + L.length + 2) shS (stE (psK L ++ sg [46] :: K) told) = stE (sg [46] :: K) (told ++ psX L)
  | [], _, _, h, _, _ => absurd rfl h
  | [x], m, told, _, hx, ht => by
    have hn : psN [x] = x.2.length := by simp [psN, psX]
    rw [hn] at ht ⊢
    show verbP lab (m + x.2.length + 2 + 1) shS (stE (shPK x.1 :: (osK x.2 ++ sg [46] :: K)) told) = _
    rw [verbP, (sh_pred _ _ _).1, (sh_pred _ _ _).2, sh_objs lab x.1 (sg [46]) K (by decide) x.2 m told (hx x (by simp)) ht, if_neg (by decide)]
    simp [psX]
  | x :: y :: r, m, told, _, hx, ht => by
    have hn : psN (x :: y :: r) = x.2.length + psN (y :: r) := by simp [psN, psX]
    rw [hn] at ht ⊢
    have ih := sh_verbs lab K (y :: r) (m + x.2.length) (told ++ x.2.map (shX x.1)) (by simp) (fun z hz => hx z (by simp [hz])) (by simp; omega)
    obtain ⟨K2, hK2⟩ := psK_head y r
    have h1 := sh_objs lab x.1 (sg [59]) (psK (y :: r) ++ sg [46] :: K) (by decide) x.2 (m + psN (y :: r) + (y :: r).length) told (hx x (by simp)) (by omega)
    rw [if_pos rfl] at h1
    rw [hK2] at h1 ih
    rw [show shPK y.1 :: K2 ++ sg [46] :: K = shPK y.1 :: (K2 ++ sg [46] :: K) from rfl] at h1 ih
    rw [(sh_skip _ _ _).1] at h1
    have e : psK (x :: y :: r) ++ sg [46] :: K = shPK x.1 :: (osK x.2 ++ sg [59] :: (shPK y.1 :: (K2 ++ sg [46] :: K))) := by
      show (shPK x.1 :: osK x.2 ++ sg [59] :: psK (y :: r)) ++ sg [46] :: K = _
      rw [hK2]; simp
    rw [e, show m + (x.2.length + psN (y :: r)) + (x :: y :: r).length + 2 = m + psN (y :: r) + (y :: r).length + x.2.length + 2 + 1 by simp only [List.length_cons]; omega]
    rw [verbP, (sh_pred _ _ _).1, (sh_pred _ _ _).2, h1]
    dsimp only
    rw [(sh_skip _ _ _).2]
    rw [show m + psN (y :: r) + (y :: r).length + x.2.length + 2 = m + x.2.length + psN (y :: r) + (y :: r).length + 2 by omega]
    rw [if_neg (by simp), ih]
    simp [psX]
/-- a statement of them, and its '.'. -/
theorem sh_stmt (lab : ByteArray) (K : List Tok) (L : List (Nat × List Nat)) (m : Nat) (told : List Tri3) (h0 : L ≠ []) (hx : ∀ x ∈ L, x.2 ≠ []) (ht : told.length + psN L ≤ 300) :
    (stmtP lab (m + psN L + L.length + 2) (stE (ssK :: (psK L ++ sg [46] :: K)) told)).need [46] = stE K (told ++ psX L) := by
  have hv := sh_verbs lab K L m told h0 hx ht
  have h1 : stmtP lab (m + psN L + L.length + 2) (stE (ssK :: (psK L ++ sg [46] :: K)) told) = verbP lab (m + psN L + L.length + 2) shS (stE (psK L ++ sg [46] :: K) told) := by kernel_rfl
  rw [h1, hv]
  rfl

theorem sh_doc1 (lab : ByteArray) (L : List (Nat × List Nat)) (m n : Nat) (h0 : L ≠ []) (hx : ∀ x ∈ L, x.2 ≠ []) (ht : psN L ≤ 300) :
    docP lab (m + psN L + L.length + 2) (n + 1) (stE (ssK :: (psK L ++ [sg [46]])) []) = stE [] (psX L) := by
  have h := sh_stmt lab [] L m [] h0 hx (by simpa using ht)
  show docP lab _ n ((stmtP lab _ _).need [46]) = _
  rw [h]
  cases n <;> rfl
/-- one by one. -/
def liK (x : Nat × Nat) : List Tok := ssK :: shPK x.1 :: (shOK x.2 ++ [sg [46]])
theorem sh_doc2 (lab : ByteArray) : ∀ (l : List (Nat × Nat)) (m n : Nat) (told : List Tri3), told.length + l.length ≤ 300 →
    docP lab (m + 4) (n + l.length) (stE (l.flatMap liK) told) = stE [] (told ++ l.map fun x => shX x.1 x.2)
  | [], m, n, told, _ => by
    rw [List.map_nil, List.append_nil]
    cases n <;> rfl
  | x :: l, m, n, told, ht => by
    rw [List.length_cons] at ht
    have h := sh_stmt lab (l.flatMap liK) [(x.1, [x.2])] m told (by simp) (by simp) (by simp [psN, psX]; omega)
    have e : ssK :: (psK [(x.1, [x.2])] ++ sg [46] :: l.flatMap liK) = (x :: l).flatMap liK := by
      rw [List.flatMap_cons]
      show ssK :: (shPK x.1 :: shOK x.2 ++ _) = _
      simp [liK]
    rw [e, show m + psN [(x.1, [x.2])] + [(x.1, [x.2])].length + 2 = m + 4 from rfl] at h
    have h2 : docP lab (m + 4) (n + (x :: l).length) (stE ((x :: l).flatMap liK) told) = docP lab (m + 4) (n + l.length) ((stmtP lab (m + 4) (stE ((x :: l).flatMap liK) told)).need [46]) := by
      rw [← e]; rfl
    rw [h2, h, sh_doc2 lab l m n _ (by simp [psX]; omega)]
    simp [psX]

/-- tokens of a text, with those of what is behind it. -/
def mapsE (X : List Tok) (o : Option (List Tok)) : Option (List Tok) := X.foldr (fun t o => o.map fun k => t :: k) o
theorem mapsE_some (Y : List Tok) : ∀ X, mapsE X (some Y) = some (X ++ Y)
  | [] => rfl
  | x :: X => by
    show (mapsE X (some Y)).map _ = _
    rw [mapsE_some Y X]; rfl
theorem mapsE_app (X Y : List Tok) (o : Option (List Tok)) : mapsE (X ++ Y) o = mapsE X (mapsE Y o) := by unfold mapsE; rw [List.foldr_append]
def tokF (q : List UInt8) : Option (List Tok) := tokL (q.length + 1) q
theorem tokF_eq (q : List UInt8) (n : Nat) (h : q.length < n) : tokL n q = tokF q := tok_fuel _ _ q h (Nat.lt_succ_self _)
/-- a text ahead of a blank is these tokens. -/
def Tkb (l : List UInt8) (K : List Tok) : Prop := (l = [] ∨ ∃ m, l = 32 :: m) ∧ ∀ q, tokF (l ++ 32 :: q) = mapsE K (tokF (32 :: q))
theorem Tkb.nil : Tkb [] [] := ⟨.inl rfl, fun _ => rfl⟩
theorem Tkb.app {l l' : List UInt8} {K K' : List Tok} (h : Tkb l K) (h' : Tkb l' K') : Tkb (l ++ l') (K ++ K') := by
  refine ⟨?_, fun q => ?_⟩
  · rcases h.1 with rfl | ⟨m, rfl⟩
    · exact h'.1
    · exact .inr ⟨m ++ l', rfl⟩
  · rw [mapsE_app]
    rcases h'.1 with e | ⟨m, e⟩
    · have := h'.2 q
      rw [e, List.nil_append] at this
      rw [e, List.append_nil, ← this]
      exact h.2 q
    · rw [← h'.2 q, e, List.append_assoc]
      exact h.2 (m ++ 32 :: q)
theorem Tkb.one {m : List UInt8} {K : List Tok} (c : Nat) (h : ∀ n q, tokL (n + c + 1) (32 :: m ++ 32 :: q) = mapsE K (tokL (n + 1) (32 :: q))) : Tkb (32 :: m) K := by
  refine ⟨.inr ⟨m, rfl⟩, fun q => ?_⟩
  have := h (m.length + q.length + 10) q
  rw [tokF_eq _ _ (by simp; omega), tokF_eq _ _ (by simp; omega)] at this
  exact this
theorem tkb_o (o : Nat) : Tkb (32 :: shO o) (shOK o) := by
  match o with
  | 0 => exact Tkb.one 1 (fun n q => by kernel_rfl)
  | 1 => exact Tkb.one 1 (fun n q => by kernel_rfl)
  | 2 => exact Tkb.one 2 (fun n q => by kernel_rfl)
  | _ + 3 => exact Tkb.one 1 (fun n q => by kernel_rfl)
theorem tkb_p (p : Nat) : Tkb (32 :: shP p) [shPK p] := by
  match p with
  | 0 => exact Tkb.one 1 (fun n q => by kernel_rfl)
  | 1 => exact Tkb.one 1 (fun n q => by kernel_rfl)
  | _ + 2 => exact Tkb.one 1 (fun n q => by kernel_rfl)
theorem tkb_comma : Tkb [32, 44] [sg [44]] := Tkb.one 1 (fun n q => by kernel_rfl)
theorem tkb_semi : Tkb [32, 59] [sg [59]] := Tkb.one 1 (fun n q => by kernel_rfl)
def ssL : List UInt8 := [60, 115, 58, 115, 62]
theorem tok_ss (n : Nat) (q : List UInt8) : tokL (n + 1 + 1) (ssL ++ 32 :: q) = mapsE [ssK] (tokL (n + 1) (32 :: q)) := by kernel_rfl
theorem tok_dot : tokF [32, 46] = some [sg [46]] := by kernel_rfl
/-- a line of its own. -/
def liL (x : Nat × Nat) : List UInt8 := ssL ++ 32 :: shP x.1 ++ 32 :: shO x.2 ++ [32, 46, 10]
theorem tok_li (p o : Nat) : ∃ c, ∀ n q, tokL (n + c + 1) (liL (p, o) ++ q) = mapsE (liK (p, o)) (tokL (n + 1) q) := by
  match p, o with
  | 0, 0 => exact ⟨4, fun n q => by kernel_rfl⟩
  | 0, 1 => exact ⟨4, fun n q => by kernel_rfl⟩
  | 0, 2 => exact ⟨5, fun n q => by kernel_rfl⟩
  | 0, _ + 3 => exact ⟨4, fun n q => by kernel_rfl⟩
  | 1, 0 => exact ⟨4, fun n q => by kernel_rfl⟩
  | 1, 1 => exact ⟨4, fun n q => by kernel_rfl⟩
  | 1, 2 => exact ⟨5, fun n q => by kernel_rfl⟩
  | 1, _ + 3 => exact ⟨4, fun n q => by kernel_rfl⟩
  | _ + 2, 0 => exact ⟨4, fun n q => by kernel_rfl⟩
  | _ + 2, 1 => exact ⟨4, fun n q => by kernel_rfl⟩
  | _ + 2, 2 => exact ⟨5, fun n q => by kernel_rfl⟩
  | _ + 2, _ + 3 => exact ⟨4, fun n q => by kernel_rfl⟩
theorem tok_lis : ∀ l : List (Nat × Nat), tokF (l.flatMap liL) = some (l.flatMap liK)
  | [] => by rfl
  | x :: l => by
    obtain ⟨c, hc⟩ := tok_li x.1 x.2
    have := hc ((liL x).length + (l.flatMap liL).length + 10) (l.flatMap liL)
    rw [show ((x.1, x.2) : Nat × Nat) = x from rfl] at this
    rw [tokF_eq _ _ (by rw [List.length_append]; omega), tokF_eq _ _ (by omega), tok_lis l, mapsE_some] at this
    exact this

/-- the text, by numbers: so many predicates, each of its own objects. -/
def oA (i k : Nat) : List UInt8 := (List.range k).flatMap fun j => (if j = 0 then [] else [32, 44]) ++ 32 :: shO ((i + j) % 4)
def oN (i k : Nat) : List Nat := (List.range k).map fun j => (i + j) % 4
def pA (p n : Nat → Nat) (i : Nat) : List UInt8 := (List.range i).flatMap fun j => (if j = 0 then [] else [32, 59]) ++ (32 :: shP (p j) ++ oA j (n j))
def pL (p n : Nat → Nat) (i : Nat) : List (Nat × List Nat) := (List.range i).map fun j => (p j, oN j (n j))
def pF (p n : Nat → Nat) (i : Nat) : List (Nat × Nat) := (List.range i).flatMap fun j => (oN j (n j)).map fun o => (p j, o)
theorem oA_succ (i k : Nat) : oA i (k + 1) = oA i k ++ ((if k = 0 then [] else [32, 44]) ++ 32 :: shO ((i + k) % 4)) := by
  unfold oA; rw [List.range_succ, List.flatMap_append]; simp
theorem oN_succ (i k : Nat) : oN i (k + 1) = oN i k ++ [(i + k) % 4] := by
  unfold oN; rw [List.range_succ, List.map_append]; rfl
theorem pA_succ (p n : Nat → Nat) (i : Nat) : pA p n (i + 1) = pA p n i ++ ((if i = 0 then [] else [32, 59]) ++ (32 :: shP (p i) ++ oA i (n i))) := by
  unfold pA; rw [List.range_succ, List.flatMap_append]; simp
theorem pL_succ (p n : Nat → Nat) (i : Nat) : pL p n (i + 1) = pL p n i ++ [(p i, oN i (n i))] := by
  unfold pL; rw [List.range_succ, List.map_append]; rfl
theorem pF_succ (p n : Nat → Nat) (i : Nat) : pF p n (i + 1) = pF p n i ++ (oN i (n i)).map fun o => (p i, o) := by
  unfold pF; rw [List.range_succ, List.flatMap_append]; simp
theorem osK_snoc (o : Nat) : ∀ l : List Nat, l ≠ [] → osK (l ++ [o]) = osK l ++ sg [44] :: shOK o
  | [], h => absurd rfl h
  | [a], _ => rfl
  | a :: b :: l, _ => by
    have ih := osK_snoc o (b :: l) (by simp)
    show shOK a ++ sg [44] :: osK ((b :: l) ++ [o]) = (shOK a ++ sg [44] :: osK (b :: l)) ++ _
    rw [ih]; simp
theorem psK_snoc (x : Nat × List Nat) : ∀ l : List (Nat × List Nat), l ≠ [] → psK (l ++ [x]) = psK l ++ sg [59] :: (shPK x.1 :: osK x.2)
  | [], h => absurd rfl h
  | [a], _ => by show (shPK a.1 :: osK a.2) ++ sg [59] :: psK [x] = _; rfl
  | a :: b :: l, _ => by
    have ih := psK_snoc x (b :: l) (by simp)
    show (shPK a.1 :: osK a.2) ++ sg [59] :: psK ((b :: l) ++ [x]) = ((shPK a.1 :: osK a.2) ++ sg [59] :: psK (b :: l)) ++ _
    rw [ih]; simp
theorem psX_app : ∀ l l' : List (Nat × List Nat), psX (l ++ l') = psX l ++ psX l'
  | [], l' => rfl
  | x :: l, l' => by
    show x.2.map _ ++ psX (l ++ l') = _
    rw [psX_app l l', ← List.append_assoc]; rfl
theorem oN_len (i k : Nat) : (oN i k).length = k := by simp [oN]
theorem oA_tok (i : Nat) : ∀ k, Tkb (oA i k) (osK (oN i k))
  | 0 => Tkb.nil
  | k + 1 => by
    have ih := oA_tok i k
    rw [oA_succ, oN_succ]
    by_cases h : k = 0
    · subst h
      exact tkb_o _
    · rw [if_neg h, osK_snoc _ _ (by intro e; have := oN_len i k; rw [e] at this; exact h this.symm)]
      exact ih.app (tkb_comma.app (tkb_o _))
theorem pL_len (p n : Nat → Nat) (i : Nat) : (pL p n i).length = i := by simp [pL]
theorem pA_tok (p n : Nat → Nat) : ∀ i, Tkb (pA p n i) (psK (pL p n i))
  | 0 => Tkb.nil
  | i + 1 => by
    have ih := pA_tok p n i
    rw [pA_succ, pL_succ]
    have h1 := (tkb_p (p i)).app (oA_tok i (n i))
    by_cases h : i = 0
    · subst h
      exact h1
    · rw [if_neg h, psK_snoc _ _ (by intro e; have := pL_len p n i; rw [e] at this; exact h this.symm)]
      exact ih.app (tkb_semi.app h1)
theorem pX_eq (p n : Nat → Nat) : ∀ i, psX (pL p n i) = (pF p n i).map fun x => shX x.1 x.2
  | 0 => rfl
  | i + 1 => by
    rw [pL_succ, pF_succ, psX_app, List.map_append, pX_eq p n i]
    simp [psX, Function.comp_def]
def docS (p n : Nat → Nat) (i : Nat) : List UInt8 := ssL ++ pA p n i ++ [32, 46]
theorem docS_tok (p n : Nat → Nat) (i : Nat) : tokF (docS p n i) = some (ssK :: (psK (pL p n i) ++ [sg [46]])) := by
  have h := (pA_tok p n i).2 [46]
  rw [tok_dot, mapsE_some] at h
  have hq : ∃ q, pA p n i ++ [32, 46] = 32 :: q := by
    rcases (pA_tok p n i).1 with e | ⟨m, e⟩
    · exact ⟨[46], by rw [e]; rfl⟩
    · exact ⟨m ++ [32, 46], by rw [e]; rfl⟩
  obtain ⟨q, hq⟩ := hq
  have h2 := tok_ss (q.length + 10) q
  rw [← hq] at h2
  rw [tokF_eq _ _ (by rw [List.length_append, hq]; simp [ssL]; omega), tokF_eq _ _ (by rw [hq]; simp), h] at h2
  unfold docS
  rw [List.append_assoc, h2]
  rfl
theorem oA_len (i : Nat) : ∀ k, (oA i k).length ≤ 9 * k
  | 0 => Nat.le_refl _
  | k + 1 => by
    have ih := oA_len i k
    have h1 : (if k = 0 then ([] : List UInt8) else [32, 44]).length ≤ 2 := by split <;> simp
    have h2 : (shO ((i + k) % 4)).length ≤ 6 := by unfold shO; split <;> decide
    rw [oA_succ, List.length_append, List.length_append, List.length_cons]
    omega
theorem pA_len (p n : Nat → Nat) (hn : ∀ j, n j ≤ 3) : ∀ i, (pA p n i).length ≤ 40 * i
  | 0 => Nat.le_refl _
  | i + 1 => by
    have ih := pA_len p n hn i
    have h1 : (if i = 0 then ([] : List UInt8) else [32, 59]).length ≤ 2 := by split <;> simp
    have h2 : (shP (p i)).length ≤ 5 := by unfold shP; split <;> decide
    have h3 := oA_len i (n i)
    have := hn i
    rw [pA_succ, List.length_append, List.length_append, List.length_append, List.length_cons]
    omega
theorem pF_len (p n : Nat → Nat) (hn : ∀ j, n j ≤ 3) : ∀ i, (pF p n i).length ≤ 3 * i
  | 0 => Nat.le_refl _
  | i + 1 => by
    have ih := pF_len p n hn i
    have := hn i
    rw [pF_succ, List.length_append, List.length_map, oN_len]
    omega
theorem liL_len (x : Nat × Nat) : (liL x).length ≤ 21 := by
  have h2 : (shP x.1).length ≤ 5 := by unfold shP; split <;> decide
  have h3 : (shO x.2).length ≤ 6 := by unfold shO; split <;> decide
  unfold liL ssL
  simp only [List.length_append, List.length_cons, List.length_nil]
  omega
theorem lis_len : ∀ l : List (Nat × Nat), (l.flatMap liL).length ≤ 21 * l.length
  | [] => Nat.le_refl _
  | x :: l => by
    have := lis_len l
    have := liL_len x
    rw [List.flatMap_cons, List.length_append, List.length_cons]
    omega
theorem pK_len (p n : Nat → Nat) : ∀ i, psN (pL p n i) + (pL p n i).length ≤ (psK (pL p n i)).length + 1
  | 0 => by simp [psN, pL, psX, psK]
  | i + 1 => by
    have ih := pK_len p n i
    have hos : ∀ k, (oN i k).length ≤ (osK (oN i k)).length := by
      intro k
      induction k with
      | zero => exact Nat.le_refl _
      | succ k ih =>
        have h2 : 1 ≤ (shOK ((i + k) % 4)).length := by unfold shOK; split <;> decide
        rw [oN_succ]
        by_cases h : k = 0
        · subst h
          exact h2
        · rw [osK_snoc _ _ (by intro e; have := oN_len i k; rw [e] at this; exact h this.symm), List.length_append, List.length_append, List.length_cons, List.length_cons, List.length_nil]
          omega
    have h3 := hos (n i)
    rw [pL_succ]
    by_cases h : i = 0
    · subst h
      show psN [(p 0, oN 0 (n 0))] + 1 ≤ (shPK (p 0) :: osK (oN 0 (n 0))).length + 1
      simp only [psN, psX, List.length_append, List.length_map, List.length_nil, List.length_cons]
      omega
    · rw [psK_snoc _ _ (by intro e; have := pL_len p n i; rw [e] at this; exact h this.symm)]
      simp only [psN, psX_app, psX, List.length_append, List.length_map, List.length_nil, List.length_cons] at *
      omega
/-- both tell the same. -/
theorem sh_both (p n : Nat → Nat) (i : Nat) (hi : 1 ≤ i) (hi8 : i ≤ 8) (hn : ∀ j, n j ≤ 3) (hn1 : ∀ j, 1 ≤ n j) (lab : ByteArray) :
    turtleL ⟨#[]⟩ lab (docS p n i) = ((pF p n i).map fun x => shX x.1 x.2, 0) ∧ turtleL ⟨#[]⟩ lab ((pF p n i).flatMap liL) = ((pF p n i).map fun x => shX x.1 x.2, 0) := by
  have hf := pF_len p n hn i
  constructor
  · have hl := pA_len p n hn i
    have ht : tokensL (docS p n i) = (ssK :: (psK (pL p n i) ++ [sg [46]]), 0) := by
      unfold tokensL
      rw [if_neg (by unfold docS ssL; simp only [List.length_append, List.length_cons, List.length_nil]; omega)]
      have := docS_tok p n i
      unfold tokF at this
      rw [this]
    unfold turtleL
    rw [ht]
    dsimp only
    rw [if_neg (by decide)]
    have hk := pK_len p n i
    have hx : psN (pL p n i) ≤ 24 := by unfold psN; rw [pX_eq, List.length_map]; omega
    obtain ⟨N, hN⟩ : ∃ N, N = (ssK :: (psK (pL p n i) ++ [sg [46]])).length := ⟨_, rfl⟩
    have hN2 : N = (psK (pL p n i)).length + 2 := by rw [hN]; simp
    have h := sh_doc1 lab (pL p n i) (6 * N + 12 - psN (pL p n i) - (pL p n i).length - 2) N (by intro e; have := pL_len p n i; rw [e] at this; simp at this; omega)
      (by
        intro x hx
        unfold pL at hx
        obtain ⟨j, -, rfl⟩ := List.mem_map.1 hx
        intro e
        change oN j (n j) = [] at e
        have h1 := oN_len j (n j)
        rw [e] at h1
        have := hn1 j
        simp at h1
        omega) (by omega)
    rw [show 6 * N + 12 - psN (pL p n i) - (pL p n i).length - 2 + psN (pL p n i) + (pL p n i).length + 2 = 6 * N + 12 by omega] at h
    rw [← hN]
    have e : (⟨ssK :: (psK (pL p n i) ++ [sg [46]]), ⟨#[]⟩, [], 0, 0, [], 0⟩ : St) = stE (ssK :: (psK (pL p n i) ++ [sg [46]])) [] := rfl
    rw [e, h, pX_eq]
    rfl
  · have hl := lis_len (pF p n i)
    have ht : tokensL ((pF p n i).flatMap liL) = ((pF p n i).flatMap liK, 0) := by
      unfold tokensL
      rw [if_neg (by omega)]
      have := tok_lis (pF p n i)
      unfold tokF at this
      rw [this]
    have hkl : ∀ l : List (Nat × Nat), l.length ≤ (l.flatMap liK).length := by
      intro l
      induction l with
      | nil => exact Nat.le_refl _
      | cons x l ih => rw [List.flatMap_cons, List.length_append, List.length_cons]; simp only [liK, List.length_cons]; omega
    have hk := hkl (pF p n i)
    unfold turtleL
    rw [ht]
    dsimp only
    rw [if_neg (by decide)]
    obtain ⟨N, hN⟩ : ∃ N, N = ((pF p n i).flatMap liK).length := ⟨_, rfl⟩
    rw [← hN] at hk ⊢
    have h := sh_doc2 lab (pF p n i) (6 * N + 8) (N + 1 - (pF p n i).length) [] (by simp; omega)
    rw [show N + 1 - (pF p n i).length + (pF p n i).length = N + 1 by omega] at h
    have e : (⟨(pF p n i).flatMap liK, ⟨#[]⟩, [], 0, 0, [], 0⟩ : St) = stE ((pF p n i).flatMap liK) [] := rfl
    rw [e, h]
    rfl
end Go.Proofs.YtefkppeicmipbaaGreatDoor
/- Triples as text: TurtleLabels' documents. -/
namespace Go.Proofs.YtefkppeicmipbaaGreatDoor
open Go.RowKit Go.Shelf
set_option maxRecDepth 1000000
set_option linter.unusedVariables false
def labU : Nat → List UInt8
  | 0 => [49]
  | 1 => [91, 93]
  | 2 => [91, 32, 60, 113, 58, 113, 62, 32, 91, 93, 32, 93]
  | 3 => [40, 49, 32, 50, 41]
  | _ => [34, 97, 34]
def labN : Nat → Nat
  | 0 => 1
  | 1 => 2
  | 2 => 3
  | 3 => 3
  | _ => 1
/-- The document, and how many blanks it has. -/
def labD (m : Nat) : Nat → List UInt8
  | 0 => []
  | n + 1 => ((labD m n ++ [91, 93, 32, 60, 112, 58, 112, 62, 32]) ++ labU ((n + m) % 5)) ++ [32, 46, 10]
def labC (m : Nat) : Nat → Nat
  | 0 => 0
  | n + 1 => labC m n + labN ((n + m) % 5)
def labG : Bool → ByteArray
  | true => ⟨#[122, 122, 95]⟩
  | false => ⟨#[103]⟩
/-- The subjects and objects, in their order. -/
def subs : List Tri3 → List Tm
  | [] => []
  | x :: r => x.1 :: x.2.2 :: subs r
def sameB (a b : ByteArray) : Bool := a.data.toList == b.data.toList
theorem sameB_iff {a b : ByteArray} : sameB a b = true ↔ a = b := by
  unfold sameB
  rw [beq_iff_eq]
  exact ⟨fun h => ba_ext h, fun h => by rw [h]⟩
/-- Is s among the first j? -/
def anyN (sn : List ByteArray) (s : ByteArray) : Nat → Bool
  | 0 => false
  | j + 1 => anyN sn s j || sameB (sn.getD j ⟨#[]⟩) s
def seenS (sn : List ByteArray) (t : Tm) : List ByteArray := if t.k = 2 then (if anyN sn t.s sn.length then sn else sn ++ [t.s]) else sn
def seenQ (T : List Tm) : Nat → List ByteArray
  | 0 => []
  | q + 1 => match T[q]? with
    | some t => seenS (seenQ T q) t
    | none => seenQ T q
def seenA : List Tm → List ByteArray → List ByteArray
  | [], sn => sn
  | t :: r, sn => seenA r (seenS sn t)
theorem seenQ_app (T U : List Tm) : ∀ q, q ≤ T.length → seenQ (T ++ U) q = seenQ T q
  | 0, _ => rfl
  | q + 1, h => by
    rw [seenQ, seenQ, List.getElem?_append_left (by omega), seenQ_app T U q (by omega)]
theorem seenA_eq : ∀ (U T : List Tm), seenA U (seenQ T T.length) = seenQ (T ++ U) (T ++ U).length
  | [], T => by rw [List.append_nil]; rfl
  | t :: r, T => by
    have ih := seenA_eq r (T ++ [t])
    rw [List.append_assoc] at ih
    rw [seenA, show T ++ t :: r = T ++ ([t] ++ r) from rfl, ← ih]
    congr 1
    rw [show (T ++ [t]).length = T.length + 1 by simp, seenQ, List.getElem?_append_right (Nat.le_refl _), Nat.sub_self, seenQ_app T [t] _ (Nat.le_refl _)]
    rfl
theorem seenQ_len (T : List Tm) : ∀ q, (seenQ T q).length ≤ q
  | 0 => Nat.le_refl _
  | q + 1 => by
    have ih := seenQ_len T q
    rw [seenQ]
    split
    · unfold seenS
      split
      · split
        · omega
        · rw [List.length_append]; simp; omega
      · omega
    · omega
def prefOk (g : ByteArray) (t : Tm) : Bool := t.k != 2 || (decide (g.data.toList.length < t.s.data.toList.length) && t.s.data.toList.take g.data.toList.length == g.data.toList)
def labOk (b : Bool) (m n : Nat) : Bool := match turtleL ⟨#[]⟩ (labG b) (labD m n) with
  | (l, e) => e == 0 && ((subs l).all (prefOk (labG b)) && ((seenA (subs l) []).length == labC m n && decide (l.length ≤ 1000)))
theorem lab_all : ∀ (b : Bool) (m : Fin 5) (n : Fin 9), labOk b m.val (n.val + 1) = true := by decide +kernel
theorem lab_facts (b : Bool) (m n : Nat) (hm : m < 5) (hn : n < 9) : ∃ l : List Tri3, turtleL ⟨#[]⟩ (labG b) (labD m (n + 1)) = (l, 0) ∧ (∀ t ∈ subs l, prefOk (labG b) t = true) ∧ (seenQ (subs l) (subs l).length).length = labC m (n + 1) ∧ l.length ≤ 1000 := by
  have h := lab_all b ⟨m, hm⟩ ⟨n, hn⟩
  unfold labOk at h
  dsimp only at h
  generalize turtleL ⟨#[]⟩ (labG b) (labD m (n + 1)) = R at h ⊢
  obtain ⟨l, e⟩ := R
  dsimp only at h
  simp only [Bool.and_eq_true, beq_iff_eq, decide_eq_true_eq, List.all_eq_true] at h
  obtain ⟨rfl, h1, h2, h3⟩ := h
  have k := seenA_eq (subs l) []
  rw [List.nil_append] at k
  exact ⟨l, rfl, h1, by rw [← k]; exact h2, h3⟩
theorem subs_len : ∀ l : List Tri3, (subs l).length = 2 * l.length
  | [] => rfl
  | x :: r => by rw [subs, List.length_cons, List.length_cons, subs_len r, List.length_cons]; omega
theorem subs_even : ∀ (l : List Tri3) (i : Nat) (h : i < l.length), (subs l)[2 * i]? = some l[i].1
  | x :: r, 0, _ => rfl
  | x :: r, i + 1, h => by
    have := subs_even r i (by simpa using h)
    rw [subs, show 2 * (i + 1) = 2 * i + 1 + 1 by omega, List.getElem?_cons_succ, List.getElem?_cons_succ, this]
    rfl
theorem subs_odd : ∀ (l : List Tri3) (i : Nat) (h : i < l.length), (subs l)[2 * i + 1]? = some l[i].2.2
  | x :: r, 0, _ => rfl
  | x :: r, i + 1, h => by
    have := subs_odd r i (by simpa using h)
    rw [subs, show 2 * (i + 1) + 1 = 2 * i + 1 + 1 + 1 by omega, List.getElem?_cons_succ, List.getElem?_cons_succ, this]
    rfl
theorem labU_len (k : Nat) : (labU k).length ≤ 12 := by
  unfold labU
  split <;> decide
theorem labD_len (m n : Nat) : (labD m n).length ≤ 24 * n := by
  induction n with
  | zero => exact Nat.le_refl _
  | succ n ih =>
    have := labU_len ((n + m) % 5)
    simp only [labD, List.length_append, List.length_cons, List.length_nil]
    omega
theorem labC_le (m n : Nat) : labC m n ≤ 3 * n := by
  induction n with
  | zero => exact Nat.le_refl _
  | succ n ih =>
    have : labN ((n + m) % 5) ≤ 3 := by unfold labN; split <;> decide
    rw [labC]
    omega
end Go.Proofs.YtefkppeicmipbaaGreatDoor
/- Rows of strings of the call's own; Same of a row with itself. -/
namespace Go.Proofs.YtefkppeicmipbaaGreatDoor
open Go.RowKit Go.Shelf
set_option maxRecDepth 100000
set_option linter.unusedVariables false
set_option linter.unusedSimpArgs false
def strs2 (l : List ByteArray) : List Value := l.map Value.string
def OwS (w : World) (base : Nat) (v : Value) (l : List ByteArray) : Prop := w.ownsRow base 9 1 v l.length (strs2 l)
theorem OwS.nil (w : World) (base : Nat) : OwS w base (.slice none 0 0) [] := World.ownsRow_nil _ _ _ _
theorem OwS.lt {w : World} {base : Nat} {v : Value} {l : List ByteArray} (h : OwS w base v l) : ∀ q, v.ownBlock = some q → base ≤ q ∧ q < w.heap.size := World.ownsRow.lt h
theorem OwS.form {w : World} {base : Nat} {v : Value} {l : List ByteArray} (h : OwS w base v l) : ∃ ao cap, v = .slice ao l.length cap ∧ l.length ≤ cap ∧ cap ≤ 9223372036854775807 := owns_form h
theorem OwS.moved {P : Nat → Prop} {w w' : World} {base : Nat} {v : Value} {l : List ByteArray} (h : OwS w base v l) (hm : Moved P w w') (hP : ∀ q, v.ownBlock = some q → ¬ P q) : OwS w' base v l := owns_moved h hm hP
theorem OwS.below {w w' : World} {base : Nat} {v : Value} {l : List ByteArray} (h : OwS w base v l) (hb : Below w.heap.size w w') : OwS w' base v l := h.moved (Moved.of_below hb (fun _ => False)) (fun _ _ h => h)
theorem OwS.at1 {w : World} {base : Nat} {ao : Option Addr} {n cap : Nat} {l : List ByteArray} (h : OwS w base (.slice ao n cap) l) (hl : 0 < l.length) :
    ∃ g, ao = some ⟨g, 0, none⟩ ∧ base ≤ g ∧ g < w.heap.size ∧ ∀ j, j < l.length → w.cell? ⟨g, j, none⟩ = some (.string (l.getD j ⟨#[]⟩)) := by
  rcases h.2 with ⟨h1, h2⟩ | ⟨g, cap', cur, h1, h2, h3, k⟩
  · omega
  · cases h1
    have hc := h.cells (g := g) rfl
    refine ⟨g, rfl, (h.lt g rfl).1, (h.lt g rfl).2, fun j hj => ?_⟩
    have d1 := hc j (.string (l.getD j ⟨#[]⟩)) (by
      unfold strs2
      rw [List.getElem?_map, List.getElem?_eq_getElem hj]
      simp [hj])
    rw [Addr.add_mid, Nat.zero_add] at d1
    exact d1
theorem Tryz.infoStrG : (Tryz.prog.info? 9).map (fun i => (i.zero, i.size, i.bytes)) = some (some (.string ⟨#[]⟩), 1, 16) := by kernel_rfl
theorem wpList_append_st {w : World} {ops : Array Oper} {rest : List Oper} {o : Oper} {a : Act} {Q : Exit → Act → World → Prop} (hgd : o.guard = none) (s x : Operand)
    (ho : o.op = .call { callee := .builtin .append, args := #[s, x], argTypes := #[24, 24] }) (base : Nat) (hbase : base ≤ w.heap.size)
    (v : Value) (l : List ByteArray) (hs : a.eval s = v) (hown : OwS w base v l) (g0 : Nat) (hx : a.eval x = .slice (some ⟨g0, 0, none⟩) 1 1) (e : ByteArray) (hg : Blk w g0 #[.string e] 9) (n : Nat) (hn : n = l.length + 1) (hl : n ≤ 1000000)
    (h : ∀ ao cap w', OwS w' base (.slice ao n cap) (l ++ [e]) → n ≤ cap → cap ≤ 9223372036854775807 → w.grownBy w' v.ownBlock → (∀ q, (Value.slice ao n cap).ownBlock = some q → v.ownBlock = some q ∨ w.heap.size ≤ q) → wpList Tryz.prog ops Q rest (a.put o.dst (.slice ao n cap)) w') :
    wpList Tryz.prog ops Q (o :: rest) a w := by
  obtain ⟨i0, hi, hz0, hz1, hz2⟩ := info_parts Tryz.infoStrG
  refine wpList_append_lies w hgd s x _ ho base 9 i0 _ 1 16 Tryz.underlying24 hi hz0 hz1 hz2 rfl (by decide) v l.length (strs2 l) hs hown ⟨g0, 0, none⟩ 1 1 [.string e] hx rfl ?_ ?_ (by decide) (by simp [maxLen]; omega) (by omega) hbase _ rfl ?_
  · intro j u hj
    rw [show (⟨g0, 0, none⟩ : Addr).add j = ⟨g0, j, none⟩ from by unfold Addr.add; split <;> simp_all, hg.cell]
    simpa using hj
  · intro u hu
    simp at hu
    rcases hu with rfl
    rfl
  · intro g cap w' k1 k2 k3 k4
    subst hn
    obtain ⟨aox, capx, ex, hx1, hx2⟩ := owns_form k1
    simp only [Value.slice.injEq] at ex
    obtain ⟨-, -, rfl⟩ := ex
    refine h _ _ w' ?_ hx1 hx2 k2 (fun q hq => ?_)
    · unfold OwS
      rw [List.length_append]
      simpa [strs2] using k1
    · have : g = q := Option.some.inj hq
      subst this
      rcases k3 with k3 | k3
      · exact .inl k3
      · exact .inr (by omega)
def eqB9 (x y : Tm) : Bool := x.k == y.k && (x.s.toList == y.s.toList && (x.l.toList == y.l.toList && x.t.toList == y.t.toList))
theorem eqB9_self (x : Tm) : eqB9 x x = true := by unfold eqB9; simp
theorem equal_trm (k k2 : Int) (s s2 l l2 t t2 : ByteArray) (w : World) : (Op.equalIn 9999 33 (.agg #[.int .i64 k, .string s, .string l, .string t]) (.agg #[.int .i64 k2, .string s2, .string l2, .string t2])).run Tryz.prog w = .ok (eqB9 ⟨k, s, l, t⟩ ⟨k2, s2, l2, t2⟩) w := by
  unfold eqB9
  dsimp only
  cases h1 : k == k2 <;> cases h2 : s.toList == s2.toList <;> cases h3 : l.toList == l2.toList <;> cases h4 : t.toList == t2.toList
  all_goals go_simp
theorem equal_tri (x y : Tri3) (w : World) : (Op.equalIn 10000 35 (tri x.1 x.2.1 x.2.2) (tri y.1 y.2.1 y.2.2)).run Tryz.prog w = .ok (eqB9 x.1 y.1 && (eqB9 x.2.1 y.2.1 && eqB9 x.2.2 y.2.2)) w := by
  obtain ⟨⟨x1k, x1s, x1l, x1t⟩, ⟨x2k, x2s, x2l, x2t⟩, ⟨x3k, x3s, x3l, x3t⟩⟩ := x
  obtain ⟨⟨y1k, y1s, y1l, y1t⟩, ⟨y2k, y2s, y2l, y2t⟩, ⟨y3k, y3s, y3l, y3t⟩⟩ := y
  obtain ⟨i, hi⟩ : ∃ i, Tryz.prog.info? 33 = some i := Option.isSome_iff_exists.1 (by kernel_rfl)
  have hc : Tryz.prog.cellsOf 33 = 4 := by kernel_rfl
  unfold tri
  dsimp only
  rw [run_equalIn_array w 9999 _ _ Tryz.underlying35 hi, hc, show List.range 3 = [0, 1, 2] from rfl]
  have h1 := equal_trm x1k y1k x1s y1s x1l y1l x1t y1t w
  have h2 := equal_trm x2k y2k x2s y2s x2l y2l x2t y2t w
  have h3 := equal_trm x3k y3k x3s y3s x3l y3l x3t y3t w
  generalize eqB9 _ _ = b1 at h1 ⊢
  generalize eqB9 _ _ = b2 at h2 ⊢
  generalize eqB9 _ _ = b3 at h3 ⊢
  have px0 : (part 33 #[.int .i64 x1k, .string x1s, .string x1l, .string x1t, .int .i64 x2k, .string x2s, .string x2l, .string x2t, .int .i64 x3k, .string x3s, .string x3l, .string x3t] 0).run Tryz.prog w = .ok (.agg #[.int .i64 x1k, .string x1s, .string x1l, .string x1t]) w := by go_simp
  have px1 : (part 33 #[.int .i64 x1k, .string x1s, .string x1l, .string x1t, .int .i64 x2k, .string x2s, .string x2l, .string x2t, .int .i64 x3k, .string x3s, .string x3l, .string x3t] 4).run Tryz.prog w = .ok (.agg #[.int .i64 x2k, .string x2s, .string x2l, .string x2t]) w := by go_simp
  have px2 : (part 33 #[.int .i64 x1k, .string x1s, .string x1l, .string x1t, .int .i64 x2k, .string x2s, .string x2l, .string x2t, .int .i64 x3k, .string x3s, .string x3l, .string x3t] 8).run Tryz.prog w = .ok (.agg #[.int .i64 x3k, .string x3s, .string x3l, .string x3t]) w := by go_simp
  have py0 : (part 33 #[.int .i64 y1k, .string y1s, .string y1l, .string y1t, .int .i64 y2k, .string y2s, .string y2l, .string y2t, .int .i64 y3k, .string y3s, .string y3l, .string y3t] 0).run Tryz.prog w = .ok (.agg #[.int .i64 y1k, .string y1s, .string y1l, .string y1t]) w := by go_simp
  have py1 : (part 33 #[.int .i64 y1k, .string y1s, .string y1l, .string y1t, .int .i64 y2k, .string y2s, .string y2l, .string y2t, .int .i64 y3k, .string y3s, .string y3l, .string y3t] 4).run Tryz.prog w = .ok (.agg #[.int .i64 y2k, .string y2s, .string y2l, .string y2t]) w := by go_simp
  have py2 : (part 33 #[.int .i64 y1k, .string y1s, .string y1l, .string y1t, .int .i64 y2k, .string y2s, .string y2l, .string y2t, .int .i64 y3k, .string y3s, .string y3l, .string y3t] 8).run Tryz.prog w = .ok (.agg #[.int .i64 y3k, .string y3s, .string y3l, .string y3t]) w := by go_simp
  simp only [Op.eqItems, Nat.zero_mul, Nat.one_mul, Nat.reduceMul, Sem.run_bind, px0, py0, Result.andThen_ok, h1]
  cases b1 <;> cases b2 <;> cases b3 <;> simp [h2, h3, Sem.run_bind, px1, px2, py1, py2, Result.andThen_ok]
theorem eq3_self (x : Tri3) : (eqB9 x.1 x.1 && (eqB9 x.2.1 x.2.1 && eqB9 x.2.2 x.2.2)) = true := by simp [eqB9_self]
set_option maxHeartbeats 8000000 in
theorem same12_any {w : World} {g cap : Nat} {l : List Tri3} (h : ∀ j t, l[j]? = some t → ∀ i v, (rcells1 t)[i]? = some v → w.cell? ⟨g, 12 * j + i, none⟩ = some v) (hl : l.length ≤ 1000000) :
    Calls Tryz.prog 8 #[.slice (some ⟨g, 0, none⟩) l.length cap, .slice (some ⟨g, 0, none⟩) l.length cap] w fun e w' => e = .returned (.bool true) ∧ Below w.heap.size w w' := by
  obtain ⟨n, hn⟩ : ∃ n, n = l.length := ⟨_, rfl⟩
  rw [← hn] at hl ⊢
  have HN := Lib.hid hn
  have HE1 := Lib.hid h
  have hni : (n : Int) ≤ 1000000 := by omega
  clear hn h
  go_enter Tryz.func8, Tryz.ntmps8
  go_wp2_with fail
  go_loopg [5] n (fun g s5 wx => ∃ i : Nat, i + g = n ∧ s5 = .int .i64 i ∧ ∃ m, wx = w.drewN m)
  case atStart => exact ⟨0, by omega, rfl, 0, rfl⟩
  case round =>
    obtain ⟨i, hig, rfl, m, rfl⟩ := hrel
    cases gk with
    | zero =>
      obtain rfl : i = n := by omega
      have hn : ¬ ((i : Int) < i) := by omega
      go_wp2_with fail
      go_ret
      exact ⟨rfl, ⟨rfl, rfl, rfl, Nat.le_refl _, fun _ _ => rfl⟩⟩
    | succ gg =>
      have hi : i < n := by omega
      have hil : i < l.length := by rw [← HN.out]; exact hi
      have hii : (i : Int) < n := by omega
      obtain ⟨x, hx⟩ : ∃ x, x = l[i] := ⟨_, rfl⟩
      have hA := HE1.out i x (by rw [hx]; exact List.getElem?_eq_getElem hil)
      rw [Nat.mul_comm 12 i] at hA
      have heq := fun w => equal_tri x x w
      rw [eq3_self] at heq
      obtain ⟨⟨x1k, x1s, x1l, x1t⟩, ⟨x2k, x2s, x2l, x2t⟩, ⟨x3k, x3s, x3l, x3t⟩⟩ := x
      have c0 : w.cell? ⟨g, i * 12, none⟩ = some (.int .i64 x1k) := hA 0 _ rfl
      have c1 := hA 1 _ rfl
      have c2 := hA 2 _ rfl
      have c3 := hA 3 _ rfl
      have c4 := hA 4 _ rfl
      have c5 := hA 5 _ rfl
      have c6 := hA 6 _ rfl
      have c7 := hA 7 _ rfl
      have c8 := hA 8 _ rfl
      have c9 := hA 9 _ rfl
      have c10 := hA 10 _ rfl
      have c11 := hA 11 _ rfl
      unfold tri at heq
      dsimp only at c1 c2 c3 c4 c5 c6 c7 c8 c9 c10 c11 heq
      clear hx hA
      go_wp2_with fail
      go_quiet (fail)
      go_wp2_with fail
      go_roundg gg
      case measure => omega
      case rel => exact ⟨i + 1, by omega, by go_num, _, by first | rfl | (simp; rfl)⟩
end Go.Proofs.YtefkppeicmipbaaGreatDoor
/- The walk of TurtleLabels. -/
namespace Go.Proofs.YtefkppeicmipbaaGreatDoor
open Go.RowKit Go.Shelf
set_option maxRecDepth 100000
set_option linter.unusedVariables false
set_option linter.unusedSimpArgs false
theorem ba_apl2 (a b : List UInt8) : (⟨a.toArray⟩ : ByteArray) ++ ⟨b.toArray⟩ = ⟨(a ++ b).toArray⟩ := by
  apply ba_ext
  rw [ByteArray.data_append]
  simp
theorem ba_len3 (l : List UInt8) : (⟨l.toArray⟩ : ByteArray).size = l.length := by show l.toArray.size = _; simp
theorem lab_grow (m k : Nat) : (((⟨(labD m k).toArray⟩ : ByteArray) ++ ⟨#[91, 93, 32, 60, 112, 58, 112, 62, 32]⟩) ++ ⟨(labU ((k + m) % 5)).toArray⟩) ++ ⟨#[32, 46, 10]⟩ = ⟨(labD m (k + 1)).toArray⟩ := by
  rw [show (⟨#[91, 93, 32, 60, 112, 58, 112, 62, 32]⟩ : ByteArray) = ⟨([91, 93, 32, 60, 112, 58, 112, 62, 32] : List UInt8).toArray⟩ from rfl, show (⟨#[32, 46, 10]⟩ : ByteArray) = ⟨([32, 46, 10] : List UInt8).toArray⟩ from rfl, ba_apl2, ba_apl2, ba_apl2]; rfl
def labV : Array Value := #[.string ⟨#[49]⟩, .string ⟨#[91, 93]⟩, .string ⟨#[91, 32, 60, 113, 58, 113, 62, 32, 91, 93, 32, 93]⟩, .string ⟨#[40, 49, 32, 50, 41]⟩, .string ⟨#[34, 97, 34]⟩]
def labW : Array Value := #[.int .i64 1, .int .i64 2, .int .i64 3, .int .i64 3, .int .i64 1]
theorem labV_at (k : Nat) (h : k < 5) : labV.toList[k]'h = .string ⟨(labU k).toArray⟩ := by
  match k, h with
  | 0, _ => rfl
  | 1, _ => rfl
  | 2, _ => rfl
  | 3, _ => rfl
  | 4, _ => rfl
theorem labW_at (k : Nat) (h : k < 5) : labW.toList[k]'h = .int .i64 ((labN k : Nat) : Int) := by
  match k, h with
  | 0, _ => rfl
  | 1, _ => rfl
  | 2, _ => rfl
  | 3, _ => rfl
  | 4, _ => rfl
end Go.Proofs.YtefkppeicmipbaaGreatDoor
/- The walk of TurtleShort. -/
namespace Go.Proofs.YtefkppeicmipbaaGreatDoor
open Go.RowKit Go.Shelf
set_option maxRecDepth 100000
set_option linter.unusedVariables false
set_option linter.unusedSimpArgs false
set_option maxHeartbeats 8000000 in
theorem same2_any {w : World} {g cap g2 cap2 : Nat} {l : List Tri3} (h : ∀ j t, l[j]? = some t → ∀ i v, (rcells1 t)[i]? = some v → w.cell? ⟨g, 12 * j + i, none⟩ = some v) (h2 : ∀ j t, l[j]? = some t → ∀ i v, (rcells1 t)[i]? = some v → w.cell? ⟨g2, 12 * j + i, none⟩ = some v) (hl : l.length ≤ 1000000) :
    Calls Tryz.prog 8 #[.slice (some ⟨g, 0, none⟩) l.length cap, .slice (some ⟨g2, 0, none⟩) l.length cap2] w fun e w' => e = .returned (.bool true) ∧ Below w.heap.size w w' := by
  obtain ⟨n, hn⟩ : ∃ n, n = l.length := ⟨_, rfl⟩
  rw [← hn] at hl ⊢
  have HN := Lib.hid hn
  have HE1 := Lib.hid h
  have HE2 := Lib.hid h2
  have hni : (n : Int) ≤ 1000000 := by omega
  clear hn h h2
  go_enter Tryz.func8, Tryz.ntmps8
  go_wp2_with fail
  go_loopg [5] n (fun g s5 wx => ∃ i : Nat, i + g = n ∧ s5 = .int .i64 i ∧ ∃ m, wx = w.drewN m)
  case atStart => exact ⟨0, by omega, rfl, 0, rfl⟩
  case round =>
    obtain ⟨i, hig, rfl, m, rfl⟩ := hrel
    cases gk with
    | zero =>
      obtain rfl : i = n := by omega
      have hn : ¬ ((i : Int) < i) := by omega
      go_wp2_with fail
      go_ret
      exact ⟨rfl, ⟨rfl, rfl, rfl, Nat.le_refl _, fun _ _ => rfl⟩⟩
    | succ gg =>
      have hi : i < n := by omega
      have hil : i < l.length := by rw [← HN.out]; exact hi
      have hii : (i : Int) < n := by omega
      obtain ⟨x, hx⟩ : ∃ x, x = l[i] := ⟨_, rfl⟩
      have hA := HE1.out i x (by rw [hx]; exact List.getElem?_eq_getElem hil)
      rw [Nat.mul_comm 12 i] at hA
      have hB := HE2.out i x (by rw [hx]; exact List.getElem?_eq_getElem hil)
      rw [Nat.mul_comm 12 i] at hB
      have heq := fun w => equal_tri x x w
      rw [eq3_self] at heq
      obtain ⟨⟨x1k, x1s, x1l, x1t⟩, ⟨x2k, x2s, x2l, x2t⟩, ⟨x3k, x3s, x3l, x3t⟩⟩ := x
      have c0 : w.cell? ⟨g, i * 12, none⟩ = some (.int .i64 x1k) := hA 0 _ rfl
      have c1 := hA 1 _ rfl
      have c2 := hA 2 _ rfl
      have c3 := hA 3 _ rfl
      have c4 := hA 4 _ rfl
      have c5 := hA 5 _ rfl
      have c6 := hA 6 _ rfl
      have c7 := hA 7 _ rfl
      have c8 := hA 8 _ rfl
      have c9 := hA 9 _ rfl
      have c10 := hA 10 _ rfl
      have c11 := hA 11 _ rfl
      have d0 : w.cell? ⟨g2, i * 12, none⟩ = some (.int .i64 x1k) := hB 0 _ rfl
      have d1 := hB 1 _ rfl
      have d2 := hB 2 _ rfl
      have d3 := hB 3 _ rfl
      have d4 := hB 4 _ rfl
      have d5 := hB 5 _ rfl
      have d6 := hB 6 _ rfl
      have d7 := hB 7 _ rfl
      have d8 := hB 8 _ rfl
      have d9 := hB 9 _ rfl
      have d10 := hB 10 _ rfl
      have d11 := hB 11 _ rfl
      unfold tri at heq
      dsimp only at c1 c2 c3 c4 c5 c6 c7 c8 c9 c10 c11 d1 d2 d3 d4 d5 d6 d7 d8 d9 d10 d11 heq
      clear hx hA hB
      go_wp2_with fail
      go_quiet (fail)
      go_wp2_with fail
      go_roundg gg
      case measure => omega
      case rel => exact ⟨i + 1, by omega, by go_num, _, by first | rfl | (simp; rfl)⟩
def shPV : Array Value := #[.string ⟨#[60, 112, 58, 97, 62]⟩, .string ⟨#[60, 112, 58, 98, 62]⟩, .string ⟨#[97]⟩]
def shOV : Array Value := #[.string ⟨#[49]⟩, .string ⟨#[60, 111, 58, 111, 62]⟩, .string ⟨#[34, 116, 34, 64, 101, 110]⟩, .string ⟨#[95, 58, 98]⟩]
theorem shPV_at (k : Nat) (h : k < 3) : shPV.toList[k]'h = .string ⟨(shP k).toArray⟩ := by
  match k, h with
  | 0, _ => rfl
  | 1, _ => rfl
  | 2, _ => rfl
theorem shOV_at (k : Nat) (h : k < 4) : shOV.toList[k]'h = .string ⟨(shO k).toArray⟩ := by
  match k, h with
  | 0, _ => rfl
  | 1, _ => rfl
  | 2, _ => rfl
  | 3, _ => rfl
theorem shP_size (k : Nat) : (shP k).length ≤ 5 := by unfold shP; split <;> decide
theorem shO_size (k : Nat) : (shO k).length ≤ 6 := by unfold shO; split <;> decide

theorem ap2 (a b : List UInt8) : (⟨a.toArray⟩ : ByteArray) ++ ⟨b.toArray⟩ = ⟨(a ++ b).toArray⟩ := ba_apl2 a b
theorem sh_growA (T Z : List UInt8) : ((⟨T.toArray⟩ : ByteArray) ++ ⟨#[32]⟩) ++ ⟨Z.toArray⟩ = ⟨(T ++ 32 :: Z).toArray⟩ := by
  rw [show (⟨#[32]⟩ : ByteArray) = ⟨([32] : List UInt8).toArray⟩ from rfl, ap2, ap2]; simp
theorem sh_growB (T : List UInt8) (p o : Nat) : (((((⟨T.toArray⟩ : ByteArray) ++ ⟨#[60, 115, 58, 115, 62, 32]⟩) ++ ⟨(shP p).toArray⟩) ++ ⟨#[32]⟩) ++ ⟨(shO o).toArray⟩) ++ ⟨#[32, 46, 10]⟩ = ⟨(T ++ liL (p, o)).toArray⟩ := by
  rw [show (⟨#[60, 115, 58, 115, 62, 32]⟩ : ByteArray) = ⟨([60, 115, 58, 115, 62, 32] : List UInt8).toArray⟩ from rfl, show (⟨#[32]⟩ : ByteArray) = ⟨([32] : List UInt8).toArray⟩ from rfl, show (⟨#[32, 46, 10]⟩ : ByteArray) = ⟨([32, 46, 10] : List UInt8).toArray⟩ from rfl, ap2, ap2, ap2, ap2, ap2]
  simp [liL, ssL]
set_option maxHeartbeats 16000000 in
theorem tshort_walk (ps os : Value) (l1 l2 : List Int) (w : World) (h1 : Nl w ps l1) (h2 : Nl w os l2) (hL : LexAt w) :
    Calls Tryz.prog 3 #[ps, os] w fun e w' => e = .returned (.bool true) ∧ Below w.heap.size w w' := by
  have HK := Lib.hid (known12_any w hL)
  have HLA := Lib.hid (fun w' (hb : Below w.heap.size w w') => hL.below hb)
  have HP := Lib.hid (fun a (ha : a.size ≤ 2000) w (h : LexAt w) => parse12 a ⟨#[]⟩ gB (Nat.le_trans ha (by decide)) (by decide) (by decide) w h)
  have HNL := Lib.hid h1
  have HNM := Lib.hid h2
  obtain ⟨ao0, cap0, rfl, hc0, hc1, -, -⟩ := h1
  obtain ⟨ao1, cap1, rfl, hd0, hd1, -, -⟩ := h2
  obtain ⟨pf, hpf⟩ : ∃ pf : Nat → Nat, pf = fun j => ((l1.getD j 0) % 3).toNat := ⟨_, rfl⟩
  obtain ⟨nf, hnf⟩ : ∃ nf : Nat → Nat, nf = fun j => if j < l2.length then ((l2.getD j 0) % 3).toNat + 1 else 1 := ⟨_, rfl⟩
  have HN3 := Lib.hid (show (∀ j, nf j ≤ 3) ∧ ∀ j, 1 ≤ nf j by
    rw [hnf]
    constructor <;> intro j <;> dsimp only <;> split <;> omega)
  have HPF := Lib.hid hpf
  have HNF := Lib.hid hnf
  obtain ⟨N, hN⟩ : ∃ N, N = l1.length := ⟨_, rfl⟩
  obtain ⟨N2, hN2⟩ : ∃ N, N = l2.length := ⟨_, rfl⟩
  rw [← hN] at hc0 ⊢
  rw [← hN2] at hd0 ⊢
  have HNN := Lib.hid (And.intro hN hN2)
  have hNi : (N : Int) ≤ 9223372036854775807 := by have : cap0 ≤ 9223372036854775807 := hc1; omega
  have hNj : (N2 : Int) ≤ 9223372036854775807 := by have : cap1 ≤ 9223372036854775807 := hd1; omega
  clear hL hN hN2 hc0 hc1 hd0 hd1 hpf hnf
  go_enter Tryz.func3, Tryz.ntmps3
  go_wp2_with fail
  refine HK.out.mono ?_
  rintro e w1 ⟨rfl, hb1⟩
  have HB1 := Lib.hid hb1
  clear hb1
  go_wp2_with fail
  go_loopw [5, 6, 7] (fun s5 s6 s7 wx => ∃ i : Nat, i ≤ N ∧ i ≤ 8 ∧ s7 = .int .i64 (i : Int) ∧ s5 = .string ⟨(ssL ++ pA pf nf i).toArray⟩ ∧ s6 = .string ⟨((pF pf nf i).flatMap liL).toArray⟩ ∧ Below w.heap.size w wx) (fun _ _ s _ => 40 - (intOf s).toNat)
  case atStart => exact ⟨0, by omega, by omega, rfl, rfl, rfl, HB1.out⟩
  case round =>
    obtain ⟨i, hi, hi8, rfl, rfl, rfl, hbw⟩ := hrel
    have HBA := Lib.hid hbw
    have hii : (i : Int) ≤ N := by omega
    have hi0 : (0 : Int) ≤ i := by omega
    have hi8i : (i : Int) ≤ 8 := by omega
    have HI := Lib.hid (And.intro hi hi8)
    clear hbw
    by_cases hin : (i : Int) < N ∧ (i : Int) < 8
    · obtain ⟨hin, hil⟩ := hin
      have hil2 : i < l1.length := by have := HNN.out.1; omega
      obtain ⟨bb, off, cap', he, -, -, hcell⟩ := HNL.out.at (by omega)
      have hcl := hcell i hil2
      obtain ⟨x, hx⟩ : ∃ x, x = l1[i] := ⟨_, rfl⟩
      rw [← hx] at hcl
      simp only [Value.slice.injEq] at he
      obtain ⟨rfl, -, rfl⟩ := he
      have hbb := World.block_lt_of_cell? w _ hcl
      have cl := (HBA.out.cell (p := ⟨bb, off + i, none⟩) hbb).trans hcl
      have hbr : bb < wr.heap.size := Nat.lt_of_lt_of_le hbb HBA.out.size
      have hbn : ¬ bb = wr.heap.size := by omega
      obtain ⟨p, hp⟩ : ∃ p, p = pf i := ⟨_, rfl⟩
      have hpx : x % 3 = (p : Int) := by
        rw [hp, HPF.out]
        have e : l1.getD i 0 = x := by rw [hx]; simp [hil2]
        show _ = ((((l1.getD i 0) % 3).toNat : Nat) : Int)
        rw [e]; omega
      have hp3 : p < 3 := by omega
      have hp3i : (p : Int) < 3 := by omega
      have hp0i : (0 : Int) ≤ p := by omega
      have HXP := Lib.hid (fun w => (show Calls Tryz.prog 6 #[.int .i64 x, .int .i64 3] w fun e w' => e = .returned (.int .i64 (p : Int)) ∧ w' = w from by rw [← hpx]; exact within12_eq x 3 (by omega) (by omega) w))
      have hba := shPV_at p hp3
      obtain ⟨P, hP⟩ : ∃ P : ByteArray, P = ⟨(shP p).toArray⟩ := ⟨_, rfl⟩
      have hPz : P.size ≤ 5 := by rw [hP, ba_len3]; exact shP_size p
      rw [← hP] at hba
      unfold shPV at hba
      obtain ⟨A, hA⟩ : ∃ A : ByteArray, A = ⟨(ssL ++ pA pf nf i).toArray⟩ := ⟨_, rfl⟩
      obtain ⟨B, hB⟩ : ∃ B : ByteArray, B = ⟨((pF pf nf i).flatMap liL).toArray⟩ := ⟨_, rfl⟩
      have hAz : A.size ≤ 325 := by
        have := pA_len pf nf HN3.out.1 i
        rw [hA, ba_len3]; unfold ssL; simp only [List.length_append, List.length_cons, List.length_nil]; omega
      rw [← hA, ← hB]
      obtain ⟨pre, hpre⟩ : ∃ pre : List UInt8, pre = if i = 0 then [] else [32, 59] := ⟨_, rfl⟩
      obtain ⟨A1, hA1⟩ : ∃ A : ByteArray, A = ⟨(ssL ++ pA pf nf i ++ pre).toArray⟩ := ⟨_, rfl⟩
      have hA1z : A1.size ≤ 330 := by
        have h1 : A1.size = A.size + pre.length := by rw [hA1, hA, ba_len3, ba_len3, List.length_append]
        have h2 : pre.length ≤ 2 := by rw [hpre]; split <;> simp
        omega
      have hA2 := sh_growA (ssL ++ pA pf nf i ++ pre) (shP p)
      rw [← hA1, ← hP] at hA2
      obtain ⟨A2, hA2d⟩ : ∃ A : ByteArray, A = ⟨(ssL ++ pA pf nf i ++ pre ++ 32 :: shP p).toArray⟩ := ⟨_, rfl⟩
      rw [← hA2d] at hA2
      have HA0 := Lib.hid (And.intro hA (And.intro hpre hA1))
      have HBD := Lib.hid (And.intro hB (And.intro hA2d hP))
      have HPI := Lib.hid hp
      have HXX := Lib.hid hx
      clear hA hB hpre hA1 hA2d hP hp hx hcl hcell hpx
      go_wp2_with fail
      refine (HXP.out _).mono ?_
      rintro e w2 ⟨rfl, hw⟩
      subst hw
      have HBA2 := Lib.hid (HBA.out.alloc HBA.out.size (.cells #[.string ⟨#[60, 112, 58, 97, 62]⟩, .string ⟨#[60, 112, 58, 98, 62]⟩, .string ⟨#[97]⟩] 9))
      go_upto_region 8 with (first | rw [hba] | fail)
      generalize World.alloc wr _ = wA at HBA2 ⊢
      clear cl hba hbr hbn
      obtain ⟨c0, hc0⟩ : ∃ c : Bool, decide (0 < i) = c := ⟨_, rfl⟩
      have hc0i : decide ((0 : Int) < (i : Int)) = c0 := by rw [← hc0]; congr 1; exact propext (by omega)
      have HC0 := Lib.hid hc0
      go_upto_if 37 with fail
      clear hc0 hc0i
      go_cut [5] from 38 to 39 (fun s5 wx => s5 = .string A1 ∧ wx = wA)
      case first =>
        cases c0 with
        | false =>
          have h0 : i = 0 := by have := of_decide_eq_false HC0.out; omega
          have HE := Lib.hid (show A = A1 by rw [HA0.out.2.2, HA0.out.1, HA0.out.2.1, if_pos h0, List.append_nil])
          clear h0
          go_wp2_with fail
          go_meet
          exact ⟨by rw [HE.out], rfl⟩
        | true =>
          have h0 : ¬ i = 0 := by have := of_decide_eq_true HC0.out; omega
          have HE := Lib.hid (show A ++ ⟨#[32, 59]⟩ = A1 by
            rw [HA0.out.2.2, HA0.out.1, HA0.out.2.1, if_neg h0, show (⟨#[32, 59]⟩ : ByteArray) = ⟨([32, 59] : List UInt8).toArray⟩ from rfl, ap2])
          clear h0
          go_wp2_with fail
          go_meet
          exact ⟨by rw [← HE.out], rfl⟩
      case rest =>
        obtain ⟨rfl, rfl⟩ := hcut
        obtain ⟨n, hn⟩ : ∃ n, n = nf i := ⟨_, rfl⟩
        have hn3 : n ≤ 3 := by rw [hn]; exact HN3.out.1 i
        have HNI := Lib.hid hn
        clear hn
        obtain ⟨c1, hc1⟩ : ∃ c : Bool, decide (i < N2) = c := ⟨_, rfl⟩
        have hc1i : decide ((i : Int) < (N2 : Int)) = c1 := by rw [← hc1]; congr 1; exact propext (by omega)
        have HC1 := Lib.hid hc1
        go_upto_if 47 with fail
        clear hc1 hc1i
        go_cut [9] from 48 to 53 (fun s9 wx => s9 = .int .i64 (n : Int) ∧ wx = wc)
        case first =>
          cases c1 with
          | true =>
            have hj : i < N2 := of_decide_eq_true HC1.out
            have hji : (i : Int) < (N2 : Int) := by omega
            have hil3 : i < l2.length := by have := HNN.out.2; omega
            obtain ⟨b2, off2, cap2', he, -, -, hcell⟩ := HNM.out.at (by omega)
            have hcl := hcell i hil3
            obtain ⟨y, hy⟩ : ∃ y, y = l2[i] := ⟨_, rfl⟩
            rw [← hy] at hcl
            simp only [Value.slice.injEq] at he
            obtain ⟨rfl, -, rfl⟩ := he
            have hbb2 := World.block_lt_of_cell? w _ hcl
            have cl2 := (HBA2.out.cell (p := ⟨b2, off2 + i, none⟩) hbb2).trans hcl
            obtain ⟨m, hm⟩ : ∃ m : Nat, (m : Int) = y % 3 := ⟨(y % 3).toNat, by omega⟩
            have HXN := Lib.hid (fun w => (show Calls Tryz.prog 6 #[.int .i64 y, .int .i64 3] w fun e w' => e = .returned (.int .i64 (m : Int)) ∧ w' = w from by rw [hm]; exact within12_eq y 3 (by omega) (by omega) w))
            have hnm : 1 + (m : Int) = (n : Int) := by
              have h1 := HNI.out
              rw [HNF.out] at h1
              have e : l2.getD i 0 = y := by rw [hy]; simp [hil3]
              have h2 : n = ((l2.getD i 0) % 3).toNat + 1 := h1.trans (if_pos hil3)
              rw [e] at h2
              omega
            clear hcl hcell hy hm hbb2 hj
            go_wp2_with fail
            refine (HXN.out _).mono ?_
            rintro e w3 ⟨rfl, hw⟩
            subst hw
            go_wp2_with fail
            go_meet
            exact ⟨rfl, rfl⟩
          | false =>
            have hj : ¬ i < N2 := of_decide_eq_false HC1.out
            have HE := Lib.hid (show n = 1 by
              have h1 := HNI.out
              rw [HNF.out] at h1
              exact h1.trans (if_neg (by have := HNN.out.2; omega)))
            clear hj
            go_wp2_with fail
            go_meet
            exact ⟨by rw [HE.out]; rfl, rfl⟩
        case rest =>
          obtain ⟨rfl, rfl⟩ := hcut
          rename World => wo
          go_wp2_with fail
          go_loopw [5, 6, 10] (fun s5 s6 s10 wx => ∃ k : Nat, k ≤ n ∧ s10 = .int .i64 (k : Int) ∧ s5 = .string ⟨(ssL ++ pA pf nf i ++ pre ++ 32 :: shP p ++ oA i k).toArray⟩ ∧ s6 = .string ⟨((pF pf nf i ++ (oN i k).map fun o => (p, o)).flatMap liL).toArray⟩ ∧ Below w.heap.size w wx) (fun _ _ s _ => 40 - (intOf s).toNat)
          case atStart => exact ⟨0, by omega, rfl, by rw [HBD.out.2.1]; simp [oA], by rw [HBD.out.1]; simp [oN], HBA2.out⟩
          case round =>
            obtain ⟨k, hk, rfl, rfl, rfl, hbw⟩ := hrel
            have HBI := Lib.hid hbw
            have hk0 : (0 : Int) ≤ k := by omega
            have hk3 : (k : Int) ≤ 3 := by omega
            clear hbw
            by_cases hkn : k < n
            · have hkni : (k : Int) < (n : Int) := by omega
              obtain ⟨ik, hik⟩ : ∃ x, x = i + k := ⟨_, rfl⟩
              have hiki : (i : Int) + (k : Int) = (ik : Int) := by omega
              have hikb : (ik : Int) ≤ 11 := by omega
              obtain ⟨o, ho⟩ : ∃ o, o = ik % 4 := ⟨_, rfl⟩
              have ho4 : o < 4 := by omega
              have ho4i : (o : Int) < 4 := by omega
              have ho0i : (0 : Int) ≤ o := by omega
              have HXO := Lib.hid (fun w => (show Calls Tryz.prog 6 #[.int .i64 (ik : Int), .int .i64 4] w fun e w' => e = .returned (.int .i64 (o : Int)) ∧ w' = w from by rw [show (o : Int) = (ik : Int) % 4 by omega]; exact within12_eq ik 4 (by omega) (by omega) w))
              have hbo := shOV_at o ho4
              obtain ⟨Z, hZ⟩ : ∃ P : ByteArray, P = ⟨(shO o).toArray⟩ := ⟨_, rfl⟩
              have hZz : Z.size ≤ 6 := by rw [hZ, ba_len3]; exact shO_size o
              rw [← hZ] at hbo
              unfold shOV at hbo
              obtain ⟨T, hT⟩ : ∃ T : List UInt8, T = ssL ++ pA pf nf i ++ pre ++ 32 :: shP p ++ oA i k := ⟨_, rfl⟩
              obtain ⟨U, hU⟩ : ∃ U : List UInt8, U = (pF pf nf i ++ (oN i k).map fun o => (p, o)).flatMap liL := ⟨_, rfl⟩
              have hTl : T.length ≤ 400 := by
                have h1 := pA_len pf nf HN3.out.1 i
                have h2 := oA_len i k
                have h3 := shP_size p
                have h4 : pre.length ≤ 2 := by rw [HA0.out.2.1]; split <;> simp
                rw [hT]; unfold ssL; simp only [List.length_append, List.length_cons, List.length_nil]; omega
              have hUl : U.length ≤ 700 := by
                have h1 := lis_len (pF pf nf i ++ (oN i k).map fun o => (p, o))
                have h2 := pF_len pf nf HN3.out.1 i
                rw [hU]
                rw [List.length_append, List.length_map, oN_len] at h1
                omega
              rw [← hT, ← hU]
              obtain ⟨A3, hA3⟩ : ∃ A : ByteArray, A = ⟨T.toArray⟩ := ⟨_, rfl⟩
              obtain ⟨B3, hB3⟩ : ∃ B : ByteArray, B = ⟨U.toArray⟩ := ⟨_, rfl⟩
              have hA3z : A3.size ≤ 400 := by rw [hA3, ba_len3]; exact hTl
              have hB3z : B3.size ≤ 700 := by rw [hB3, ba_len3]; exact hUl
              rw [← hA3, ← hB3]
              obtain ⟨pr2, hpr2⟩ : ∃ pre : List UInt8, pre = if k = 0 then [] else [32, 44] := ⟨_, rfl⟩
              obtain ⟨A4, hA4⟩ : ∃ A : ByteArray, A = ⟨(T ++ pr2).toArray⟩ := ⟨_, rfl⟩
              have hA4z : A4.size ≤ 410 := by
                have h1 : A4.size = T.length + pr2.length := by rw [hA4, ba_len3, List.length_append]
                have h2 : pr2.length ≤ 2 := by rw [hpr2]; split <;> simp
                omega
              have hA5 := sh_growA (T ++ pr2) (shO o)
              rw [← hA4, ← hZ] at hA5
              have hB5 := sh_growB U p o
              rw [← HBD.out.2.2, ← hZ, ← hB3] at hB5
              have HG5 := Lib.hid (show T ++ pr2 ++ 32 :: shO o = ssL ++ pA pf nf i ++ pre ++ 32 :: shP p ++ oA i (k + 1) by
                rw [oA_succ, hT, hpr2, ho, hik]; simp)
              have HG6 := Lib.hid (show U ++ liL (p, o) = (pF pf nf i ++ (oN i (k + 1)).map fun o => (p, o)).flatMap liL by
                rw [oN_succ, hU, ho, hik]; simp)
              rw [HG5.out] at hA5
              rw [HG6.out] at hB5
              obtain ⟨A6, hA6⟩ : ∃ A : ByteArray, A = ⟨(ssL ++ pA pf nf i ++ pre ++ 32 :: shP p ++ oA i (k + 1)).toArray⟩ := ⟨_, rfl⟩
              obtain ⟨B6, hB6⟩ : ∃ A : ByteArray, A = ⟨((pF pf nf i ++ (oN i (k + 1)).map fun o => (p, o)).flatMap liL).toArray⟩ := ⟨_, rfl⟩
              rw [← hA6] at hA5
              rw [← hB6] at hB5
              have HAB := Lib.hid (And.intro hA6 hB6)
              have HTT := Lib.hid (And.intro hA3 (And.intro hA4 hpr2))
              have HBI2 := Lib.hid (HBI.out.alloc HBI.out.size (.cells #[.string ⟨#[49]⟩, .string ⟨#[60, 111, 58, 111, 62]⟩, .string ⟨#[34, 116, 34, 64, 101, 110]⟩, .string ⟨#[95, 58, 98]⟩] 9))
              clear hT hU hTl hUl hA3 hB3 hpr2 hA4 hA6 hB6 hZ ho hik
              go_wp2_with fail
              refine (HXO.out _).mono ?_
              rintro e w3 ⟨rfl, hw⟩
              subst hw
              go_upto_region 18 with (first | rw [hbo] | fail)
              generalize World.alloc wr _ = wA at HBI2 ⊢
              clear hbo
              obtain ⟨c2, hc2⟩ : ∃ c : Bool, decide (0 < k) = c := ⟨_, rfl⟩
              have hc2i : decide ((0 : Int) < (k : Int)) = c2 := by rw [← hc2]; congr 1; exact propext (by omega)
              have HC2 := Lib.hid hc2
              go_upto_if 67 with fail
              clear hc2 hc2i
              go_cut [5] from 68 to 69 (fun s5 wx => s5 = .string A4 ∧ wx = wA)
              case first =>
                cases c2 with
                | false =>
                  have h0 : k = 0 := by have := of_decide_eq_false HC2.out; omega
                  have HE := Lib.hid (show A3 = A4 by rw [HTT.out.2.1, HTT.out.1, HTT.out.2.2, if_pos h0, List.append_nil])
                  clear h0
                  go_wp2_with fail
                  go_meet
                  exact ⟨by rw [HE.out], rfl⟩
                | true =>
                  have h0 : ¬ k = 0 := by have := of_decide_eq_true HC2.out; omega
                  have HE := Lib.hid (show A3 ++ ⟨#[32, 44]⟩ = A4 by
                    rw [HTT.out.2.1, HTT.out.1, HTT.out.2.2, if_neg h0, show (⟨#[32, 44]⟩ : ByteArray) = ⟨([32, 44] : List UInt8).toArray⟩ from rfl, ap2])
                  clear h0
                  go_wp2_with fail
                  go_meet
                  exact ⟨by rw [← HE.out], rfl⟩
              case rest =>
                obtain ⟨rfl, rfl⟩ := hcut
                go_wp2_with fail
                go_roundw
                case rel => exact ⟨k + 1, by omega, by go_num, by rw [← HAB.out.1], by rw [← HAB.out.2], HBI2.out⟩
                case measure => simp [intOf]; omega
            · have hkni : ¬ (k : Int) < (n : Int) := by omega
              have HKE := Lib.hid (show k = nf i by rw [← HNI.out]; omega)
              go_wp2_with fail
              go_roundw
              case rel =>
                refine ⟨i + 1, by have := HI.out; omega, by have := HI.out; omega, by go_num, ?_, ?_, HBI.out⟩
                · rw [pA_succ, ← HKE.out, ← HA0.out.2.1, ← HPI.out]; simp
                · rw [pF_succ, ← HKE.out, ← HPI.out]
              case measure => simp [intOf]; omega
    · by_cases hN0 : N = 0
      · have hN0i : (N : Int) = 0 := by omega
        have hini : ¬ (i : Int) < (N : Int) := by omega
        have hie : i = 0 := by omega
        subst hie
        clear hin
        go_wp2_with fail
        go_ret
        exact ⟨rfl, HBA.out⟩
      · have hN0i : ¬ (N : Int) = 0 := by omega
        have hi1 : 1 ≤ i := by omega
        by_cases hiN : (i : Int) < N
        · have hi12n : ¬ (i : Int) < 8 := fun h => hin ⟨hiN, h⟩
          have hend := sh_both pf nf i hi1 hi8 HN3.out.1 HN3.out.2 gB
          obtain ⟨RL, hRL⟩ : ∃ RL, RL = (pF pf nf i).map fun x => shX x.1 x.2 := ⟨_, rfl⟩
          rw [← hRL] at hend
          have hRL0 : 0 < RL.length ∧ RL.length ≤ 24 := by
            have h1 := pF_len pf nf HN3.out.1 i
            have h2 : 1 ≤ (pF pf nf i).length := by
              obtain ⟨q, rfl⟩ : ∃ q, i = q + 1 := ⟨i - 1, by omega⟩
              rw [pF_succ, List.length_append, List.length_map, oN_len]
              have := HN3.out.2 q
              omega
            rw [hRL, List.length_map]
            omega
          have hgr : (⟨(ssL ++ pA pf nf i).toArray⟩ : ByteArray) ++ ⟨#[32, 46]⟩ = ⟨(docS pf nf i).toArray⟩ := by
            rw [show (⟨#[32, 46]⟩ : ByteArray) = ⟨([32, 46] : List UInt8).toArray⟩ from rfl, ba_apl2]; rfl
          obtain ⟨D1, hD1⟩ : ∃ D : ByteArray, D = ⟨(docS pf nf i).toArray⟩ := ⟨_, rfl⟩
          obtain ⟨D2, hD2⟩ : ∃ D : ByteArray, D = ⟨((pF pf nf i).flatMap liL).toArray⟩ := ⟨_, rfl⟩
          rw [← hD1] at hgr
          have hz1 : D1.size ≤ 2000 := by
            have := pA_len pf nf HN3.out.1 i
            rw [hD1, ba_len3]; unfold docS ssL; simp only [List.length_append, List.length_cons, List.length_nil]; omega
          have hz2 : D2.size ≤ 2000 := by
            have := lis_len (pF pf nf i)
            have := pF_len pf nf HN3.out.1 i
            rw [hD2, ba_len3]; omega
          have hQ1 : ∀ w (h : LexAt w), Calls Tryz.prog 7 #[.string D1, .string ⟨#[]⟩, .string ⟨#[103]⟩] w (TurTo (RL, 0) w) := by
            intro w h
            have := HP.out D1 hz1 w h
            rw [show D1.data.toList = docS pf nf i by rw [hD1], hend.1] at this
            exact this
          have hQ2 : ∀ w (h : LexAt w), Calls Tryz.prog 7 #[.string D2, .string ⟨#[]⟩, .string ⟨#[103]⟩] w (TurTo (RL, 0) w) := by
            intro w h
            have := HP.out D2 hz2 w h
            rw [show D2.data.toList = (pF pf nf i).flatMap liL by rw [hD2], hend.2] at this
            exact this
          have HQ1 := Lib.hid hQ1
          have HQ2 := Lib.hid hQ2
          obtain ⟨A, hA⟩ : ∃ A : ByteArray, A = ⟨(ssL ++ pA pf nf i).toArray⟩ := ⟨_, rfl⟩
          have hzA : A.size ≤ 2000 := by
            have := pA_len pf nf HN3.out.1 i
            rw [hA, ba_len3]; unfold ssL; simp only [List.length_append, List.length_cons, List.length_nil]; omega
          rw [← hA] at hgr ⊢
          rw [← hD2]
          have HGR := Lib.hid hgr
          have HRL0 := Lib.hid hRL0
          clear hQ1 hQ2 hend hRL hD1 hD2 hA hRL0
          go_wp2_with fail
          refine (HQ1.out _ (HLA.out _ HBA.out)).mono ?_
          intro e w5 h
          unfold TurTo at h
          dsimp only at h
          obtain ⟨ao, cap, rfl, hb, ho⟩ := h
          obtain ⟨g, rfl, -, hg2, hg3⟩ := ho.at12 HRL0.out.1
          have HB5 := Lib.hid (HBA.out.trans (hb.mono HBA.out.size))
          have HG := Lib.hid (And.intro hg2 hg3)
          clear hb ho hg2 hg3
          go_wp2_with fail
          refine (HQ2.out _ (HLA.out _ HB5.out)).mono ?_
          intro e w6 h
          unfold TurTo at h
          dsimp only at h
          obtain ⟨ao, cap2, rfl, hb, ho⟩ := h
          obtain ⟨g2, rfl, -, hg2, hg3⟩ := ho.at12 HRL0.out.1
          have HB6 := Lib.hid (HB5.out.trans (hb.mono HB5.out.size))
          have HSM := Lib.hid (same2_any (w := w6) (cap := cap) (cap2 := cap2) (fun j t hj i v hv => (hb.cell (p := ⟨g, 12 * j + i, none⟩) HG.out.1).trans (HG.out.2 j t hj i v hv)) hg3 (Nat.le_trans HRL0.out.2 (by decide)))
          clear hb ho hg2 hg3
          obtain ⟨M, hM⟩ : ∃ M, M = RL.length := ⟨_, rfl⟩
          rw [← hM] at HSM ⊢
          clear hM
          go_wp2_with fail
          refine HSM.out.mono ?_
          rintro e w7 ⟨rfl, hb⟩
          have HB7 := Lib.hid (HB6.out.trans (hb.mono HB6.out.size))
          clear hb
          go_wp2_with fail
          go_ret
          exact ⟨rfl, HB7.out⟩
        · clear hin
          have hend := sh_both pf nf i hi1 hi8 HN3.out.1 HN3.out.2 gB
          obtain ⟨RL, hRL⟩ : ∃ RL, RL = (pF pf nf i).map fun x => shX x.1 x.2 := ⟨_, rfl⟩
          rw [← hRL] at hend
          have hRL0 : 0 < RL.length ∧ RL.length ≤ 24 := by
            have h1 := pF_len pf nf HN3.out.1 i
            have h2 : 1 ≤ (pF pf nf i).length := by
              obtain ⟨q, rfl⟩ : ∃ q, i = q + 1 := ⟨i - 1, by omega⟩
              rw [pF_succ, List.length_append, List.length_map, oN_len]
              have := HN3.out.2 q
              omega
            rw [hRL, List.length_map]
            omega
          have hgr : (⟨(ssL ++ pA pf nf i).toArray⟩ : ByteArray) ++ ⟨#[32, 46]⟩ = ⟨(docS pf nf i).toArray⟩ := by
            rw [show (⟨#[32, 46]⟩ : ByteArray) = ⟨([32, 46] : List UInt8).toArray⟩ from rfl, ba_apl2]; rfl
          obtain ⟨D1, hD1⟩ : ∃ D : ByteArray, D = ⟨(docS pf nf i).toArray⟩ := ⟨_, rfl⟩
          obtain ⟨D2, hD2⟩ : ∃ D : ByteArray, D = ⟨((pF pf nf i).flatMap liL).toArray⟩ := ⟨_, rfl⟩
          rw [← hD1] at hgr
          have hz1 : D1.size ≤ 2000 := by
            have := pA_len pf nf HN3.out.1 i
            rw [hD1, ba_len3]; unfold docS ssL; simp only [List.length_append, List.length_cons, List.length_nil]; omega
          have hz2 : D2.size ≤ 2000 := by
            have := lis_len (pF pf nf i)
            have := pF_len pf nf HN3.out.1 i
            rw [hD2, ba_len3]; omega
          have hQ1 : ∀ w (h : LexAt w), Calls Tryz.prog 7 #[.string D1, .string ⟨#[]⟩, .string ⟨#[103]⟩] w (TurTo (RL, 0) w) := by
            intro w h
            have := HP.out D1 hz1 w h
            rw [show D1.data.toList = docS pf nf i by rw [hD1], hend.1] at this
            exact this
          have hQ2 : ∀ w (h : LexAt w), Calls Tryz.prog 7 #[.string D2, .string ⟨#[]⟩, .string ⟨#[103]⟩] w (TurTo (RL, 0) w) := by
            intro w h
            have := HP.out D2 hz2 w h
            rw [show D2.data.toList = (pF pf nf i).flatMap liL by rw [hD2], hend.2] at this
            exact this
          have HQ1 := Lib.hid hQ1
          have HQ2 := Lib.hid hQ2
          obtain ⟨A, hA⟩ : ∃ A : ByteArray, A = ⟨(ssL ++ pA pf nf i).toArray⟩ := ⟨_, rfl⟩
          have hzA : A.size ≤ 2000 := by
            have := pA_len pf nf HN3.out.1 i
            rw [hA, ba_len3]; unfold ssL; simp only [List.length_append, List.length_cons, List.length_nil]; omega
          rw [← hA] at hgr ⊢
          rw [← hD2]
          have HGR := Lib.hid hgr
          have HRL0 := Lib.hid hRL0
          clear hQ1 hQ2 hend hRL hD1 hD2 hA hRL0
          go_wp2_with fail
          refine (HQ1.out _ (HLA.out _ HBA.out)).mono ?_
          intro e w5 h
          unfold TurTo at h
          dsimp only at h
          obtain ⟨ao, cap, rfl, hb, ho⟩ := h
          obtain ⟨g, rfl, -, hg2, hg3⟩ := ho.at12 HRL0.out.1
          have HB5 := Lib.hid (HBA.out.trans (hb.mono HBA.out.size))
          have HG := Lib.hid (And.intro hg2 hg3)
          clear hb ho hg2 hg3
          go_wp2_with fail
          refine (HQ2.out _ (HLA.out _ HB5.out)).mono ?_
          intro e w6 h
          unfold TurTo at h
          dsimp only at h
          obtain ⟨ao, cap2, rfl, hb, ho⟩ := h
          obtain ⟨g2, rfl, -, hg2, hg3⟩ := ho.at12 HRL0.out.1
          have HB6 := Lib.hid (HB5.out.trans (hb.mono HB5.out.size))
          have HSM := Lib.hid (same2_any (w := w6) (cap := cap) (cap2 := cap2) (fun j t hj i v hv => (hb.cell (p := ⟨g, 12 * j + i, none⟩) HG.out.1).trans (HG.out.2 j t hj i v hv)) hg3 (Nat.le_trans HRL0.out.2 (by decide)))
          clear hb ho hg2 hg3
          obtain ⟨M, hM⟩ : ∃ M, M = RL.length := ⟨_, rfl⟩
          rw [← hM] at HSM ⊢
          clear hM
          go_wp2_with fail
          refine HSM.out.mono ?_
          rintro e w7 ⟨rfl, hb⟩
          have HB7 := Lib.hid (HB6.out.trans (hb.mono HB6.out.size))
          clear hb
          go_wp2_with fail
          go_ret
          exact ⟨rfl, HB7.out⟩
end Go.Proofs.YtefkppeicmipbaaGreatDoor
