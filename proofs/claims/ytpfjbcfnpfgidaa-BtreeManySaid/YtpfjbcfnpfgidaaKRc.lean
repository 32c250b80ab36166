/- Rc -/
import Derived.Test.YtpfjbcfnpfgidaaKWd
import Derived.OrdersHeld
import Derived.Deep.RegionHeld
import Derived.WalkArith
import Derived.Deep.DeepMust
import Derived.ChangeKeysEq
import Derived.Defers
import Derived.Laws.EntriesVeiled
import Derived.Laws.Cover1
namespace Go.Proofs.Ytpfjbcfnpfgidaa
open Go.RowKit Go.Maps
set_option maxRecDepth 100000
set_option linter.unusedVariables false
theorem draws9 {B : Nat} {a w : World} (h : Below B a w) (n : Nat) : Below B a (w.drewN n) := ⟨h.os, h.tape, h.output, h.size, h.block⟩
theorem Ss.dropsIf {w : World} {ao : Option Addr} {cap : Nat} {L : List ByteArray} (h : Ss w (.slice ao L.length cap) L) (n : Nat) (hn : n ≤ L.length) :
 Ss w (.slice (if cap = n then ao else Option.map (fun x => x.add n) ao) (L.length - n) (cap - n)) (L.drop n) := by
 obtain ⟨a, c, e, h1, h2, h3, h4⟩ := h
 simp only [Value.slice.injEq, true_and] at e
 obtain ⟨rfl, rfl⟩ := e
 refine ⟨_, cap - n, by rw [List.length_drop], by simp; omega, by omega, ?_, fun ad had j u hu => ?_⟩
 ·intro h
  split at h
  ·omega
  ·cases ao with
   | none => have := h3 rfl; omega
   | some x => simp at h
 ·have hj : j < L.length - n := by
   have := (List.getElem?_eq_some_iff.1 hu).1
   rw [strs_length, List.length_drop] at this; exact this
  rw [if_neg (by omega)] at had
  cases ao with
  | none => simp at had
  | some x =>
   simp at had
   subst had
   have := h4 x rfl (n + j) u (by unfold strs at hu ⊢; rw [List.map_drop, List.getElem?_drop] at hu; exact hu)
   rw [add_add]
   exact this
theorem Live.perm {w0 w : World} {D : Nat → Prop} {B : Nat} {F : List (Nat × Array Value × TypeId)} {R R' : List (Value × List ByteArray)} (h : Live w0 D w B F R) (p : R.Perm R') : Live w0 D w B F R' :=
 ⟨h.fix, fun r hr => h.own r (p.mem_iff.2 hr), (p.pairwise_iff (fun {a b} hab q hb ha => hab q ha hb)).1 h.apart, h.low, h.mv, fun r hr => h.mine r (p.mem_iff.2 hr)⟩
theorem OwnS.cells {w : World} {B : Nat} {v : Value} {L : List ByteArray} (h : OwnS w B v L) (i : Nat) (hi : i < L.length) : ∃ g cap, v = .slice (some ⟨g, 0, none⟩) L.length cap ∧ L.length ≤ cap ∧ cap ≤ 9223372036854775807 ∧ w.cell? ⟨g, i, none⟩ = some (.string L[i]) ∧ w.frozen? ⟨g, i, none⟩ = false ∧ B ≤ g ∧ g < w.heap.size := by
 obtain ⟨g, cap, e, h1, h2, h3, h4⟩ := h.row (by omega)
 exact ⟨g, cap, e, h1, h2, h4.cell i hi, h4.frozen i, h3, h4.lt⟩
/-- Is a text below a key? -/
def lsK (key a : ByteArray) : Bool := Op.bytesLess a.toList key.toList
/-- Where a key stands, or would. -/
def posK (key : ByteArray) (K : List ByteArray) : Nat := (K.takeWhile (lsK key)).length
def isK (key : ByteArray) (K : List ByteArray) : Bool := match K[posK key K]? with
 | some a => a.toList == key.toList
 | none => false
theorem posK_le (key : ByteArray) (K : List ByteArray) : posK key K ≤ K.length := List.IsPrefix.length_le (List.takeWhile_prefix _)
theorem posK_of {key : ByteArray} : ∀ {K : List ByteArray} {k : Nat}, k ≤ K.length → (∀ j (hj : j < K.length), j < k → lsK key K[j] = true) → (∀ hk : k < K.length, lsK key K[k] = false) → posK key K = k
 | [], k, hk, _, _ => by simp at hk; subst hk; rfl
 | a :: K, 0, _, _, h2 => by
  have := h2 (by simp)
  unfold posK
  rw [List.takeWhile_cons]
  rw [show (a :: K)[0] = a from rfl] at this
  rw [this]; rfl
 | a :: K, k + 1, hk, h1, h2 => by
  have ha := h1 0 (by simp) (by omega)
  rw [show (a :: K)[0] = a from rfl] at ha
  have ih := posK_of (key := key) (K := K) (k := k) (by simpa using hk) (fun j hj hjk => by have := h1 (j + 1) (by simpa using hj) (by omega); simpa using this) (fun hk' => by have := h2 (by simpa using hk'); simpa using this)
  unfold posK at ih ⊢
  rw [List.takeWhile_cons, ha, if_pos rfl, List.length_cons, ih]
/-- The reference's map in a block: keys and values in rows of its own. -/
def MapAt (w0 : World) (D : Nat → Prop) (w : World) (B x : Nat) (kv vv : Value) (K V : List ByteArray) : Prop := Live w0 D w B [(x, #[kv, vv], 31)] [(kv, K), (vv, V)]
theorem MapAt.x {w0 w : World} {D : Nat → Prop} {B x : Nat} {kv vv : Value} {K V : List ByteArray} (h : MapAt w0 D w B x kv vv K V) : Blk w x #[kv, vv] 31 ∧ x < B := h.fix (x, #[kv, vv], 31) (by simp)
set_option maxHeartbeats 4000000 in
theorem rat_any {w0 : World} {D : Nat → Prop} {w : World} {B x : Nat} {kv vv : Value} {K V : List ByteArray} (h : MapAt w0 D w B x kv vv K V) (key : ByteArray) (hl : K.length ≤ 1000000) :
 Calls Try.prog 28 #[.pointer (some ⟨x, 0, none⟩), .string key] w fun e w' => e = .returned (.tuple #[.int .i64 (posK key K : Int), .bool (isK key K)]) ∧ Below w.heap.size w w' := by
 obtain ⟨ao, cap, e0, hc1, hc2⟩ := (Live.at1 h).ss.form
 dsimp only at e0 hc1
 obtain ⟨n, hn⟩ : ∃ n, n = K.length := ⟨_, rfl⟩
 rw [← hn] at e0 hc1 hl
 subst e0
 have c0 : w.cell? ⟨x, 0, none⟩ = some (.slice ao n cap) := by rw [h.x.1.cell]; rfl
 have hK : ∀ i (hi : i < K.length), ∃ g, ao = some ⟨g, 0, none⟩ ∧ w.cell? ⟨g, i, none⟩ = some (.string K[i]) := fun i hi => by
  obtain ⟨g, cp, e, -, -, hc, -⟩ := OwnS.cells (Live.at1 h) i hi
  simp only [Value.slice.injEq] at e
  exact ⟨g, e.1, hc⟩
 have HN := Lib.hid hn
 have HK := Lib.hid hK
 obtain ⟨ps, hps⟩ : ∃ ps : Int, ps = (posK key K : Int) := ⟨_, rfl⟩
 obtain ⟨bs, hbs⟩ : ∃ bs, bs = isK key K := ⟨_, rfl⟩
 rw [← hps, ← hbs]
 have HPS := Lib.hid hps
 have HBS := Lib.hid hbs
 clear h hn hK hps hbs
 go_enter Try.func28, Try.ntmps28
 go_wp2_with fail
 go_loop [6] (fun i => ∃ k : Nat, k ≤ n ∧ i = .int .i64 k ∧ ∀ j (hj : j < K.length), j < k → lsK key K[j] = true) (fun i => n - (intOf i).toNat)
 case atStart => exact ⟨0, Nat.zero_le _, rfl, fun j _ hj => absurd hj (Nat.not_lt_zero _)⟩
 case round =>
  obtain ⟨k, hk, rfl, hall⟩ := hrel
  have HALL := Lib.hid hall
  clear hall
  by_cases hlt : k < n
  ·have hkl : k < K.length := by rw [← HN.out]; exact hlt
   obtain ⟨g, rfl, hc⟩ := HK.out k hkl
   obtain ⟨a, ha⟩ : ∃ a, a = K[k] := ⟨_, rfl⟩
   rw [← ha] at hc
   have HA := Lib.hid ha
   have hlt' : (k : Int) < n := by omega
   have hk0 : (0 : Int) ≤ k := by omega
   clear ha
   cases hb : Op.bytesLess a.toList key.toList with
   | true =>
    go_wp2_with fail
    go_round
    case rel =>
     refine ⟨k + 1, by omega, by go_num, fun j hj hjk => ?_⟩
     by_cases e : j = k
     ·subst e
      have := HA.out
      unfold lsK
      rw [← this]; exact hb
     ·exact HALL.out j hj (by omega)
    case measure => simp [intOf]; omega
   | false =>
    have hpos : posK key K = k := posK_of (by rw [← HN.out]; omega) HALL.out (fun hk' => by unfold lsK; rw [← HA.out]; exact hb)
    have hget : K[k]? = some a := by rw [HA.out]; exact List.getElem?_eq_getElem (by rw [← HN.out]; exact hlt)
    have his : isK key K = (a.toList == key.toList) := by unfold isK; rw [hpos, hget]
    have HR := Lib.hid (And.intro hpos his)
    clear hpos hget his
    have HB := Lib.hid hb
    cases heq : (a.toList == key.toList) with
    | true =>
     have HEQ := Lib.hid heq
     go_wp2_with fail
     go_quiet (fail)
     go_wp2_with fail
     go_ret2
     exact ⟨by rw [HPS.out, HBS.out, HR.out.1, HR.out.2, HEQ.out]; rfl, draws9 (Below.refl _ w) _⟩
    | false =>
     have HEQ := Lib.hid heq
     go_wp2_with fail
     go_quiet (fail)
     go_wp2_with fail
     go_ret2
     exact ⟨by rw [HPS.out, HBS.out, HR.out.1, HR.out.2, HEQ.out]; rfl, draws9 (Below.refl _ w) _⟩
  ·obtain rfl : k = n := by omega
   have hpos : posK key K = k := posK_of (by rw [← HN.out]; omega) HALL.out (fun hk' => by rw [← HN.out] at hk'; omega)
   have his : isK key K = false := by unfold isK; rw [hpos, List.getElem?_eq_none (by rw [← HN.out]; omega)]
   have HR := Lib.hid (And.intro hpos his)
   clear hpos his
   go_wp2_with fail
   go_quiet (fail)
   go_wp2_with fail
   go_ret2
   exact ⟨by rw [HPS.out, HBS.out, HR.out.1, HR.out.2]; rfl, draws9 (Below.refl _ w) _⟩
end Go.Proofs.Ytpfjbcfnpfgidaa
