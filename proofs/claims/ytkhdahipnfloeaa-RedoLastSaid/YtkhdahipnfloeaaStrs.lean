/- Rows of texts: triadlaw3's homes and same. -/
import Derived.Test.YtkhdahipnfloeaaPus
import Derived.Deep.AppendLies
import Derived.BigQuiet
import Derived.Deep.QuietTactic
namespace Go.Proofs.Ytkhdahipnfloeaa
open Go.RowKit
set_option maxRecDepth 100000


/-- A slice of texts that reads as l, wherever it lies. -/
def Ss (w : World) (v : Value) (l : List ByteArray) : Prop :=
  ∃ ao cap, v = .slice ao l.length cap ∧ l.length ≤ cap ∧ cap ≤ maxLen ∧ (ao = none → cap = 0) ∧ ∀ ad, ao = some ad → ∀ j u, (strs l)[j]? = some u → w.cell? (ad.add j) = some u
theorem Ss.at {w : World} {v : Value} {l : List ByteArray} (h : Ss w v l) (hl : 0 < l.length) :
    ∃ b off cap, v = .slice (some ⟨b, off, none⟩) l.length cap ∧ l.length ≤ cap ∧ cap ≤ maxLen ∧ ∀ j (hj : j < l.length), w.cell? ⟨b, off + j, none⟩ = some (.string l[j]) := by
  obtain ⟨ao, cap, rfl, h1, h2, h3, h4⟩ := h
  cases ao with
  | none => have := h3 rfl; omega
  | some ad =>
    obtain ⟨b, off, spot⟩ := ad
    have key : ∀ j (hj : j < l.length), w.cell? ((⟨b, off, spot⟩ : Addr).add j) = some (.string l[j]) := fun j hj => h4 _ rfl j _ (by simp [strs, hj])
    have hs : spot = none := by simpa [Addr.add] using World.cell?_spot (key 0 hl)
    subst hs
    refine ⟨b, off, cap, rfl, h1, h2, fun j hj => ?_⟩
    have := key j hj
    rwa [Addr.add_lit] at this

/-- A row of the call's own. -/
def OwnS (w : World) (base : Nat) (v : Value) (l : List ByteArray) : Prop := w.ownsRow base 9 1 v l.length (strs l)
theorem OwnS.ss {w : World} {base : Nat} {v : Value} {l : List ByteArray} (h : OwnS w base v l) : Ss w v l := by
  have hc := fun g (hg : v.ownBlock = some g) => World.ownsRow.cells h hg
  rcases h.2 with ⟨rfl, hn⟩ | ⟨g, cap, cur, rfl, hb, hh, h1, h2, h3, h4⟩
  · obtain rfl : l = [] := List.eq_nil_of_length_eq_zero hn
    exact ⟨none, 0, rfl, by simp, by simp [maxLen], fun _ => rfl, fun ad h => by cases h⟩
  · refine ⟨some ⟨g, 0, none⟩, cap, rfl, h1, h2, (fun h => by cases h), fun ad had j u hu => ?_⟩
    cases had
    exact hc g rfl j u hu

theorem wpList_append_str {w : World} {ops : Array Oper} {rest : List Oper} {o : Oper} {a : Act} {Q : Exit → Act → World → Prop} (hgd : o.guard = none) (s x : Operand)
    (ho : o.op = .call { callee := .builtin .append, args := #[s, x], argTypes := #[53, 53] }) (w0 : Nat) (hw0 : w0 ≤ w.heap.size)
    (lv : Value) (l : List ByteArray) (hs : a.eval s = lv) (hown : OwnS w w0 lv l)
    (g0 : Nat) (hx : a.eval x = .slice (some ⟨g0, 0, none⟩) 1 1) (b : ByteArray) (hg : Blk w g0 #[.string b] 9) (hl : l.length ≤ 1073741824)
    (h : ∀ v' w', OwnS w' w0 v' (l ++ [b]) → w.grownBy w' lv.ownBlock → (∀ g, lv.ownBlock = some g → w0 ≤ g) → wpList Try.prog ops Q rest (a.put o.dst v') w') :
    wpList Try.prog ops Q (o :: rest) a w := by
  obtain ⟨i0, hi, hz0, hz1, hz2⟩ := info_parts Try.infoStr
  refine wpList_append_lies w hgd s x _ ho w0 9 i0 _ 1 16 Try.underlying53 hi hz0 hz1 hz2 rfl (by decide) lv l.length (strs l) hs hown ⟨g0, 0, none⟩ 1 1 [.string b] hx rfl ?_ ?_ (by decide) (by simp [maxLen]; omega) (by omega) hw0 _ rfl ?_
  · intro j u hj
    rw [show (⟨g0, 0, none⟩ : Addr).add j = ⟨g0, j, none⟩ from by unfold Addr.add; split <;> simp_all, hg.cell]
    simpa using hj
  · intro u hu
    simp at hu
    subst hu
    rfl
  · intro g cap w' k1 k2 k3 _
    refine h _ w' ?_ k2 (fun q hq => (World.ownsRow.lt hown q hq).1)
    unfold OwnS
    rw [show strs (l ++ [b]) = strs l ++ [.string b] from by simp [strs]]
    simpa using k1

def homesOf (A : Ab) : List ByteArray := (A.now.drop 401).map fun s => ⟨s.toArray⟩

theorem homesOf_get (A : Ab) (k : Nat) (h : k < (homesOf A).length) : (homesOf A)[k] = ⟨(A.now.getD (401 + k) []).toArray⟩ := by
  have h' : 401 + k < A.now.length := by
    have := h
    simp [homesOf] at this
    omega
  have e : (homesOf A)[k]? = some ⟨(A.now.getD (401 + k) []).toArray⟩ := by
    unfold homesOf
    rw [List.getElem?_map, List.getElem?_drop, List.getElem?_eq_getElem h', List.getD_eq_getElem?_getD, List.getElem?_eq_getElem h']
    rfl
  rw [List.getElem?_eq_getElem h] at e
  exact Option.some.inj e

set_option maxHeartbeats 1000000 in
theorem lhomes_any (w w1 : World) (P : Nat → Prop) (r : Nat) (A : Ab) (h : DkTo w P w1 r A) (hd : A.dead = false) (hlen : A.now.length ≤ 3000) :
    Calls Try.prog 29 #[.pointer (some ⟨r, 0, none⟩)] w1 fun e w' => ∃ v, e = .returned v ∧ OwnS w' w1.heap.size v (homesOf A) ∧ Below w1.heap.size w1 w' := by
  have H := Lib.hid h
  have hrd : ∀ k : Nat, k < A.now.length → A.fault (k : Int) = 0 ∧ A.read (k : Int) = A.now.getD k [] := fun k hk => by
    have hf : A.fault (k : Int) = 0 := by
      unfold Ab.fault
      rw [hd, if_neg (by decide), if_pos (by omega)]
    exact ⟨hf, by rw [Ab.read, if_pos hf, Int.toNat_natCast]⟩
  have HRD := Lib.hid hrd
  obtain ⟨N, hN⟩ : ∃ N, N = A.now.length := ⟨_, rfl⟩
  have HN := Lib.hid hN
  rw [← hN] at hlen
  clear h hrd hN
  go_enter Try.func29, Try.ntmps29
  go_wp2_with fail
  go_loopw [3, 4, 5, 6] (fun lv i _ _ wr => ∃ k : Nat, (k = 0 ∨ 401 + k ≤ N) ∧ i = .int .i64 ((401 + k : Nat) : Int) ∧ Below w1.heap.size w1 wr ∧ OwnS wr w1.heap.size lv ((homesOf A).take k)) (fun _ i _ _ _ => N + 401 - (intOf i).toNat)
  case atStart => exact ⟨0, .inl rfl, rfl, Below.refl _ _, World.ownsRow_nil _ _ _ _⟩
  case round =>
    obtain ⟨k, hk, rfl, hb, hrow⟩ := hrel
    have HB := Lib.hid hb
    have HROW := Lib.hid hrow
    have hsz := to_size (H.out.grow hb)
    rw [← HN.out] at hsz
    obtain ⟨i1, hi1⟩ : ∃ i1 : Nat, i1 = 401 + k := ⟨_, rfl⟩
    rw [← hi1]
    have HI1 := Lib.hid hi1
    have hi0 : 401 ≤ i1 := by omega
    clear hb hrow hi1
    by_cases hlt : i1 < N
    · have hread := to_read (i1 : Int) (H.out.grow HB.out)
      rw [(HRD.out i1 (by rw [← HN.out]; exact hlt)).1, (HRD.out i1 (by rw [← HN.out]; exact hlt)).2] at hread
      have HR := Lib.hid hread
      clear hread
      go_wp2_with fail
      refine hsz.mono ?_
      rintro e wz ⟨rfl, hwz⟩
      replace hwz := hwz.symm
      subst hwz
      clear hsz
      go_wp2_with fail
      refine HR.out.mono ?_
      rintro e w2 ⟨v2, rfl, hown, hb2, -⟩
      have kstr := run_conv_bytes hown.bs
      obtain ⟨Y, hY⟩ : ∃ Y : ByteArray, Y = ⟨(A.now.getD i1 []).toArray⟩ := ⟨_, rfl⟩
      rw [← hY] at kstr
      have HY := Lib.hid hY
      have hb2' : Below wr.heap.size wr w2 := hb2
      have HB2 := Lib.hid (HB.out.trans (hb2'.mono HB.out.size))
      have hal : Below w2.heap.size w2 (w2.alloc (.cells #[.string Y] 9)) := (Below.refl _ w2).alloc (Nat.le_refl _) _
      have hra : OwnS (w2.alloc (.cells #[.string Y] 9)) w1.heap.size u3 ((homesOf A).take k) := owns_moved (owns_moved HROW.out (Moved.of_below hb2' (fun _ => False)) (fun _ _ h => h)) (Moved.of_below hal (fun _ => False)) (fun _ _ h => h)
      have HRA := Lib.hid hra
      have HBA := Lib.hid (HB2.out.trans (hal.mono HB2.out.size))
      have HBL := Lib.hid (Blk.new w2 #[.string Y] 9)
      have hll : ((homesOf A).take k).length ≤ 1073741824 := by rw [List.length_take]; have := HI1.out; omega
      clear hown hb2 hb2' hal hra hY HR
      go_wp2_with (at_builtin; refine wpList_append_str rfl _ _ rfl w1.heap.size ?s1 u3 _ rfl HRA.out _ rfl Y HBL.out hll ?_)
      case s1 => exact HBA.out.size
      intro v3 w3 hv3 hg3 hq3
      have HB3 := Lib.hid (HBA.out.grown hg3 HBA.out.size hq3)
      have HV3 := Lib.hid hv3
      clear hv3 hg3 hq3 HRA HBA HBL hll kstr
      go_wp2_with fail
      go_roundw
      case rel =>
        have hi1 := HI1.out
        refine ⟨k + 1, .inr (by omega), ?_, HB3.out, ?_⟩
        · rw [hi1]; go_num
        · have hkl : k < (homesOf A).length := by unfold homesOf; rw [List.length_map, List.length_drop, ← HN.out]; omega
          rw [List.take_succ_eq_append_getElem hkl]
          have e : (homesOf A)[k] = Y := by rw [HY.out, hi1]; exact homesOf_get A k hkl
          rw [e]; exact HV3.out
      case measure => simp [intOf]; omega
    · have hfull : (homesOf A).take k = homesOf A := List.take_of_length_le (by unfold homesOf; rw [List.length_map, List.length_drop, ← HN.out]; have := HI1.out; omega)
      rw [hfull] at HROW
      go_wp2_with fail
      refine hsz.mono ?_
      rintro e wz ⟨rfl, hwz⟩
      replace hwz := hwz.symm
      subst hwz
      go_wp2_with fail
      go_ret
      exact ⟨_, rfl, HROW.out, HB.out⟩

theorem draws' {B : Nat} {a w : World} (h : Below B a w) (n : Nat) : Below B a (w.drewN n) := ⟨h.os, h.tape, h.output, h.size, h.block⟩

set_option maxHeartbeats 1000000 in
theorem lsame_any (v1 v2 : Value) (a b : List ByteArray) (w : World) (h1 : Ss w v1 a) (h2 : Ss w v2 b) :
    Calls Try.prog 30 #[v1, v2] w fun e w' => e = .returned (.bool (decide (a = b))) ∧ Below w.heap.size w w' := by
  obtain ⟨ao, ca, rfl, ha1, ha2, ha3, ha4⟩ := id h1
  obtain ⟨bo, cb, rfl, hb1, hb2, hb3, hb4⟩ := id h2
  have ha2' : ca ≤ 9223372036854775807 := ha2
  have hb2' : cb ≤ 9223372036854775807 := hb2
  have HA := Lib.hid h1
  have HB := Lib.hid h2
  obtain ⟨n, hn⟩ : ∃ n, n = a.length := ⟨_, rfl⟩
  obtain ⟨m, hm⟩ : ∃ m, m = b.length := ⟨_, rfl⟩
  have HN := Lib.hid hn
  have HM := Lib.hid hm
  rw [← hn] at ha1 ⊢
  rw [← hm] at hb1 ⊢
  clear ha3 ha4 hb3 hb4 hn hm ha2 hb2 h1 h2
  by_cases hnm : (n : Int) = m
  · obtain rfl : n = m := by omega
    clear hnm
    go_enter Try.func30, Try.ntmps30
    go_wp2_with fail
    go_loopw [5] (fun i wr => ∃ k : Nat, k ≤ n ∧ i = .int .i64 k ∧ Below w.heap.size w wr ∧ ∀ j (hja : j < a.length) (hjb : j < b.length), j < k → a[j] = b[j]) (fun i _ => n - (intOf i).toNat)
    case atStart => exact ⟨0, Nat.zero_le _, rfl, Below.refl _ _, fun j hja hjb h => absurd h (Nat.not_lt_zero _)⟩
    case round =>
      obtain ⟨k, hk, rfl, hbw, hE⟩ := hrel
      have HBW := Lib.hid hbw
      have HE := Lib.hid hE
      clear hbw hE
      by_cases hlt : k < n
      · have hka : k < a.length := by rw [← HN.out]; exact hlt
        have hkb : k < b.length := by rw [← HM.out]; exact hlt
        obtain ⟨ba, oa, ca', ea, -, -, hca⟩ := HA.out.at (by omega)
        obtain ⟨bb, ob, cb', eb, -, -, hcb⟩ := HB.out.at (by omega)
        simp only [Value.slice.injEq] at ea eb
        obtain ⟨rfl, -, -⟩ := ea
        obtain ⟨rfl, -, -⟩ := eb
        have qa := hca k hka
        have qb := hcb k hkb
        have qa' := (HBW.out.cell (p := ⟨ba, oa + k, none⟩) (World.block_lt_of_cell? _ _ qa)).trans qa
        have qb' := (HBW.out.cell (p := ⟨bb, ob + k, none⟩) (World.block_lt_of_cell? _ _ qb)).trans qb
        obtain ⟨x, hx⟩ : ∃ x, x = a[k] := ⟨_, rfl⟩
        obtain ⟨y, hy⟩ : ∃ y, y = b[k] := ⟨_, rfl⟩
        rw [← hx] at qa'
        rw [← hy] at qb'
        have HX := Lib.hid hx
        have HY := Lib.hid hy
        clear qa qb hca hcb hx hy
        by_cases hxy : x = y
        · subst hxy
          go_wp2_with fail
          go_quiet (fail)
          go_wp2_with fail
          go_roundw
          case rel =>
            refine ⟨k + 1, by omega, by go_num, draws' HBW.out _, fun j hja hjb hj => ?_⟩
            by_cases e : j < k
            · exact HE.out j hja hjb e
            · obtain rfl : j = k := by omega
              rw [← HX.out, ← HY.out]
          case measure => simp [intOf]; omega
        · have hab : a ≠ b := fun e => hxy (by subst e; rw [HX.out, HY.out])
          have hne : ¬ x.toList = y.toList := fun e => hxy (by
            rw [Go.ByteArray.toList_eq, Go.ByteArray.toList_eq] at e
            cases x; cases y
            simp at e
            rw [e])
          have hne2 : (x.toList == y.toList) = false := by simpa using hne
          clear hne
          have HAB := Lib.hid hab
          clear hab hxy
          go_wp2_with fail
          go_quiet (fail)
          go_wp2_with fail
          go_ret
          exact ⟨by rw [decide_eq_false HAB.out]; rfl, draws' HBW.out _⟩
      · obtain rfl : k = n := by omega
        have hab : a = b := List.ext_getElem (by rw [← HN.out, ← HM.out]) (fun j hja hjb => HE.out j hja hjb (by rw [HN.out]; exact hja))
        have HAB := Lib.hid hab
        clear hab
        go_wp2_with fail
        go_ret
        exact ⟨by rw [decide_eq_true HAB.out]; rfl, HBW.out⟩
  · have hab : a ≠ b := fun e => hnm (by rw [HN.out, HM.out, e])
    have HAB := Lib.hid hab
    clear hab
    go_enter Try.func30, Try.ntmps30
    go_wp2_with fail
    go_ret
    exact ⟨by rw [decide_eq_false HAB.out]; rfl, Below.refl _ _⟩
end Go.Proofs.Ytkhdahipnfloeaa
