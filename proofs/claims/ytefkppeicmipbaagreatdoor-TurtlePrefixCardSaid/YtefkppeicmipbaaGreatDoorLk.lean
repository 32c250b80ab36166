/- Signs: Tokens. -/
import Derived.Test.YtefkppeicmipbaaGreatDoorLj
import Derived.Test.YtefkppeicmipbaaGreatDoorGc
namespace Go.Proofs.YtefkppeicmipbaaGreatDoor
open Go.RowKit Go.Shelf
set_option maxRecDepth 100000
set_option linter.unusedVariables false
set_option linter.unusedSimpArgs false
def kcells1 (x : Tok) : List Value := [.int .i64 x.1, .string ⟨x.2.toArray⟩]
def kcells (l : List Tok) : List Value := l.flatMap kcells1
theorem kcells_append (a b : List Tok) : kcells (a ++ b) = kcells a ++ kcells b := by unfold kcells; rw [List.flatMap_append]
theorem Tryz.infoTk : (Tryz.prog.info? 47).map (fun i => (i.zero, i.size, i.bytes)) = some (some (.agg #[.int .i64 0, .string ⟨#[]⟩]), 2, 24) := by kernel_rfl
def OwK (w : World) (base : Nat) (v : Value) (l : List Tok) : Prop := w.ownsRow base 47 2 v l.length (kcells l)
theorem OwK.nil (w : World) (base : Nat) : OwK w base (.slice none 0 0) [] := World.ownsRow_nil _ _ _ _
theorem OwK.lt {w : World} {base : Nat} {v : Value} {l : List Tok} (h : OwK w base v l) : ∀ q, v.ownBlock = some q → base ≤ q ∧ q < w.heap.size := World.ownsRow.lt h
theorem OwK.form {w : World} {base : Nat} {v : Value} {l : List Tok} (h : OwK w base v l) : ∃ ao cap, v = .slice ao l.length cap ∧ l.length ≤ cap ∧ cap ≤ 9223372036854775807 := owns_form h
theorem OwK.moved {P : Nat → Prop} {w w' : World} {base : Nat} {v : Value} {l : List Tok} (h : OwK w base v l) (hm : Moved P w w') (hP : ∀ q, v.ownBlock = some q → ¬ P q) : OwK w' base v l := owns_moved h hm hP
theorem OwK.mono {w : World} {base base' : Nat} {v : Value} {l : List Tok} (h : OwK w base v l) (hb : base' ≤ base) : OwK w base' v l := by
  obtain ⟨h0, h1⟩ := h
  refine ⟨h0, ?_⟩
  rcases h1 with h1 | ⟨g, cap, cur, rfl, hg, k⟩
  · exact .inl h1
  · exact .inr ⟨g, cap, cur, rfl, Nat.le_trans hb hg, k⟩
theorem OwK.below {w w' : World} {base : Nat} {v : Value} {l : List Tok} (h : OwK w base v l) (hb : Below w.heap.size w w') : OwK w' base v l := h.moved (Moved.of_below hb (fun _ => False)) (fun _ _ h => h)
theorem wpList_append_tk {w : World} {ops : Array Oper} {rest : List Oper} {o : Oper} {a : Act} {Q : Exit → Act → World → Prop} (hgd : o.guard = none) (s x : Operand)
    (ho : o.op = .call { callee := .builtin .append, args := #[s, x], argTypes := #[37, 37] }) (base : Nat) (hbase : base ≤ w.heap.size)
    (v : Value) (l : List Tok) (hs : a.eval s = v) (hown : OwK w base v l) (g0 : Nat) (hx : a.eval x = .slice (some ⟨g0, 0, none⟩) 1 1) (e : Tok) (hg : Blk w g0 (kcells1 e).toArray 47) (n : Nat) (hn : n = l.length + 1) (hl : n ≤ 1000000)
    (h : ∀ ao cap w', OwK w' base (.slice ao n cap) (l ++ [e]) → n ≤ cap → cap ≤ 9223372036854775807 → w.grownBy w' v.ownBlock → (∀ q, (Value.slice ao n cap).ownBlock = some q → v.ownBlock = some q ∨ w.heap.size ≤ q) → wpList Tryz.prog ops Q rest (a.put o.dst (.slice ao n cap)) w') :
    wpList Tryz.prog ops Q (o :: rest) a w := by
  obtain ⟨i0, hi, hz0, hz1, hz2⟩ := info_parts Tryz.infoTk
  refine wpList_append_lies w hgd s x _ ho base 47 i0 _ 2 24 Tryz.underlying37 hi hz0 hz1 hz2 rfl (by decide) v l.length (kcells l) hs hown ⟨g0, 0, none⟩ 1 1 (kcells1 e) hx rfl ?_ ?_ (by decide) (by simp [maxLen]; omega) (by omega) hbase _ rfl ?_
  · intro j u hj
    rw [show (⟨g0, 0, none⟩ : Addr).add j = ⟨g0, j, none⟩ from by unfold Addr.add; split <;> simp_all, hg.cell]
    simpa using hj
  · intro u hu
    simp [kcells1] at hu
    rcases hu with rfl | rfl <;> rfl
  · intro g cap w' k1 k2 k3 k4
    subst hn
    obtain ⟨aox, capx, ex, hx1, hx2⟩ := owns_form k1
    simp only [Value.slice.injEq] at ex
    obtain ⟨-, -, rfl⟩ := ex
    refine h _ _ w' ?_ hx1 hx2 k2 (fun q hq => ?_)
    · unfold OwK
      rw [kcells_append, List.length_append]
      simpa [kcells] using k1
    · have : g = q := Option.some.inj hq
      subst this
      rcases k3 with k3 | k3
      · exact .inl k3
      · exact .inr (by omega)
/-- The tokens from a text that is past its blanks, behind those of acc. -/
def resL : Nat → List Tok → List UInt8 → List Tok × Int
  | _, acc, [] => (acc, 0)
  | 0, _, _ :: _ => ([], 6)
  | n + 1, acc, c :: r => match tokenL c r with
    | none => ([], 6)
    | some (t, y) => resL n (acc ++ [t]) (pastL false y)
theorem res_tok : ∀ (n : Nat) (l : List UInt8) (acc : List Tok), l.length ≤ n → (match tokL (n + 1) l with
    | none => ([], 6)
    | some k => (acc ++ k, 0)) = resL n acc (pastL false l)
  | 0, l, acc, h => by
    have : l = [] := List.eq_nil_of_length_eq_zero (by omega)
    subst this
    simp [tokL, pastL, resL]
  | n + 1, l, acc, h => by
    have hpl := past_len false l
    rw [tokL]
    cases hp : pastL false l with
    | nil => simp [resL]
    | cons c r =>
      rw [hp, List.length_cons] at hpl
      unfold resL
      dsimp only
      cases ht : tokenL c r with
      | none => rfl
      | some q =>
        obtain ⟨t, y⟩ := q
        have hy := token_len ht
        have ih := res_tok n y (acc ++ [t]) (by omega)
        dsimp only
        rw [← ih]
        cases tokL (n + 1) y with
        | none => rfl
        | some k => simp
theorem tokens_res {l : List UInt8} (h : ¬ 4000 < l.length) : tokensL l = resL l.length [] (pastL false l) := by
  unfold tokensL
  rw [if_neg h, ← res_tok l.length l [] (Nat.le_refl _)]
  cases tokL (l.length + 1) l with
  | none => rfl
  | some k => simp
theorem tok_kind {c : UInt8} {r : List UInt8} {t : Tok} {y : List UInt8} (h : tokenL c r = some (t, y)) : t.1 ≠ 0 := by
  have key : ∀ o : Option (Tok × List UInt8), (∀ q, o = some q → q.1.1 ≠ 0) → ∀ t y, o = some (t, y) → t.1 ≠ 0 := fun o ho t y e => ho (t, y) e
  refine key (tokenL c r) (fun q hq => ?_) t y h
  unfold tokenL at hq
  repeat' split at hq
  all_goals first | (cases hq; done) | (cases hq; simp; done) | (unfold signL at hq; obtain ⟨p, -, rfl⟩ := Option.map_eq_some_iff.1 hq; simp; done) | (obtain ⟨p, -, rfl⟩ := Option.map_eq_some_iff.1 hq; simp; done)
/-- What Tokens answers, as values. -/
def TksTo (R : List Tok × Int) (w0 : World) (e : Ending) (w' : World) : Prop :=
  ∃ ao cap, e = .returned (.tuple #[.slice ao R.1.length cap, .int .i64 R.2]) ∧ Below w0.heap.size w0 w' ∧ OwK w' w0.heap.size (.slice ao R.1.length cap) R.1 ∧ (R.1 = [] → ao = none ∧ cap = 0)
theorem tks_none (w : World) {w' : World} (hb : Below w.heap.size w w') (n : Int) : TksTo ([], n) w (.returned (.tuple #[.slice none 0 0, .int .i64 n])) w' := ⟨none, 0, rfl, hb, OwK.nil _ _, fun _ => ⟨rfl, rfl⟩⟩
theorem empty_nil {z : ByteArray} (h : z.data.toList = []) : z.toList.isEmpty = true := by rw [Lib.toList_data, h]; rfl
theorem empty_cons {z : ByteArray} {c : UInt8} {r : List UInt8} (h : z.data.toList = c :: r) : z.toList.isEmpty = false := by rw [Lib.toList_data, h]; rfl
set_option maxHeartbeats 8000000 in
theorem tokens11 (s : ByteArray) (hs : s.size ≤ 1000000) (w : World) (hT : Tabs w) (hG : SigAt w) : Calls Tryz.prog 9 #[.string s] w (TksTo (tokensL s.data.toList) w) := by
  obtain ⟨R, hR⟩ : ∃ R, R = tokensL s.data.toList := ⟨_, rfl⟩
  rw [← hR]
  have hsz : s.size = s.data.toList.length := Lib.size_eq s
  have hsi : (s.size : Int) ≤ 1000000 := by omega
  by_cases h4 : (4000 : Int) < s.size
  · have HR := Lib.hid (show R = ([], 5) from by rw [hR]; unfold tokensL; rw [if_pos (by omega)])
    clear hR hsz
    go_enter Tryz.func9, Tryz.ntmps9
    go_wp2_with fail
    go_ret2
    rw [HR.out]
    exact tks_none w (Below.refl _ _) 5
  · have HR := Lib.hid (show R = resL s.size [] (pastL false s.data.toList) from by rw [hR, hsz, tokens_res (by omega)])
    have HCL := Lib.hid (fun w => sclone_any s w hs)
    have HPA := Lib.hid (fun z w hz => past11 z hz w)
    have HTK := Lib.hid (fun z c r hl hz w hT hG => token11 z c r hl hz w hT hG)
    obtain ⟨z0, hz0⟩ : ∃ z : ByteArray, z = ⟨(pastL false s.data.toList).toArray⟩ := ⟨_, rfl⟩
    have HZ0 := Lib.hid hz0
    have HTG := Lib.hid (fun w' (hb : Below w.heap.size w w') => And.intro (tabs_below hT hb) (hG.below hb))
    have HS := Lib.hid hs
    clear hR hsz hz0 hT hG
    go_enter Tryz.func9, Tryz.ntmps9
    go_wp2_with fail
    refine (HCL.out _).mono ?_
    rintro e w1 ⟨rfl, hb1⟩
    go_wp2_with fail
    refine (HPA.out s w1 HS.out).mono ?_
    rintro e w2 ⟨rfl, hb2⟩
    have hbe := hb1.trans (hb2.mono hb1.size)
    rw [← HZ0.out]
    have hzl : z0.data.toList = pastL false s.data.toList := by rw [HZ0.out]
    have HRZ := Lib.hid (show R = resL s.size [] z0.data.toList ∧ z0.size ≤ s.size from ⟨by rw [HR.out, hzl], by rw [Lib.size_eq, hzl, Lib.size_eq]; exact past_len _ _⟩)
    clear hb1 hb2 hzl
    go_wp2_with fail
    go_loopg [0, 4, 5, 6] s.size (fun g v0 v4 _ _ wx => ∃ (z : ByteArray) (acc : List Tok) (ao : Option Addr) (sn cap : Nat), v0 = .string z ∧ v4 = .slice ao sn cap ∧ sn = acc.length ∧ acc.length + z.size ≤ s.size ∧ OwK wx w.heap.size (.slice ao sn cap) acc ∧ Below w.heap.size w wx ∧ z.size ≤ g ∧ R = resL g acc z.data.toList ∧ (acc = [] → ao = none ∧ cap = 0))
    case atStart => exact ⟨z0, [], none, 0, 0, rfl, rfl, rfl, by rw [List.length_nil, Nat.zero_add]; exact HRZ.out.2, OwK.nil _ _, hbe, HRZ.out.2, HRZ.out.1, fun _ => ⟨rfl, rfl⟩⟩
    case round =>
      obtain ⟨z, acc, ao, sn, cap, rfl, rfl, hsn, hle, hown, hb, hzg, hRz, hnil⟩ := hrel
      have HNIL := Lib.hid hnil
      clear hnil
      have HO := Lib.hid hown
      have HB := Lib.hid hb
      have HSN := Lib.hid hsn
      clear hown hb hsn
      cases hzl : z.data.toList with
      | nil =>
        have hze := empty_nil hzl
        rw [hzl] at hRz
        have HRN := Lib.hid (show R = (acc, 0) from by rw [hRz]; cases gk <;> rfl)
        clear hRz hzl
        go_wp2_with fail
        go_ret2
        rw [HRN.out]
        refine ⟨ao, cap, by rw [← HSN.out]; rfl, HB.out, ?_⟩
        rw [← HSN.out]
        exact ⟨HO.out, HNIL.out⟩
      | cons c r =>
        have hze := empty_cons hzl
        rw [hzl] at hRz
        have hzs : z.size = r.length + 1 := by rw [Lib.size_eq, hzl, List.length_cons]
        obtain ⟨g, rfl⟩ : ∃ g, gk = g + 1 := ⟨gk - 1, by omega⟩
        have HRZ2 := Lib.hid hRz
        have hz1 : z.size ≤ 1000000 := Nat.le_trans (by omega) HS.out
        clear hRz
        go_wp2_with fail
        refine (HTK.out z c r hzl hz1 wr (HTG.out _ HB.out).1 (HTG.out _ HB.out).2).mono ?_
        intro e w3 hh
        unfold TokTo at hh
        obtain ⟨k, a, b, rfl, hb3, hq⟩ := hh
        have HQ := Lib.hid hq
        have HBX := Lib.hid (HB.out.trans (hb3.mono HB.out.size))
        have HO3 := Lib.hid (HO.out.below hb3)
        clear hq hb3
        cases ht : tokenL c r with
        | none =>
          have hk0 : k = 0 := by have := HQ.out; rw [ht] at this; exact this
          subst hk0
          have HRN := Lib.hid (show R = ([], 6) from by rw [HRZ2.out]; unfold resL; rw [ht])
          have hb4 := Lib.hid (HBX.out.alloc HBX.out.size (.cells #[.int .i64 0, .string a] 47))
          clear ht
          go_wp2_with fail
          go_ret2
          rw [HRN.out]
          exact tks_none w hb4.out 6
        | some q =>
          obtain ⟨⟨tk, tl⟩, y⟩ := q
          have hkk : k = tk ∧ a = ⟨tl.toArray⟩ ∧ b = ⟨y.toArray⟩ := by have := HQ.out; rw [ht] at this; exact this
          obtain ⟨rfl, ha, hbb⟩ := hkk
          have hkne : (k == 0) = false := beq_eq_false_iff_ne.2 (tok_kind ht)
          have hyl := token_len ht
          have HRN := Lib.hid (show R = resL g (acc ++ [(k, tl)]) (pastL false y) from by rw [HRZ2.out]; conv => lhs; unfold resL; rw [ht])
          have hbl : b.data.toList = y := by rw [hbb]
          have hal1 : Below w3.heap.size w3 (w3.alloc (.cells #[.int .i64 k, .string a] 47)) := (Below.refl _ _).alloc (Nat.le_refl _) _
          have hal : Below w3.heap.size w3 ((w3.alloc (.cells #[.int .i64 k, .string a] 47)).alloc (.cells #[.int .i64 k, .string a] 47)) := hal1.alloc hal1.size _
          have hbk := Blk.new (w3.alloc (.cells #[.int .i64 k, .string a] 47)) #[.int .i64 k, .string a] 47
          rw [show (w3.alloc (.cells #[.int .i64 k, .string a] 47)).heap.size = w3.heap.size + 1 by simp] at hbk
          have HBK := Lib.hid (show Blk ((w3.alloc (.cells #[.int .i64 k, .string a] 47)).alloc (.cells #[.int .i64 k, .string a] 47)) (w3.heap.size + 1) (kcells1 (k, tl)).toArray 47 from by rw [show (kcells1 (k, tl)).toArray = #[.int .i64 k, .string a] from by rw [ha]; rfl]; exact hbk)
          have HOA := Lib.hid (HO3.out.below hal)
          have hb4 := HBX.out.trans (hal.mono HBX.out.size)
          have HB4 := Lib.hid hb4
          have HBASE := Lib.hid hb4.size
          have HNL := Lib.hid (show sn + 1 = acc.length + 1 from by rw [HSN.out])
          have HNM := Lib.hid (show sn + 1 ≤ 1000000 from by have := HSN.out; have := HS.out; omega)
          have HBY := Lib.hid (And.intro hbb hbl)
          have HPB := Lib.hid (fun w => HPA.out b w (by rw [Lib.size_eq, hbl]; omega))
          rw [hbl] at HPB
          obtain ⟨z2, hz2⟩ : ∃ z : ByteArray, z = ⟨(pastL false y).toArray⟩ := ⟨_, rfl⟩
          rw [← hz2] at HPB
          have hz2l : z2.data.toList = pastL false y := by rw [hz2]
          have hz2z : z2.size ≤ y.length := by rw [Lib.size_eq, hz2l]; exact past_len _ _
          have HZ2 := Lib.hid hz2l
          clear ht ha hbb hbl hal1 hal hbk hb4 hz2 hz2l
          go_wp2_with (at_builtin; refine wpList_append_tk rfl _ _ rfl w.heap.size HBASE.out (.slice ao sn cap) acc rfl HOA.out (w3.heap.size + 1) rfl (k, tl) HBK.out (sn + 1) HNL.out HNM.out ?_; intro ao5 cap5 w5 ho5 hx5 hy5 hg5 hq5)
          have hne : ∀ p, (Value.slice ao sn cap).ownBlock = some p → w.heap.size ≤ p := fun p hp => (HOA.out.lt p hp).1
          have hb5 := Below.grown HB4.out hg5 HB4.out.size hne
          have HX5 := Lib.hid (And.intro hb5 ho5)
          clear hb5 ho5 hg5 hq5 hne
          refine (HPB.out _).mono ?_
          rintro e w6 ⟨rfl, hb6⟩
          have HX6 := Lib.hid (And.intro (HX5.out.1.trans (hb6.mono HX5.out.1.size)) (HX5.out.2.below hb6))
          clear hb6
          go_wp2_with fail
          go_roundg g
          case measure => omega
          case rel => exact ⟨z2, acc ++ [(k, tl)], ao5, sn + 1, cap5, rfl, by first | rfl | (push_cast; rfl), by rw [List.length_append, ← HSN.out]; rfl, by rw [List.length_append, List.length_singleton]; omega, HX6.out.2, HX6.out.1, by omega, by rw [HZ2.out]; exact HRN.out, fun h => by simp at h⟩
end Go.Proofs.YtefkppeicmipbaaGreatDoor
