/- Triples as text: the reader's small calls. -/
import Derived.Test.YtefkppeicmipbaaGreatDoorUd
import Derived.Laws.Rows
import Derived.Laws.ResultCell
namespace Go.Proofs.YtefkppeicmipbaaGreatDoor
open Go.RowKit Go.Shelf
set_option maxRecDepth 100000
set_option linter.unusedVariables false
set_option linter.unusedSimpArgs false
theorem equal_tok12 (k k2 : Int) (s s2 : ByteArray) (w : World) : (Op.equalIn 10000 47 (.agg #[.int .i64 k, .string s]) (.agg #[.int .i64 k2, .string s2])).run Tryz.prog w = .ok (k == k2 && s.toList == s2.toList) w := by
  cases h1 : k == k2 <;> cases h2 : s.toList == s2.toList
  all_goals go_simp
theorem equal_tokV (x y : Tok) (w : World) : (Op.equalIn 10000 47 (.agg #[.int .i64 x.1, .string ⟨x.2.toArray⟩]) (.agg #[.int .i64 y.1, .string ⟨y.2.toArray⟩])).run Tryz.prog w = .ok (decide (x = y)) w := by
  rw [equal_tok12]
  congr 1
  obtain ⟨a, b⟩ := x
  obtain ⟨c, d⟩ := y
  rw [Lib.toList_data, Lib.toList_data, Bool.eq_iff_iff]
  simp
theorem equal_tokB (x : Tok) (k : Int) (l : ByteArray) (w : World) : (Op.equalIn 10000 47 (.agg #[.int .i64 x.1, .string ⟨x.2.toArray⟩]) (.agg #[.int .i64 k, .string l])).run Tryz.prog w = .ok (decide (x = (k, l.data.toList))) w := by
  have h := equal_tokV x (k, l.data.toList) w
  rw [show (⟨(k, l.data.toList).2.toArray⟩ : ByteArray) = l from by cases l; simp] at h
  exact h
theorem equal_tok129 (k k2 : Int) (s s2 : ByteArray) (w : World) : (Op.equalIn 9999 47 (.agg #[.int .i64 k, .string s]) (.agg #[.int .i64 k2, .string s2])).run Tryz.prog w = .ok (k == k2 && s.toList == s2.toList) w := by
  cases h1 : k == k2 <;> cases h2 : s.toList == s2.toList
  all_goals go_simp
theorem equal_tokV9 (x y : Tok) (w : World) : (Op.equalIn 9999 47 (.agg #[.int .i64 x.1, .string ⟨x.2.toArray⟩]) (.agg #[.int .i64 y.1, .string ⟨y.2.toArray⟩])).run Tryz.prog w = .ok (decide (x = y)) w := by
  rw [equal_tok129]
  congr 1
  obtain ⟨a, b⟩ := x
  obtain ⟨c, d⟩ := y
  rw [Lib.toList_data, Lib.toList_data, Bool.eq_iff_iff]
  simp
theorem equal_tokB9 (x : Tok) (k : Int) (l : ByteArray) (w : World) : (Op.equalIn 9999 47 (.agg #[.int .i64 x.1, .string ⟨x.2.toArray⟩]) (.agg #[.int .i64 k, .string l])).run Tryz.prog w = .ok (decide (x = (k, l.data.toList))) w := by
  have h := equal_tokV9 x (k, l.data.toList) w
  rw [show (⟨(k, l.data.toList).2.toArray⟩ : ByteArray) = l from by cases l; simp] at h
  exact h
theorem results_tok {fn : Func} {p : Tmp} (h : fn.results = #[.cell p 47]) (tmps : Array Value) (w : World) (g : Nat) (t : TypeId) (c0 c1 : Value)
    (hp : tmps.getD p undef = .pointer (some ⟨g, 0, none⟩)) (hg : Blk w g #[c0, c1] t) : (results fn tmps).run Tryz.prog w = .ok (.agg #[c0, c1]) w :=
  results_cell_row h tmps w g t _ (0, 0) _ hp hg Tryz.underlying47 rfl (by kernel_rfl)
theorem results_tm {fn : Func} {p : Tmp} (h : fn.results = #[.cell p 33]) (tmps : Array Value) (w : World) (g : Nat) (t : TypeId) (c0 c1 c2 c3 : Value)
    (hp : tmps.getD p undef = .pointer (some ⟨g, 0, none⟩)) (hg : Blk w g #[c0, c1, c2, c3] t) : (results fn tmps).run Tryz.prog w = .ok (.agg #[c0, c1, c2, c3]) w :=
  results_cell_row h tmps w g t _ (0, 0) _ hp hg Tryz.underlying33 rfl (by kernel_rfl)
/-- The turns of the reader's cells. -/
theorem RdT.fails {w : World} {P : Pl} {tv : Value} {s : St} (h : RdT w P tv s) (he : s.e = 0) (x : Int) :
    Go12 P w tv (((w.setCell ⟨P.r, 0, none⟩ (.slice none 0 0)).setCell ⟨P.r, 5, none⟩ (.slice none 0 0)).setCell ⟨P.r, 6, none⟩ (.int .i64 x)) (.slice none 0 0) (s.fail x) := by
  obtain ⟨rv, hrv, hb⟩ := h.cells
  have e : s.fail x = { s with rest := [], told := [], e := x } := by unfold St.fail; rw [if_pos he]
  have m : Moved (· = P.r) w (((w.setCell ⟨P.r, 0, none⟩ (.slice none 0 0)).setCell ⟨P.r, 5, none⟩ (.slice none 0 0)).setCell ⟨P.r, 6, none⟩ (.int .i64 x)) := (((Moved.refl (· = P.r) w).setCell _ _ (.inl rfl)).setCell _ _ (.inl rfl)).setCell _ _ (.inl rfl)
  have hi := h.inv.fail x
  rw [e] at hi ⊢
  refine (Go12.refl h).turn m (.slice none 0 0) (TkAt.nil _ _) ?_ rfl rfl (OwR.nil _ _) hi (fun q hq => by cases hq)
  have := ((hb.set 0 (.slice none 0 0)).set 5 (.slice none 0 0)).set 6 (.int .i64 x)
  simpa only [List.setIfInBounds_toArray, List.set_cons_zero, List.set_cons_succ] using this
theorem RdT.rests {w : World} {P : Pl} {tv : Value} {s : St} (h : RdT w P tv s) (rv : Value) (hr : TkAt w P.tk rv s.next.rest) : Go12 P w tv (w.setCell ⟨P.r, 0, none⟩ rv) tv s.next := by
  obtain ⟨rv0, hrv, hb⟩ := h.cells
  refine (Go12.refl h).turn ((Moved.refl (· = P.r) w).setCell _ _ (.inl rfl)) rv hr ?_ rfl rfl h.told h.inv.next (fun q hq => hq)
  have := hb.set 0 rv
  simpa only [St.next, List.setIfInBounds_toArray, List.set_cons_zero, List.set_cons_succ] using this
theorem RdT.deeps {w : World} {P : Pl} {tv : Value} {s : St} (h : RdT w P tv s) (x : Int) : Go12 P w tv (w.setCell ⟨P.r, 4, none⟩ (.int .i64 x)) tv { s with deep := x } := by
  obtain ⟨rv0, hrv, hb⟩ := h.cells
  refine (Go12.refl h).turn ((Moved.refl (· = P.r) w).setCell _ _ (.inl rfl)) rv0 hrv ?_ rfl rfl h.told ⟨h.inv.size, h.inv.pre, h.inv.cnt, h.inv.told, h.inv.dead⟩ (fun q hq => hq)
  have := hb.set 4 (.int .i64 x)
  simpa only [List.setIfInBounds_toArray, List.set_cons_zero, List.set_cons_succ] using this
theorem RdT.bases {w : World} {P : Pl} {tv : Value} {s : St} (h : RdT w P tv s) (x : ByteArray) (hx : x.size + msr s.rest ≤ 90000) : Go12 P w tv (w.setCell ⟨P.r, 1, none⟩ (.string x)) tv { s with base := x } := by
  obtain ⟨rv0, hrv, hb⟩ := h.cells
  refine (Go12.refl h).turn ((Moved.refl (· = P.r) w).setCell _ _ (.inl rfl)) rv0 hrv ?_ rfl rfl h.told ⟨hx, h.inv.pre, h.inv.cnt, h.inv.told, h.inv.dead⟩ (fun q hq => hq)
  have := hb.set 1 (.string x)
  simpa only [List.setIfInBounds_toArray, List.set_cons_zero, List.set_cons_succ] using this
theorem headD_get (l : List Tok) (h : 0 < l.length) : l.headD (0, []) = l[0] := by cases l with
  | nil => exact absurd h (by simp)
  | cons a r => rfl
theorem tail_get (l : List Tok) (k : Nat) (h : k < l.tail.length) (h2 : k + 1 < l.length) : l.tail[k]'h = l[k + 1] := by cases l with
  | nil => exact absurd h2 (by simp)
  | cons a r => rfl
/-- The first token of what is left, in memory. -/
theorem TkAt.first {w : World} {b : Nat} {rv : Value} {s : St} (h : TkAt w b rv s.rest) (hk : s.rest ≠ []) : ∃ o cap, rv = .slice (some ⟨b, o, none⟩) s.rest.length cap ∧ s.rest.length ≤ cap ∧ cap ≤ maxLen ∧ w.cell? ⟨b, o, none⟩ = some (.int .i64 s.peek.1) ∧ w.cell? ⟨b, o + 1, none⟩ = some (.string ⟨s.peek.2.toArray⟩) ∧
    ∀ ao, (ao = some ⟨b, o, none⟩ ∨ ao = some ⟨b, o + 2, none⟩) → (ao = some ⟨b, o, none⟩ → s.rest.length = 1) → TkAt w b (.slice ao (s.rest.length - 1) (cap - 1)) s.next.rest := by
  obtain ⟨ao, cap, rfl, h1, h2, h3⟩ := h
  rcases h3 with h3 | ⟨o, rfl, h3⟩
  · exact absurd h3 hk
  have hl : 0 < s.rest.length := List.length_pos_iff.2 hk
  have c := h3 0 hl
  have e : s.peek = s.rest[0] := headD_get _ hl
  rw [Nat.mul_zero, Nat.add_zero] at c
  refine ⟨o, cap, rfl, h1, h2, by rw [e]; exact c.1, by rw [e]; exact c.2, fun ao h4 h5 => ⟨ao, cap - 1, ?_, ?_, by omega, ?_⟩⟩
  · unfold St.next; simp
  · unfold St.next; simp; omega
  · rcases h4 with h4 | h4
    · left
      have := h5 h4
      unfold St.next
      exact List.eq_nil_of_length_eq_zero (by simp; omega)
    · right
      refine ⟨o + 2, h4, fun k hk' => ?_⟩
      have hk2 : k + 1 < s.rest.length := by unfold St.next at hk'; simp at hk'; omega
      have := h3 (k + 1) hk2
      have e2 : s.next.rest[k]'hk' = s.rest[k + 1] := tail_get _ _ hk' hk2
      rw [e2, show o + 2 + 2 * k = o + 2 * (k + 1) by omega]
      exact this
set_option maxHeartbeats 4000000 in
theorem tfail {w : World} {P : Pl} {tv : Value} {s : St} (h : RdT w P tv s) (x : Int) :
    Calls Tryz.prog 45 #[.pointer (some ⟨P.r, 0, none⟩), .int .i64 x] w (ToV12 P w tv (s.fail x)) := by
  obtain ⟨rv, hrv, c0, c1, c2, c3, c4, c5, c6⟩ := h.open
  have f0 := h.frozen 0
  have f5 := h.frozen 5
  have f6 := h.frozen 6
  have HH := Lib.hid h
  clear h hrv
  by_cases he : s.e = 0
  · have hb : (s.e == 0) = true := by rw [he]; rfl
    go_enter Tryz.func45, Tryz.ntmps45
    go_wp2_with fail
    exact bodyPost_end (results_none rfl _ _ _) rfl ⟨⟨_, rfl⟩, _, HH.out.fails he x⟩
  · have hb : (s.e == 0) = false := by simpa using he
    go_enter Tryz.func45, Tryz.ntmps45
    go_wp2_with fail
    refine bodyPost_end (results_none rfl _ _ _) rfl ⟨⟨_, rfl⟩, tv, ?_⟩
    have e : s.fail x = s := by unfold St.fail; rw [if_neg he]
    rw [e]
    exact Go12.refl HH.out
set_option maxHeartbeats 4000000 in
theorem tpeek {w : World} {P : Pl} {tv : Value} {s : St} (h : RdT w P tv s) :
    Calls Tryz.prog 24 #[.pointer (some ⟨P.r, 0, none⟩)] w (To12 P w tv (tokV s.peek) s) := by
  obtain ⟨rv, hrv, c0, c1, c2, c3, c4, c5, c6⟩ := h.open
  have hlt := h.rlt
  have htk := Nat.lt_of_lt_of_le h.lts.2.2.2.2 h.B
  have HH := Lib.hid h
  clear h c1 c2 c3 c4 c5 c6
  cases hs : s.rest with
  | nil =>
    have HP := Lib.hid (show s.peek = (0, []) from by unfold St.peek; rw [hs]; rfl)
    obtain ⟨ao, cap, rfl, -, -, -⟩ := hrv
    rw [hs] at c0
    clear hs
    go_enter Tryz.func24, Tryz.ntmps24
    go_wp2_with fail
    refine bodyPost_ret (v := .agg #[.int .i64 0, .string ⟨#[]⟩]) (results_tok (p := 2) (by kernel_rfl) _ _ w.heap.size _ _ _ rfl (Blk.new _ _ _)) rfl ⟨by rw [HP.out]; rfl, tv, (Go12.refl HH.out).alloc _⟩
  | cons a r =>
    obtain ⟨o, cap, rfl, h1, h2, d0, d1, -⟩ := hrv.first (by rw [hs]; simp)
    rw [hs, List.length_cons] at c0 h1
    clear hs hrv
    obtain ⟨n, hn⟩ : ∃ n, n = r.length + 1 := ⟨_, rfl⟩
    have hn1 : 0 < (n : Int) := by omega
    have hn2 : ((n : Int) == 0) = false := by simpa using (by omega : ¬ (n : Int) = 0)
    have hn3 : 0 < n := by omega
    rw [← hn] at c0 h1
    clear hn
    generalize s.peek = q at d0 d1 ⊢
    obtain ⟨q1, q2⟩ := q
    dsimp only at d0 d1
    go_enter Tryz.func24, Tryz.ntmps24
    go_wp2_with fail
    refine bodyPost_ret (v := .agg #[.int .i64 q1, .string ⟨q2.toArray⟩]) (results_tok (p := 2) (by kernel_rfl) _ _ w.heap.size _ _ _ rfl (Blk.new _ _ _)) rfl ⟨rfl, tv, (Go12.refl HH.out).alloc _⟩
set_option maxHeartbeats 4000000 in
theorem tsign (l : ByteArray) (w : World) : Calls Tryz.prog 21 #[.string l] w fun e w' => e = .returned (.agg #[.int .i64 9, .string l]) ∧ Below w.heap.size w w' := by
  go_enter Tryz.func21, Tryz.ntmps21
  go_wp2_with fail
  refine bodyPost_ret (v := .agg #[.int .i64 9, .string l]) (results_tok (p := 2) (by kernel_rfl) _ _ w.heap.size _ _ _ rfl (Blk.new _ _ _)) rfl ⟨rfl, (Below.refl _ _).alloc (Nat.le_refl _) _⟩
set_option maxHeartbeats 4000000 in
theorem tword (l : ByteArray) (w : World) : Calls Tryz.prog 75 #[.string l] w fun e w' => e = .returned (.agg #[.int .i64 8, .string l]) ∧ Below w.heap.size w w' := by
  go_enter Tryz.func75, Tryz.ntmps75
  go_wp2_with fail
  refine bodyPost_ret (v := .agg #[.int .i64 8, .string l]) (results_tok (p := 2) (by kernel_rfl) _ _ w.heap.size _ _ _ rfl (Blk.new _ _ _)) rfl ⟨rfl, (Below.refl _ _).alloc (Nat.le_refl _) _⟩
set_option maxHeartbeats 4000000 in
theorem tlang (l : ByteArray) (w : World) : Calls Tryz.prog 18 #[.string l] w fun e w' => e = .returned (.agg #[.int .i64 6, .string l]) ∧ Below w.heap.size w w' := by
  go_enter Tryz.func18, Tryz.ntmps18
  go_wp2_with fail
  refine bodyPost_ret (v := .agg #[.int .i64 6, .string l]) (results_tok (p := 2) (by kernel_rfl) _ _ w.heap.size _ _ _ rfl (Blk.new _ _ _)) rfl ⟨rfl, (Below.refl _ _).alloc (Nat.le_refl _) _⟩
set_option maxHeartbeats 4000000 in
theorem tnamed (l : ByteArray) (w : World) : Calls Tryz.prog 49 #[.string l] w fun e w' => e = .returned (named l).val ∧ Below w.heap.size w w' := by
  go_enter Tryz.func49, Tryz.ntmps49
  go_wp2_with fail
  refine bodyPost_ret (v := .agg #[.int .i64 1, .string l, .string ⟨#[]⟩, .string ⟨#[]⟩]) (results_tm (p := 2) (by kernel_rfl) _ _ w.heap.size _ _ _ _ _ rfl (Blk.new _ _ _)) rfl ⟨rfl, (Below.refl _ _).alloc (Nat.le_refl _) _⟩
set_option maxHeartbeats 4000000 in
theorem ttyped (l m : ByteArray) (w : World) : Calls Tryz.prog 78 #[.string l, .string m] w fun e w' => e = .returned (typed l m).val ∧ Below w.heap.size w w' := by
  go_enter Tryz.func78, Tryz.ntmps78
  go_wp2_with fail
  refine bodyPost_ret (v := .agg #[.int .i64 3, .string l, .string ⟨#[]⟩, .string m]) (results_tm (p := 4) (by kernel_rfl) _ _ w.heap.size _ _ _ _ _ rfl (Blk.new _ _ _)) rfl ⟨rfl, (Below.refl _ _).alloc (Nat.le_refl _) _⟩
end Go.Proofs.YtefkppeicmipbaaGreatDoor
