/- Package value: Eval. -/
import Derived.Test.YtecomfhbdonkbaaGreatDoorKx
namespace Go.Proofs.YtecomfhbdonkbaaGreatDoor
open Go.RowKit Go.Shelf Flo
set_option maxRecDepth 100000
set_option linter.unusedVariables false
set_option linter.unusedSimpArgs false

/-- A scope whose two labels lead to one another: behind each jump a number that no slot has is less. -/
def Exit.toFro (J : Nat → Nat → Act → World → Prop) (m : Nat) (Q : Exit → Act → World → Prop) : Exit → Act → World → Prop
  | .goto l, a, w => ∃ m', m' < m ∧ J l m' a w
  | e, a, w => Q e a w
theorem Exit.toFro_ret {J : Nat → Nat → Act → World → Prop} {m : Nat} {Q : Exit → Act → World → Prop} {a : Act} {w : World} : Exit.toFro J m Q .ret a w = Q .ret a w := rfl
theorem Exit.toFro_le {J : Nat → Nat → Act → World → Prop} {m m' : Nat} {Q : Exit → Act → World → Prop} (h : m ≤ m') : ∀ e a w, Exit.toFro J m Q e a w → Exit.toFro J m' Q e a w := by
  intro e a w hq
  cases e with
  | goto l => obtain ⟨k, hk, hJ⟩ := hq; exact ⟨k, Nat.lt_of_lt_of_le hk h, hJ⟩
  | _ => exact hq
theorem wp_scope_mutual {P : Program} {a : Act} {w : World} {Q : Exit → Act → World → Prop} {c r0 r1 : Code} (J : Nat → Nat → Act → World → Prop) (h0 : findLabel c 0 = some (Code.seq .skip r0)) (h1 : findLabel c 1 = some (Code.seq .skip r1))
    (hl : ∀ l m a w, J l m a w → l = 0 ∨ l = 1)
    (p1 : ∀ m a w, J 1 m a w → r1.wp P (Exit.toFro J m Q) a w)
    (p00 : (∀ m a w, J 1 m a w → r1.wp P (Exit.toFro J m Q) a w) → ∀ m a w, J 0 m a w → r0.wp P (Exit.toFro J m Q) a w)
    (M : Nat) (first0 : (∀ m a w, J 0 m a w → r0.wp P (Exit.toFro J m Q) a w) → c.wp P (Exit.toFro J M Q) a w) : (Code.scope c).wp P Q a w := by
  have p0 := p00 p1
  have p0' : ∀ m a w, J 0 m a w → (Code.seq .skip r0).wp P (Exit.toFro J m Q) a w := fun m a w hJ => wp_seq (wp_skip (p0 m a w hJ))
  have p1' : ∀ m a w, J 1 m a w → (Code.seq .skip r1).wp P (Exit.toFro J m Q) a w := fun m a w hJ => wp_seq (wp_skip (p1 m a w hJ))
  intro b k cs
  have hg0 : gotoIn 0 (.inScope c :: k) = some (.code (Code.seq .skip r0) :: .inScope c :: k) := by simp [gotoIn, h0]
  have hg1 : gotoIn 1 (.inScope c :: k) = some (.code (Code.seq .skip r1) :: .inScope c :: k) := by simp [gotoIn, h1]
  have key : ∀ m, (∀ a w, J 0 m a w → ∃ e a' w', Q e a' w' ∧ Arrives P (lone (b.at a (.code (Code.seq .skip r0) :: .inScope c :: k)) cs w) b k cs e a' w') ∧
      (∀ a w, J 1 m a w → ∃ e a' w', Q e a' w' ∧ Arrives P (lone (b.at a (.code (Code.seq .skip r1) :: .inScope c :: k)) cs w) b k cs e a' w') := by
    intro m
    induction m using Nat.strongRecOn with
    | _ m ih =>
      have step : ∀ (r : Code) a w, (Code.seq .skip r).wp P (Exit.toFro J m Q) a w → ∃ e a' w', Q e a' w' ∧ Arrives P (lone (b.at a (.code (Code.seq .skip r) :: .inScope c :: k)) cs w) b k cs e a' w' := by
        intro r a w hp
        obtain ⟨e, a₁, w₁, hq, harr⟩ := hp b (.inScope c :: k) cs
        cases e with
        | normal => exact ⟨.normal, a₁, w₁, hq, Steps.trans harr (.one step_inScope)⟩
        | exit id => exact ⟨.exit id, a₁, w₁, hq, fun k' hk => harr k' (by simp [exitTo, hk])⟩
        | goto l' =>
          obtain ⟨m', hm, hJ⟩ := hq
          rcases hl _ _ _ _ hJ with rfl | rfl
          · obtain ⟨e₂, a₂, w₂, hq₂, harr₂⟩ := (ih m' hm).1 a₁ w₁ hJ
            exact ⟨e₂, a₂, w₂, hq₂, .of_steps (harr _ hg0) harr₂⟩
          · obtain ⟨e₂, a₂, w₂, hq₂, harr₂⟩ := (ih m' hm).2 a₁ w₁ hJ
            exact ⟨e₂, a₂, w₂, hq₂, .of_steps (harr _ hg1) harr₂⟩
        | ret => exact ⟨_, a₁, w₁, hq, harr⟩
        | panic ch => exact ⟨_, a₁, w₁, hq, harr⟩
        | outgrown => exact ⟨_, a₁, w₁, hq, harr⟩
      exact ⟨fun a w hJ => step r0 a w (p0' m a w hJ), fun a w hJ => step r1 a w (p1' m a w hJ)⟩
  obtain ⟨e, a₁, w₁, hq, harr⟩ := first0 p0 b (.inScope c :: k) cs
  cases e with
  | normal => exact ⟨.normal, a₁, w₁, hq, .head step_scope (Steps.trans harr (.one step_inScope))⟩
  | exit id => exact ⟨.exit id, a₁, w₁, hq, fun k' hk => .head step_scope (harr k' (by simp [exitTo, hk]))⟩
  | goto l' =>
    obtain ⟨m', -, hJ⟩ := hq
    rcases hl _ _ _ _ hJ with rfl | rfl
    · obtain ⟨e₂, a₂, w₂, hq₂, harr₂⟩ := (key m').1 a₁ w₁ hJ
      exact ⟨e₂, a₂, w₂, hq₂, .of_steps (.head step_scope (harr _ hg0)) harr₂⟩
    · obtain ⟨e₂, a₂, w₂, hq₂, harr₂⟩ := (key m').2 a₁ w₁ hJ
      exact ⟨e₂, a₂, w₂, hq₂, .of_steps (.head step_scope (harr _ hg1)) harr₂⟩
  | ret => exact ⟨_, a₁, w₁, hq, .of_steps (.one step_scope) harr⟩
  | panic ch => exact ⟨_, a₁, w₁, hq, .of_steps (.one step_scope) harr⟩
  | outgrown => exact ⟨_, a₁, w₁, hq, .of_steps (.one step_scope) harr⟩

/-- What the loop keeps: the stack is as deep as the expression. -/
def DeepS : Stk → Prop
  | [] => True
  | x :: S => S.length + x.1.n ≤ 80 ∧ DeepS S
def plugS (s : Slt) (S : Stk) (v : Option Tm) : Option Tm := plugO s (S.map (·.1)) v
def costT (S : Stk) : Nat := costS (S.map (·.1))

/-- The memory of an Eval on its way: its answer's box lies at B, itself behind it. -/
structure LoopI (w0 : World) (B : Nat) (sv : Value) (s : Slt) (S : Stk) (v : Option Tm) (W : World) : Prop where
  run : RunP W (B + 1) sv S v
  stk : StkP B W S
  deep : DeepS S
  sol : SolAt B W sv s
  ans : AnsB W B
  bel : Below w0.heap.size w0 W
def DownI (w0 : World) (B : Nat) (sv : Value) (s : Slt) (q : Option Tm) (m : Nat) (b o : Nat) (W : World) : Prop :=
  ∃ S v n e, LoopI w0 B sv s S v W ∧ XP B W n b o e ∧ (∀ x ∈ S, SizeOf.sizeOf e < SizeOf.sizeOf x.1.e) ∧ S.length + n ≤ 80 ∧ q = plugS s S (evalO (n + 1) e s) ∧ m = costE (n + 1) e + costT S
def UpI (w0 : World) (B : Nat) (sv : Value) (s : Slt) (q : Option Tm) (m : Nat) (S : Stk) (v : Option Tm) (W : World) : Prop :=
  LoopI w0 B sv s S v W ∧ VSm v ∧ q = plugS s S v ∧ m = costT S
theorem DeepS.len : ∀ {S : Stk}, DeepS S → S.length ≤ 81
  | [], _ => by simp
  | x :: S, h => by
    have := h.1
    simp only [List.length_cons]
    omega
theorem LoopI.below {w0 W W' : World} {B : Nat} {sv : Value} {s : Slt} {S S' : Stk} {v v' : Option Tm} (h : LoopI w0 B sv s S v W) (hw : w0.heap.size ≤ B) (hb : Below (B + 1) W W') (hr : RunP W' (B + 1) sv S' v') (hS : StkP B W S') (hd : DeepS S') : LoopI w0 B sv s S' v' W' := by
  have hB : Below B W W' := hb.mono (by omega)
  obtain ⟨⟨x, hx⟩, hf⟩ := h.ans
  have ha : AnsB W' B := by
    obtain ⟨h0, h1, h2, h3, h4⟩ := hx
    have c : ∀ j, W'.cell? ⟨B, j, none⟩ = W.cell? ⟨B, j, none⟩ := fun j => hb.cell (p := ⟨B, j, none⟩) (Nat.lt_succ_self B)
    exact ⟨⟨x, Nat.lt_of_lt_of_le h0 hb.size, (c _).trans h1, (c _).trans h2, (c _).trans h3, (c _).trans h4⟩, fun j => (hb.frozen (p := ⟨B, j, none⟩) (Nat.lt_succ_self B)).trans (hf j)⟩
  exact ⟨hr, hS.keep hB, hd, h.sol.keep hB, ha, h.bel.trans (hb.mono (by omega))⟩
theorem StkP.push {B : Nat} {W : World} {S : Stk} {x : Frm} {b o : Nat} (h : StkP B W S) (hx : XP B W x.n b o x.e) (hok : x.Ok) (hf : x.f.Sm) (hs : ∀ y ∈ S, SizeOf.sizeOf x.e < SizeOf.sizeOf y.1.e) (hl : S.length < 100) : StkP B W ((x, b, o) :: S) := by
  refine ⟨fun y hy => ?_, by simp only [List.length_cons]; omega, List.pairwise_cons.2 ⟨hs, h.sub⟩⟩
  rcases List.mem_cons.1 hy with rfl | hy
  · exact ⟨hx, hok, hf⟩
  · exact h.at_ y hy
theorem StkP.tail {B : Nat} {W : World} {S : Stk} {x : Frm × Nat × Nat} (h : StkP B W (x :: S)) : StkP B W S :=
  ⟨fun y hy => h.at_ y (List.mem_cons_of_mem _ hy), by have := h.len; simp only [List.length_cons] at this; omega, (List.pairwise_cons.1 h.sub).2⟩
theorem LoopI.tabs {w0 W : World} {B : Nat} {sv : Value} {s : Slt} {S : Stk} {v : Option Tm} (h : LoopI w0 B sv s S v W) (hw : w0.heap.size ≤ B) (hT : ∀ w1, Below w0.heap.size w0 w1 → Tabs w1) : ∀ w1, Below (B + 1) W w1 → Tabs w1 :=
  fun w1 hb => hT w1 (h.bel.trans (hb.mono (by omega)))
/-- One expression is entered. -/
theorem DownI.calls {w0 : World} {B : Nat} {sv : Value} {s : Slt} {q : Option Tm} {m b o : Nat} {W : World} (h : DownI w0 B sv s q m b o W) (hw : w0.heap.size ≤ B) :
    Calls Tryz.prog 27 #[.pointer (some ⟨B + 1, 0, none⟩), .pointer (some ⟨b, o, none⟩)] W fun e' W' =>
      (e' = .returned (.bool false) ∧ ∃ m' S v, m' ≤ m ∧ UpI w0 B sv s q m' S v W') ∨
      (e' = .returned (.bool true) ∧ ∃ m' kb ko len cap, m' < m ∧ W'.cell? ⟨b, o + 5, none⟩ = some (.slice (some ⟨kb, ko, none⟩) (len + 1) cap) ∧ DownI w0 B sv s q m' kb ko W') := by
  obtain ⟨S, v, n, e, hL, hx, hs, hn, hq, hm⟩ := h
  refine (enter_all B (B + 1) sv s S v n b o e W hL.run (by omega) hL.stk hx hs hL.sol (by omega)).mono ?_
  rintro e' W' ⟨hb, ⟨rfl, hr, hv⟩ | ⟨rfl, hok, hc, hr⟩⟩
  · exact .inl ⟨rfl, costT S, S, _, by omega, hL.below hw hb hr hL.stk hL.deep, hv, hq, rfl⟩
  · have hk0 : 0 < e.kids.length := hok.k
    obtain ⟨kb, ko, kcap, m1, hnm, x5, hkb, hxk, hsz⟩ := hx.kid hk0
    rw [Nat.zero_mul, Nat.add_zero] at hxk
    subst hnm
    have hst : StkP B W ((⟨m1 + 1, e, 0, zeroT⟩, b, o) :: S) := hL.stk.push (x := ⟨m1 + 1, e, 0, zeroT⟩) hx hok zeroT_sm hs (by omega)
    have hc' := cost_push (n := m1 + 1) hk0
    obtain ⟨len, hlen⟩ : ∃ len, e.kids.length = len + 1 := ⟨e.kids.length - 1, by omega⟩
    refine .inr ⟨rfl, costE (m1 + 1) (e.kid 0) + costT ((⟨m1 + 1, e, 0, zeroT⟩, b, o) :: S), kb, ko, len, kcap, ?_, ?_, _, v, m1, e.kid 0, hL.below hw hb hr hst ⟨hn, hL.deep⟩, hxk.keep (hb.mono (by omega)), ?_, ?_, ?_, rfl⟩
    · rw [hm]
      show costE (m1 + 1) (e.kid 0) + (costF ⟨m1 + 1, e, 0, zeroT⟩ + costT S) < _
      omega
    · rw [← hlen, ← x5]
      exact hb.cell (p := ⟨b, o + 5, none⟩) (Nat.lt_succ_of_lt hx.1)
    · intro y hy
      rcases List.mem_cons.1 hy with rfl | hy
      · exact hsz
      · exact Nat.lt_trans hsz (hs y hy)
    · simp only [List.length_cons]; omega
    · rw [hq, hc]; rfl
/-- One that waits is told. -/
theorem UpI.calls {w0 : World} {B : Nat} {sv : Value} {s : Slt} {q : Option Tm} {m : Nat} {S : Stk} {x : Frm × Nat × Nat} {v : Option Tm} {W : World} (h : UpI w0 B sv s q m (x :: S) v W) (hw : w0.heap.size ≤ B) (hT : ∀ w1, Below w0.heap.size w0 w1 → Tabs w1) :
    Calls Tryz.prog 29 #[.pointer (some ⟨B + 1, 0, none⟩)] W fun e' W' =>
      (e' = .returned (.pointer none) ∧ ∃ m' S v, m' < m ∧ UpI w0 B sv s q m' S v W') ∨
      (∃ m' kb ko, e' = .returned (.pointer (some ⟨kb, ko, none⟩)) ∧ m' < m ∧ DownI w0 B sv s q m' kb ko W') := by
  obtain ⟨hL, hv, hq, hm⟩ := h
  obtain ⟨⟨n, e, k, f⟩, b, o⟩ := x
  obtain ⟨hx, hok, hf⟩ := hL.stk.at_ (⟨n, e, k, f⟩, b, o) List.mem_cons_self
  have hd := hL.deep
  have hd1 : S.length + n ≤ 80 := hd.1
  refine (leave_all B (B + 1) sv S v n k e f b o n W hL.run (by omega) (by omega) hx hok hv hf (hL.tabs hw hT)).mono ?_
  rintro e' W' ⟨hb, ⟨h0, rfl, hr⟩ | ⟨h0, kb, ko, m', v', rfl, hnm, hxk, hsz, hr⟩⟩
  · refine .inl ⟨rfl, costT S, S, _, ?_, hL.below hw hb hr hL.stk.tail hd.2, doneV_sm hf hv, ?_, rfl⟩
    · rw [hm]
      have := costF_pos ⟨n, e, k, f⟩
      show costT S < costF ⟨n, e, k, f⟩ + costT S
      omega
    · rw [hq, ← cont_done (s := s) hok h0]; rfl
  · obtain ⟨c1, c2, c3⟩ := cont_next (s := s) hok h0
    subst hnm
    have hst : StkP B W (((⟨m' + 1, e, k, f⟩ : Frm).next v, b, o) :: S) := hL.stk.tail.push (x := (⟨m' + 1, e, k, f⟩ : Frm).next v) hx c3 (nextF_sm hf hv) (fun y hy => (List.pairwise_cons.1 hL.stk.sub).1 y hy) (by omega)
    have hc := cost_next (x := ⟨m' + 1, e, k, f⟩) (v := v) c2 hok.k
    refine .inr ⟨costE (m' + 1) (e.kid (nextK ⟨m' + 1, e, k, f⟩ v)) + costT (((⟨m' + 1, e, k, f⟩ : Frm).next v, b, o) :: S), kb, ko, rfl, ?_, _, v', m', _, hL.below hw hb hr hst ⟨hd1, hd.2⟩, hxk.keep (hb.mono (by omega)), ?_, ?_, ?_, rfl⟩
    · rw [hm]
      show costE (m' + 1) (e.kid (nextK ⟨m' + 1, e, k, f⟩ v)) + (costF ((⟨m' + 1, e, k, f⟩ : Frm).next v) + costT S) < costF ⟨m' + 1, e, k, f⟩ + costT S
      have hc2 : costE (m' + 1) (e.kid (nextK ⟨m' + 1, e, k, f⟩ v)) + costF ((⟨m' + 1, e, k, f⟩ : Frm).next v) < costF ⟨m' + 1, e, k, f⟩ := hc
      omega
    · intro y hy
      rcases List.mem_cons.1 hy with rfl | hy
      · exact hsz
      · exact Nat.lt_trans hsz ((List.pairwise_cons.1 hL.stk.sub).1 y hy)
    · simp only [List.length_cons]; omega
    · rw [hq]
      show plugS s S (contO s ⟨m' + 1, e, k, f⟩ v) = plugS s S (contO s ((⟨m' + 1, e, k, f⟩ : Frm).next v) _)
      rw [c1]
/-- The run's row is as long as what waits. -/
theorem RunP.row {w : World} {r : Nat} {sv : Value} {S : Stk} {v : Option Tm} (h : RunP w r sv S v) : ∃ ao cap, w.cell? ⟨r, 1, none⟩ = some (.slice ao S.length cap) := by
  obtain ⟨way, h1, h2⟩ := h
  obtain ⟨ao, cap, rfl, -⟩ := OwG.form h2
  refine ⟨ao, cap, ?_⟩
  have hl : (S.reverse.map wcOf).length = S.length := by simp
  rw [← hl]
  exact h1.cell 1
theorem eval_new (n : Nat) (e : Exp) (kp sao : Option Addr) (kcap scap : Nat) (s : Slt) (w : World) (hk : KidsP w.heap.size w n (.slice kp e.kids.length kcap) e.kids) (hop : opIn e.op) (htm : e.tm.Sm) (hs : SolAt w.heap.size w (.slice sao s.length scap) s) (hn : n ≤ 80) :
    DownI w (w.heap.size + 1) (.slice sao s.length scap) s (evalO (n + 1) e s) (costE (n + 1) e + costT []) w.heap.size 0
      (((w.alloc (.cells #[.int .i64 e.op, .int .i64 e.tm.k, .string e.tm.s, .string e.tm.l, .string e.tm.t, .slice kp e.kids.length kcap] 28)).alloc (.cells #[.int .i64 0, .string ⟨#[]⟩, .string ⟨#[]⟩, .string ⟨#[]⟩] 25)).alloc
        (.cells #[.slice sao s.length scap, .slice none 0 0, .int .i64 0, .string ⟨#[]⟩, .string ⟨#[]⟩, .string ⟨#[]⟩, .bool false] 68)) := by
  have b1 := (Below.refl w.heap.size w).alloc (Nat.le_refl _) (.cells #[.int .i64 e.op, .int .i64 e.tm.k, .string e.tm.s, .string e.tm.l, .string e.tm.t, .slice kp e.kids.length kcap] 28)
  have x1 := Blk.new w #[.int .i64 e.op, .int .i64 e.tm.k, .string e.tm.s, .string e.tm.l, .string e.tm.t, .slice kp e.kids.length kcap] 28
  have z1 : (w.alloc (.cells #[.int .i64 e.op, .int .i64 e.tm.k, .string e.tm.s, .string e.tm.l, .string e.tm.t, .slice kp e.kids.length kcap] 28)).heap.size = w.heap.size + 1 := by simp
  generalize w.alloc (.cells #[.int .i64 e.op, .int .i64 e.tm.k, .string e.tm.s, .string e.tm.l, .string e.tm.t, .slice kp e.kids.length kcap] 28) = w1 at *
  have b2 := (Below.refl w1.heap.size w1).alloc (Nat.le_refl _) (.cells #[.int .i64 0, .string ⟨#[]⟩, .string ⟨#[]⟩, .string ⟨#[]⟩] 25)
  have x2 := AnsB.new w1 25
  have z2 : (w1.alloc (.cells #[.int .i64 0, .string ⟨#[]⟩, .string ⟨#[]⟩, .string ⟨#[]⟩] 25)).heap.size = w1.heap.size + 1 := by simp
  generalize w1.alloc (.cells #[.int .i64 0, .string ⟨#[]⟩, .string ⟨#[]⟩, .string ⟨#[]⟩] 25) = w2 at *
  have b3 := (Below.refl w2.heap.size w2).alloc (Nat.le_refl _) (.cells #[.slice sao s.length scap, .slice none 0 0, .int .i64 0, .string ⟨#[]⟩, .string ⟨#[]⟩, .string ⟨#[]⟩, .bool false] 68)
  have x3 := Blk.new w2 #[.slice sao s.length scap, .slice none 0 0, .int .i64 0, .string ⟨#[]⟩, .string ⟨#[]⟩, .string ⟨#[]⟩, .bool false] 68
  generalize w2.alloc (.cells #[.slice sao s.length scap, .slice none 0 0, .int .i64 0, .string ⟨#[]⟩, .string ⟨#[]⟩, .string ⟨#[]⟩, .bool false] 68) = w3 at *
  rw [z1] at b2 z2 x2
  rw [z2] at b3 x3
  have b13 : Below w.heap.size w w3 := b1.trans ((b2.mono (by omega)).trans (b3.mono (by omega)))
  have b23 : Below (w.heap.size + 1) w1 w3 := b2.trans (b3.mono (by omega))
  have x1' : Blk w3 w.heap.size #[.int .i64 e.op, .int .i64 e.tm.k, .string e.tm.s, .string e.tm.l, .string e.tm.t, .slice kp e.kids.length kcap] 28 := (b23.block w.heap.size (by omega)).trans x1
  have x2' : AnsB w3 (w.heap.size + 1) := x2.below (by rw [z2]; exact b3)
  have hx : XP (w.heap.size + 1) w3 n w.heap.size 0 e := ⟨by omega, ⟨_, _, x1'⟩, _, ⟨x1'.cell 0, x1'.cell 1, x1'.cell 2, x1'.cell 3, x1'.cell 4, x1'.cell 5⟩, hop, htm, (hk.keep b13).mono (by omega)⟩
  have hsol : SolAt (w.heap.size + 1) w3 (.slice sao s.length scap) s := by
    obtain ⟨h0, ao, cap, h1, h2⟩ := hs.keep b13
    refine ⟨h0, ao, cap, h1, fun i hi => ?_⟩
    obtain ⟨b, o, nm, g1, g2, g3⟩ := h2 i hi
    exact ⟨b, o, nm, g1, by omega, g3⟩
  exact ⟨[], none, n, e, ⟨⟨_, x3, OwG.nil _ _ _ _ _⟩, ⟨fun x hx => absurd hx (by simp), by simp, .nil⟩, trivial, hsol, x2', b13⟩, hx, fun x hx => absurd hx (by simp), by simpa using hn, rfl, rfl⟩
/-- What an Eval leans on at its end. -/
structure RetI (w : World) (sv : Value) (q : Option Tm) (z : World) : Prop where
  run : ∃ way, Blk z (w.heap.size + 1 + 1) (runC sv way (q.getD zeroT) q.isSome) 68
  ans : AnsB z (w.heap.size + 1)
  bel : Below w.heap.size w z
  sm : (q.getD zeroT).Sm
theorem RetI.told {w z : World} {sv : Value} {q : Option Tm} (h : RetI w sv q z) : z.cell? ⟨w.heap.size + 1 + 1, 2, none⟩ = some (.int .i64 (q.getD zeroT).k) ∧ z.cell? ⟨w.heap.size + 1 + 1, 3, none⟩ = some (.string (q.getD zeroT).s) ∧ z.cell? ⟨w.heap.size + 1 + 1, 4, none⟩ = some (.string (q.getD zeroT).l) ∧ z.cell? ⟨w.heap.size + 1 + 1, 5, none⟩ = some (.string (q.getD zeroT).t) ∧ z.cell? ⟨w.heap.size + 1 + 1, 6, none⟩ = some (.bool q.isSome) := by
  obtain ⟨way, h⟩ := h.run
  exact ⟨h.cell 2, h.cell 3, h.cell 4, h.cell 5, h.cell 6⟩
theorem RetI.below {w z z' : World} {sv : Value} {q : Option Tm} (h : RetI w sv q z) (hb : Below z.heap.size z z') : RetI w sv q z' := by
  obtain ⟨way, h1⟩ := h.run
  exact ⟨⟨way, h1.moved (Moved.of_below hb (fun _ => False)) (fun h => h)⟩, h.ans.below hb, h.bel.trans (hb.mono h.bel.size), h.sm⟩
theorem RetI.put {w z : World} {sv : Value} {q : Option Tm} (h : RetI w sv q z) (x : Tm) : RetI w sv q ((((z.setCell ⟨w.heap.size + 1, 0, none⟩ (.int .i64 x.k)).setCell ⟨w.heap.size + 1, 1, none⟩ (.string x.s)).setCell ⟨w.heap.size + 1, 2, none⟩ (.string x.l)).setCell ⟨w.heap.size + 1, 3, none⟩ (.string x.t)) := by
  obtain ⟨way, h1⟩ := h.run
  have hne : w.heap.size + 1 + 1 ≠ w.heap.size + 1 := by omega
  exact ⟨⟨way, (((h1.other _ _ hne).other _ _ hne).other _ _ hne).other _ _ hne⟩, h.ans.put x, (((h.bel.setCell (by simp only []; omega) _).setCell (by simp only []; omega) _).setCell (by simp only []; omega) _).setCell (by simp only []; omega) _, h.sm⟩
theorem eval_end {w W : World} {sv : Value} {s : Slt} {q : Option Tm} {m : Nat} {v : Option Tm} (h : UpI w (w.heap.size + 1) sv s q m [] v W) : RetI w sv q W := by
  obtain ⟨hL, hv, hq, -⟩ := h
  have hq' : q = v := hq
  subst hq'
  obtain ⟨way, h1, -⟩ := hL.run
  exact ⟨⟨way, h1⟩, hL.ans, hL.bel, hv⟩
set_option maxHeartbeats 4000000 in
theorem eval_any (n : Nat) (e : Exp) (kv sv : Value) (s : Slt) (w : World) (hk : KidsP w.heap.size w n kv e.kids) (hop : opIn e.op) (htm : e.tm.Sm) (hs : SolAt w.heap.size w sv s) (hn : n ≤ 80) (hT : ∀ w1, Below w.heap.size w w1 → Tabs w1) :
    Calls Tryz.prog 11 #[.agg #[.int .i64 e.op, .int .i64 e.tm.k, .string e.tm.s, .string e.tm.l, .string e.tm.t, kv], sv] w fun e' w' => e' = .returned (.tuple #[((evalO (n + 1) e s).getD zeroT).val, .bool (evalO (n + 1) e s).isSome]) ∧ Below w.heap.size w w' ∧ VSm (evalO (n + 1) e s) := by
  obtain ⟨q, hq⟩ : ∃ q, q = evalO (n + 1) e s := ⟨_, rfl⟩
  rw [← hq]
  have hs0 := hs
  obtain ⟨-, sao, scap, rfl, -⟩ := hs0
  obtain ⟨-, kp, kcap, rfl⟩ := hk.form
  have HN := Lib.hid (eval_new n e kp sao kcap scap s w hk hop htm hs hn)
  rw [← hq] at HN
  have HQ := Lib.hid hq
  have HT := Lib.hid hT
  clear hk hop htm hs hT hq
  unfold Tm.val
  go_enter Tryz.func11, Tryz.ntmps11
  go_wp2_with fail
  refine wp_scope_mutual (fun (l m : Nat) (a' : Act) (w' : World) => (l = 0 ∧ (fun a' w' => ∃ (b o : Nat), ∃ u : Nat → Value, a' = { tmps := #[u 0, u 1, u 2, u 3, .pointer (some ⟨w.heap.size + 1, 0, none⟩), u 5, .pointer (some ⟨w.heap.size + 1 + 1, 0, none⟩), .pointer (some ⟨b, o, none⟩), u 8, u 9, u 10, u 11, u 12, u 13, u 14, u 15, u 16, u 17, u 18, u 19, u 20, u 21, u 22, u 23, u 24, u 25, u 26, u 27, u 28], defers := [] } ∧ DownI w (w.heap.size + 1) (.slice sao s.length scap) s q m b o w') a' w') ∨ (l = 1 ∧ (fun a' w' => ∃ (S : Stk) (v : Option Tm), ∃ u : Nat → Value, a' = { tmps := #[u 0, u 1, u 2, u 3, .pointer (some ⟨w.heap.size + 1, 0, none⟩), u 5, .pointer (some ⟨w.heap.size + 1 + 1, 0, none⟩), u 7, u 8, u 9, u 10, u 11, u 12, u 13, u 14, u 15, u 16, u 17, u 18, u 19, u 20, u 21, u 22, u 23, u 24, u 25, u 26, u 27, u 28], defers := [] } ∧ UpI w (w.heap.size + 1) (.slice sao s.length scap) s q m S v w') a' w')) rfl rfl ?_ ?_ ?_ (costE (n + 1) e + costT []) ?_
  · rintro l m a wr (⟨h, -⟩ | ⟨h, -⟩)
    · exact .inl h
    · exact .inr h
  · rintro m a w1 (⟨h, -⟩ | ⟨-, S, v, u, rfl, hU⟩)
    · exact absurd h (by decide)
    obtain ⟨ao, cap1, c1⟩ := hU.1.run.row
    cases S with
    | nil =>
      have c1' : w1.cell? ⟨w.heap.size + 1 + 1, 1, none⟩ = some (.slice ao 0 cap1) := c1
      have HR := Lib.hid (eval_end hU)
      have HO := Lib.hid (fun wz => ownTerm_any (q.getD zeroT) HR.out.sm wz)
      unfold Tm.val at HO
      clear c1 hU
      go_upto_region 6 with fail
      refine wp_region_any (by kernel_rfl) ?_
      change wpAny _ _ _ _ _ _ _ (World.drew _)
      refine wpAny_of_held (S := fun z => RetI w (.slice sao s.length scap) q z) _ _ _ _ ?_
      have hS : (fun z => RetI w (.slice sao s.length scap) q z) _ := HR.out.below (below_drew15 _)
      refine wpAnyH_take (i := 0) (oi := ⟨some 21, _, _, _, _, _⟩) (v := ?_) rfl (by kernel_rfl) (by kernel_rfl) (by kernel_rfl) (fun _ _ _ h => h) (Or.inl ⟨by simp only [Region.wanted], ?_⟩) hS ?_
      rotate_left
      · intro wz hSw
        clear hSw
        go_simp
        first | done | with_reducible rfl
      try simp only [Act.put, List.setIfInBounds_toArray, List.set_cons_zero, List.set_cons_succ]
      refine wpAnyH_take (i := 1) (oi := ⟨some 22, _, _, _, _, _⟩) (v := ?_) rfl (by kernel_rfl) (by kernel_rfl) (by kernel_rfl) (fun _ _ _ h => h) (Or.inl ⟨by simp only [Region.wanted], ?_⟩) hS ?_
      rotate_left
      · intro wz hSw; obtain ⟨k2, k3, k4, k5, k6⟩ := hSw.told
        clear hSw
        go_simp
        first | done | with_reducible rfl
      try simp only [Act.put, List.setIfInBounds_toArray, List.set_cons_zero, List.set_cons_succ]
      refine wpAnyH_take (i := 3) (oi := ⟨some 24, _, _, _, _, _⟩) (v := ?_) rfl (by kernel_rfl) (by kernel_rfl) (by kernel_rfl) (fun _ _ _ h => h) (Or.inl ⟨by simp only [Region.wanted], ?_⟩) hS ?_
      rotate_left
      · intro wz hSw
        clear hSw
        go_simp
        first | done | with_reducible rfl
      try simp only [Act.put, List.setIfInBounds_toArray, List.set_cons_zero, List.set_cons_succ]
      refine wpAnyH_take (i := 4) (oi := ⟨some 25, _, _, _, _, _⟩) (v := ?_) rfl (by kernel_rfl) (by kernel_rfl) (by kernel_rfl) (fun _ _ _ h => h) (Or.inl ⟨by simp only [Region.wanted], ?_⟩) hS ?_
      rotate_left
      · intro wz hSw; obtain ⟨k2, k3, k4, k5, k6⟩ := hSw.told
        clear hSw
        go_simp
        first | done | with_reducible rfl
      try simp only [Act.put, List.setIfInBounds_toArray, List.set_cons_zero, List.set_cons_succ]
      refine wpAnyH_ready (rs := [2]) (by kernel_rfl) (by simp) ?_
      refine AllReadyH.cons (o := ⟨some 23, _, _, _, _, _⟩) rfl (fun K hK => ?_) AllReadyH.nil
      go_simp
      refine (HO.out _).mono ?_
      rintro e' wn ⟨rfl, hbn⟩
      have hSn := hS.below hbn
      clear hbn
      go_wp2_with fail
      refine hK.out _ _ (hSn) (fun hS => ?_)
      clear hK K
      try simp only [Act.put, List.setIfInBounds_toArray, List.set_cons_zero, List.set_cons_succ]
      refine wpAnyH_ready (rs := [5]) (by kernel_rfl) (by simp) ?_
      refine AllReadyH.cons (o := ⟨none, _, _, _, _, _⟩) rfl (fun K hK => ?_) AllReadyH.nil
      go_simp
      obtain ⟨⟨xz, -, kz0, kz1, kz2, kz3⟩, fz⟩ := hS.ans
      have fz0 := fz 0
      have fz1 := fz 1
      have fz2 := fz 2
      have fz3 := fz 3
      clear fz
      go_simp
      refine hK.out _ _ (hS.put (q.getD zeroT)) (fun hS => ?_)
      clear hK K
      try simp only [Act.put, List.setIfInBounds_toArray, List.set_cons_zero, List.set_cons_succ]
      refine wpAnyH_take (i := 6) (oi := ⟨some 5, _, _, _, _, _⟩) (v := ?_) rfl (by kernel_rfl) (by kernel_rfl) (by kernel_rfl) (fun _ _ _ h => h) (Or.inl ⟨by simp only [Region.wanted], ?_⟩) hS ?_
      rotate_left
      · intro wz hSw
        clear hSw
        go_simp
        first | done | with_reducible rfl
      try simp only [Act.put, List.setIfInBounds_toArray, List.set_cons_zero, List.set_cons_succ]
      refine wpAnyH_done (by kernel_rfl) ?_ _
      go_wp2_with fail
      repeat rw [Exit.toFro_ret]
      refine bodyPost_ret (v := .tuple #[.agg #[.int .i64 (q.getD zeroT).k, .string (q.getD zeroT).s, .string (q.getD zeroT).l, .string (q.getD zeroT).t], .bool q.isSome]) (by simp [results, Tryz.results11, go_sem, kz0, kz1, kz2, kz3]) rfl ⟨rfl, hS.bel, hS.sm⟩
    | cons x S =>
      have c1' : w1.cell? ⟨w.heap.size + 1 + 1, 1, none⟩ = some (.slice ao (S.length + 1) cap1) := c1
      have hne : (((S.length + 1 : Nat) : Int) == 0) = false := beq_eq_false_iff_ne.2 (by omega)
      clear c1
      go_wp2_with fail
      refine (hU.calls (Nat.le_succ _) HT.out).mono ?_
      rintro e' w2 (⟨rfl, m2, S2, v2, hm2, hU2⟩ | ⟨m2, kb, ko, rfl, hm2, hD2⟩)
      · clear hU c1'
        go_wp2_with fail
        refine wp_goto ?_
        exact ⟨m2, hm2, .inr ⟨rfl, S2, v2, (ex_u24 _ _ (by kernel_rfl) _ hU2)⟩⟩
      · clear hU c1'
        go_wp2_with fail
        refine wp_goto ?_
        exact ⟨m2, hm2, .inl ⟨rfl, kb, ko, (ex_u24 _ _ (by kernel_rfl) _ hD2)⟩⟩
  · intro hp1
    rintro m a wr (⟨-, b, o, u, rfl, hD⟩ | ⟨h, -⟩)
    rotate_left
    · exact absurd h (by decide)
    go_wp2_with fail
    refine (hD.calls (Nat.le_succ _)).mono ?_
    rintro e' w1 (⟨rfl, m1, S, v, hm1, hU⟩ | ⟨rfl, m1, kb, ko, len, cap, hm1, x5, hD1⟩)
    · clear hD
      go_wp2_with fail
      refine wp_label ?_
      rename_i hKc
      refine hKc _ _ ?_
      exact Code.wp_mono (Exit.toFro_le hm1) (hp1 _ _ _ (.inr ⟨by first | rfl | trivial, S, v, (ex_u24 _ _ (by kernel_rfl) _ hU)⟩))
    · clear hD
      have hlen : (0 : Int) < ((len + 1 : Nat) : Int) := by omega
      go_wp2_with fail
      refine wp_goto ?_
      exact ⟨m1, hm1, .inl ⟨rfl, kb, ko, (ex_u24 _ _ (by kernel_rfl) _ hD1)⟩⟩
  intro hfirst
  go_wp2_with fail
  refine wp_label ?_
  rename_i hKc
  refine hKc _ _ ?_
  exact hfirst _ _ _ (.inl ⟨by first | rfl | trivial, w.heap.size, 0, ex_u24 _ _ (by kernel_rfl) _ HN.out⟩)
end Go.Proofs.YtecomfhbdonkbaaGreatDoor
