/- Reading a page: open, read. -/
import Derived.Test.YtcnfnpccbnnplaaB5d
import Derived.Laws.ResultCell
namespace Go.Proofs.Ytcnfnpccbnnplaa
open Go.RowKit Go.Maps
set_option maxRecDepth 100000
set_option linter.unusedVariables false

theorem results_cell_tmp_row {P : Program} {fn : Func} {p u : Tmp} {ty : TypeId} (h : fn.results = #[.cell p ty, .tmp u]) (tmps : Array Value) (w : World) (g : Nat) (t : TypeId) (cs : Array Value) (fr : Nat × Nat) (d : TypeDesc)
    (hp : tmps.getD p undef = .pointer (some ⟨g, 0, none⟩)) (hg : w.heap[g]? = some (.cells cs t fr))
    (hu : P.underlying ty = some d) (hd : (match d with | .struct _ | .array _ _ => true | _ => false) = true) (hi : (P.info? ty).map (·.size) = some cs.size) :
    (results fn tmps).run P w = .ok (.tuple #[.agg cs, tmps.getD u undef]) w := by
  rw [results_cell_tmp h, hp]
  simp [asAddr, Result.andThen, run_loadVar_row w g t ty cs fr d hg hu hd hi]
theorem results_tmp4 {fn : Func} {t u v x : Tmp} (h : fn.results = #[.tmp t, .tmp u, .tmp v, .tmp x]) (tmps : Array Value) (P : Program) (w : World) :
    (results fn tmps).run P w = .ok (.tuple #[tmps.getD t undef, tmps.getD u undef, tmps.getD v undef, tmps.getD x undef]) w := by
  simp [results, h]

/-- Page i holds the entries es of a node of a level. -/
structure NodeAt (N : Nat) (H : Lg) (i : Int) (lvl : Int) (es : List Ent) : Prop where
  used : lgUsed N H i
  page : H.page i.toNat = page (enc lvl es)
  size : (enc lvl es).length ≤ 504
  low : 0 ≤ lvl
  high : lvl ≤ 11
  few : es.length ≤ 255
  wf : ∀ e ∈ es, EWf lvl e

set_option maxHeartbeats 1000000 in
theorem open_any {w0 w : World} {X : Nat → Prop} {r p N M c : Nat} {G : Lg} {H : Option Lg} (h : Pb w0 w X r p N M c G H) {i lvl : Int} {es : List Ent} (hn : NodeAt N (H.getD G) i lvl es) :
    Calls Try.prog 100 #[.pointer (some ⟨p, 0, none⟩), .int .i64 i] w fun e w' => ∃ rd E zs, e = .returned (.tuple #[.int .i64 lvl, .int .i64 es.length, .pointer (some ⟨rd, 0, none⟩), .int .i64 0]) ∧
      (∀ k, E k → w.heap.size ≤ k ∧ k < w'.heap.size) ∧ Rds E w' rd (encs lvl es ++ zs) 0 ∧ Below w.heap.size w w' := by
  have hg := pb_get i h
  rw [if_pos hn.used, if_pos hn.used, hn.page] at hg
  have hsz := hn.size
  have hlow := hn.low
  have hhigh := hn.high
  have hfew := hn.few
  obtain ⟨n, hn'⟩ : ∃ n, n = es.length := ⟨_, rfl⟩
  rw [← hn'] at hfew ⊢
  obtain ⟨zs, hzs⟩ : ∃ zs, page (enc lvl es) = le lvl 1 ++ (le n 1 ++ (encs lvl es ++ zs)) := ⟨_, by rw [hn']; unfold page enc; simp only [List.append_assoc]; rfl⟩
  have hpl : (page (enc lvl es)).length = 504 := page_length _ hsz
  rw [hzs] at hg hpl
  obtain ⟨L, hL⟩ : ∃ L, L = le lvl 1 ++ (le n 1 ++ (encs lvl es ++ zs)) := ⟨_, rfl⟩
  rw [← hL] at hg hpl
  have HL := Lib.hid hL
  have HG := Lib.hid hg
  have HPL := Lib.hid hpl
  clear h hg hn hn' hzs hL hsz hpl
  go_enter Try.func100, Try.ntmps100
  go_wp2_with fail
  refine HG.out.mono ?_
  rintro e w1 ⟨v, rfl, hv, -, hb1⟩
  obtain ⟨ao, cap, rfl, -⟩ := id hv
  have HV := Lib.hid hv
  have HB1 := Lib.hid hb1
  clear hv hb1 HG
  go_wp2_with fail
  refine (newS_any _ L (by have := HPL.out; omega) _ HV.out).mono ?_
  rintro e w2 ⟨rd, rfl, hr, -, hb2⟩
  obtain ⟨E, hE⟩ : ∃ E : Nat → Prop, E = fun k => w1.heap.size ≤ k ∧ k < w2.heap.size := ⟨_, rfl⟩
  rw [← hE] at hr
  have HE := Lib.hid hE
  have hr' := hr
  rw [HL.out] at hr
  have HR := Lib.hid hr
  have HB2 := Lib.hid (HB1.out.trans (hb2.mono HB1.out.size))
  have HB22 := Lib.hid hb2
  clear hr hr' hb2 hE
  go_wp2_with fail
  refine (rbyteS_any E rd _ 0 _ HR.out).mono ?_
  rintro en w3 ⟨rfl, h3, hg3⟩
  obtain ⟨q1, q2, q3⟩ := took_front (le lvl 1) (le n 1 ++ (encs lvl es ++ zs)) 1 (le_length _ _)
  rw [q1, num_one, show lvl % 256 = lvl by omega]
  rw [q2, q3] at h3
  have H3 := Lib.hid h3
  have HG3 := Lib.hid (grown_moved hg3)
  clear h3 hg3 q1 q2 q3
  go_wp2_with fail
  refine (rbyteS_any E rd _ 0 _ H3.out).mono ?_
  rintro en w4 ⟨rfl, h4, hg4⟩
  obtain ⟨q1, q2, q3⟩ := took_front (le n 1) (encs lvl es ++ zs) 1 (le_length _ _)
  rw [q1, num_one, show (n : Int) % 256 = n by omega]
  rw [q2, q3] at h4
  have H4 := Lib.hid h4
  have HG4 := Lib.hid (HG3.out.trans (grown_moved hg4) (fun j hj => .inl hj))
  clear h4 hg4 q1 q2 q3
  go_wp2_with fail
  refine bodyPost_ret (results_tmp4 rfl _ _ _) rfl ?_
  have hs4 := HG4.out.size
  have hs2 := HB22.out.size
  have hs1 := HB1.out.size
  have hrd : E rd := H4.out.2.1
  refine ⟨rd, E, zs, rfl, fun k hk => ?_, H4.out, ?_⟩
  · rw [HE.out] at hk
    exact ⟨by omega, by omega⟩
  · rw [HE.out] at hrd
    exact HB2.out.trans (HG4.out.below (fun j hj => by omega) HB2.out.size)

/-! ### Rows of entries that are the call's own -/
theorem Try.infoEnt : (Try.prog.info? 117).map (fun i => (i.zero, i.size, i.bytes)) = some (some (.agg #[.string ⟨#[]⟩, .string ⟨#[]⟩, .int .i64 0]), 3, 40) := by kernel_rfl
def Owe (w : World) (base : Nat) (v : Value) (es : List Ent) : Prop := w.ownsRow base 117 3 v es.length (ecells es)
theorem Owe.out {w : World} {base : Nat} {v : Value} {es : List Ent} (h : Owe w base v es) : w.ownsRow base 117 3 v es.length (ecells es) := h
theorem Owe.ens {w : World} {base : Nat} {v : Value} {es : List Ent} (h : Owe w base v es) : Ens w v es := Rw.of_own h.out
theorem Owe.nil (w : World) (base : Nat) : Owe w base (.slice none 0 0) [] := World.ownsRow_nil _ _ _ _
theorem Owe.lt {w : World} {base : Nat} {v : Value} {es : List Ent} (h : Owe w base v es) : ∀ q, v.ownBlock = some q → base ≤ q ∧ q < w.heap.size := h.out.lt
theorem Owe.moved {P : Nat → Prop} {w w' : World} {base : Nat} {v : Value} {es : List Ent} (h : Owe w base v es) (hm : Moved P w w') (hP : ∀ q, v.ownBlock = some q → ¬ P q) : Owe w' base v es := owns_moved h hm hP
theorem Owe.below {w w' : World} {base : Nat} {v : Value} {es : List Ent} (h : Owe w base v es) (hb : Below w.heap.size w w') : Owe w' base v es := h.moved (Moved.of_below hb (fun _ => False)) (fun _ _ h => h)
theorem Owe.mono {w : World} {base base' : Nat} {v : Value} {es : List Ent} (h : Owe w base v es) (hb : base' ≤ base) : Owe w base' v es := by
  obtain ⟨h0, h1⟩ := h
  refine ⟨h0, ?_⟩
  rcases h1 with h1 | ⟨g, cap, cur, rfl, hg, k⟩
  · exact .inl h1
  · exact .inr ⟨g, cap, cur, rfl, Nat.le_trans hb hg, k⟩
theorem Owe.form {w : World} {base : Nat} {v : Value} {es : List Ent} (h : Owe w base v es) : ∃ ao cap, v = .slice ao es.length cap ∧ es.length ≤ cap ∧ cap ≤ 9223372036854775807 := h.ens.form

/-- append(s, l...) -/
theorem run_append_ens (w : World) (ty : TypeId) (base : Nat) (hbase : base ≤ w.heap.size) (v : Value) (es : List Ent) (hown : Owe w base v es) (y : Value) (m : List Ent) (hy : Ens w y m) (hl : es.length + m.length ≤ 1000000) :
    ∃ v' w', (Builtin.append_ #[109, 109] ty #[v, y]).run Try.prog w = .ok v' w' ∧ Owe w' base v' (es ++ m) ∧ w.grownBy w' v.ownBlock := by
  obtain ⟨i0, hi, hz0, hz1, hz2⟩ := info_parts Try.infoEnt
  obtain ⟨h0, ao, cap, rfl, h1, h2, h3, h4⟩ := hy
  cases ao with
  | none =>
    have hc := h3 rfl
    obtain rfl : m = [] := List.eq_nil_of_length_eq_zero (by omega)
    subst hc
    have hrun := run_append_owned_none (P := Try.prog) (w := w) base 109 ty 117 i0 3 Try.underlying109 hi v _ _ hown
    exact ⟨v, w, hrun, by rw [List.append_nil]; exact hown, World.grownBy.refl _ _⟩
  | some ad =>
    obtain ⟨v', w', hr, k1, k2, -⟩ := run_append_own (P := Try.prog) w base 109 ty 117 i0 _ 3 40 Try.underlying109 hi hz0 hz1 hz2 rfl (by decide) v es.length (ecells es) hown ad m.length cap (ecells m) (ecells_length m) (h4 ad rfl) (ecells_one m) (by simp [maxLen]; omega) (by omega) hbase
    refine ⟨v', w', hr, ?_, k2⟩
    unfold Owe
    rw [ecells_append, List.length_append]
    exact k1
theorem wpList_append_ens {w : World} {ops : Array Oper} {rest : List Oper} {o : Oper} {a : Act} {Q : Exit → Act → World → Prop} (hgd : o.guard = none) (s x : Operand)
    (ho : o.op = .call { callee := .builtin .append, args := #[s, x], argTypes := #[109, 109] }) (base : Nat) (hbase : base ≤ w.heap.size)
    (v : Value) (es : List Ent) (hs : a.eval s = v) (hown : Owe w base v es) (y : Value) (m : List Ent) (hx : a.eval x = y) (hy : Ens w y m) (n : Nat) (hn : n = (es ++ m).length) (hl : n ≤ 1000000)
    (h : ∀ ao cap w', Owe w' base (.slice ao n cap) (es ++ m) → w.grownBy w' v.ownBlock → wpList Try.prog ops Q rest (a.put o.dst (.slice ao n cap)) w') :
    wpList Try.prog ops Q (o :: rest) a w := by
  refine wpList_plain hgd fun K hK => ?_
  obtain ⟨v', w', hr, k1, k2⟩ := run_append_ens w o.type base hbase v es hown y m hy (by rw [hn, List.length_append] at hl; exact hl)
  obtain ⟨ao, cap, rfl, -⟩ := k1.form
  subst hn
  unfold Oper.wp execOp
  simp only [ho, resolve, invoke, builtin, Sem.run_bind, Sem.run_pure, Result.andThen_ok, List.map_toArray, List.map_cons, List.map_nil, hs, hx, hr]
  exact hK _ _ (h ao cap w' k1 k2)
theorem Ens.one {w : World} {g : Nat} (e : Ent) (hg : Blk w g #[.string e.key, .string e.val, .int .i64 e.kid] 117) : Ens w (.slice (some ⟨g, 0, none⟩) 1 1) [e] := by
  refine ⟨rfl, some ⟨g, 0, none⟩, 1, rfl, Nat.le_refl _, by simp [maxLen], (fun e => by cases e), fun ad had j u hu => ?_⟩
  cases had
  rw [Addr.add_lit, Nat.zero_add, hg.cell]
  simpa [ecells, Ent.cells] using hu
end Go.Proofs.Ytcnfnpccbnnplaa
