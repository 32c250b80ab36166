/- settle, Set: at a tree of one leaf that stays one. -/
import Derived.Test.YtcnfnpccbnnplaaB5p
namespace Go.Proofs.Ytcnfnpccbnnplaa
open Go.RowKit Go.Maps
set_option maxRecDepth 100000
set_option linter.unusedVariables false

theorem sizes_cons (lvl : Int) (e : Ent) (es : List Ent) : sizes lvl (e :: es) = esize lvl e + sizes lvl es := by unfold sizes; simp
theorem sizes_append (lvl : Int) (a b : List Ent) : sizes lvl (a ++ b) = sizes lvl a + sizes lvl b := by unfold sizes; simp
theorem pstate_one {lvl most : Int} {es : List Ent} (h : (sizes lvl es : Int) ≤ most) : pstate lvl most es = ([], es) := by
  revert h
  refine snoc_ind (P := fun es => (sizes lvl es : Int) ≤ most → pstate lvl most es = ([], es)) (fun _ => rfl) (fun l x ih h => ?_) es
  rw [sizes_snoc] at h
  rw [pstate_snoc, ih (by omega)]
  unfold pstep
  rw [if_neg (fun k => by have := k.2; simp only at this; omega)]
theorem parted_one {lvl most : Int} {es : List Ent} (h : (sizes lvl es : Int) ≤ most) : partedOf lvl most es = [es] := by
  unfold partedOf
  rw [pstate_one h]; rfl
theorem even_one {lvl : Int} {es : List Ent} {ls : List (List Ent)} (h : sizes lvl es ≤ 502) (he : EvenOf lvl es ls) : ls = [es] := by
  obtain ⟨m, -, e1, e2, -⟩ := he
  rw [parted_one (most := 502) (by omega)] at e2
  have hf : ls.flatten = es := by rw [e1]; exact partedOf_flatten _ _ _
  match ls, e2 with
  | [l], _ => simp at hf; rw [hf]
/-- An entry of a leaf. -/
def LeafE (e : Ent) : Prop := e.kid = 0 ∧ e.key.size ≤ 255 ∧ e.val.size ≤ 60000
theorem encE_leaf_len {e : Ent} (h : LeafE e) : (encE 0 e).length = esize 0 e := by
  unfold encE esize
  rw [if_neg (by decide), if_neg (by decide), List.length_append, le_length, tx_length, ByteArray.size_append]
  obtain ⟨-, h2, h3⟩ := h
  omega
theorem encs_leaf_len {es : List Ent} (h : ∀ e ∈ es, LeafE e) : (encs 0 es).length = sizes 0 es := by
  induction es with
  | nil => rfl
  | cons e t ih =>
    rw [sizes_cons, ← ih (fun x hx => h x (List.mem_cons_of_mem _ hx)), ← encE_leaf_len (h e (List.mem_cons_self ..)), show encs 0 (e :: t) = encE 0 e ++ encs 0 t from rfl, List.length_append]
theorem LeafE.ok {e : Ent} (h : LeafE e) : EntOk e := by obtain ⟨-, h2, h3⟩ := h; exact ⟨by omega, by omega⟩
theorem leaf_few {es : List Ent} (h : sizes 0 es ≤ 502) : es.length ≤ 167 := by
  have : es.length * 3 ≤ sizes 0 es := by
    clear h
    induction es with
    | nil => exact Nat.le_refl _
    | cons e t ih =>
      rw [sizes_cons, List.length_cons]
      have : 3 ≤ esize 0 e := by unfold esize; rw [if_neg (by decide)]; omega
      omega
  omega
theorem leaf_part {es : List Ent} (h : ∀ e ∈ es, LeafE e) (hs : sizes 0 es ≤ 502) : PartOk 0 es := by
  refine ⟨fun e he => (h e he).ok, ?_, fun k => ?_, by have := leaf_few hs; omega⟩
  · unfold enc
    rw [List.length_append, List.length_append, le_length, le_length, encs_leaf_len h]
    omega
  · rw [encs_leaf_len (fun e he => h e (List.mem_of_mem_take he))]
    have : sizes 0 es = sizes 0 (es.take k) + sizes 0 (es.drop k) := by rw [← sizes_append, List.take_append_drop]
    omega
theorem leaf_node {N : Nat} {H : Lg} {i : Int} {es : List Ent} (hu : lgUsed N H i) (hp : H.page i.toNat = page (enc 0 es)) (h : ∀ e ∈ es, LeafE e) (hs : sizes 0 es ≤ 502) : NodeAt N H i 0 es :=
  ⟨hu, hp, (leaf_part h hs).size, by decide, by decide, by have := leaf_few hs; omega, fun e he => by unfold EWf; rw [if_neg (by decide)]; exact h e he⟩

set_option maxHeartbeats 2000000 in
theorem settle_leaf {w0 w : World} {X : Nat → Prop} {r p N M c : Nat} {G H : Lg} (h : Pb w0 w X r p N M c G (some H)) (root : Int) (g cap : Nat) (v : Value) (es : List Ent) (c0 : w.cell? ⟨g, 0, none⟩ = some (.int .i64 root)) (c1 : w.cell? ⟨g, 1, none⟩ = some (.int .i64 0)) (c2 : w.cell? ⟨g, 2, none⟩ = some v)
    (hes : Ens w v es) (hv : ∀ g, v.ownBlock = some g → g < w0.heap.size ∨ X g) (hl : ∀ e ∈ es, LeafE e) (hs : sizes 0 es ≤ 502) (hus : lgUsed N H root) (hwf : (Lit.int .i64 root).wf = true) (hcap : 1 ≤ cap) (hc : c + 200000 < 500000) :
    Calls Try.prog 66 #[.pointer (some ⟨p, 0, none⟩), .slice (some ⟨g, 0, none⟩) 1 cap] w fun e w' => ∃ c', e = .returned (.tuple #[.int .i64 root, .int .i64 0]) ∧ c' ≤ c + 200000 ∧ Pb w0 w' X r p N M c' G (some { H with page := upd H.page root.toNat (page (enc 0 es)) }) ∧ Mx w0 X w w' := by
  have ht := top_one h root 0 v es hes hv (by have := leaf_few hs; omega) (fun e he => (hl e he).ok) (.inl rfl) (by decide) (by decide) hus hwf (fun ls he => by
      rw [even_one hs he]
      exact ⟨by simp, fun l hl' => by simp at hl'; subst hl'; exact leaf_part hl hs⟩) (fun ls he => by rw [even_one hs he]; rfl) hc
  obtain ⟨ao, cp, rfl, -⟩ := hes.form
  obtain ⟨n, hn⟩ : ∃ n, n = es.length := ⟨_, rfl⟩
  rw [← hn] at c2 ht
  have HT := Lib.hid ht
  have HS := Lib.hid hs
  unfold nodeV at HT
  clear h hes hv hl hus hwf ht hn hs
  go_enter Try.func66, Try.ntmps66
  go_wp2_with fail
  go_step3
  go_wp2_with fail
  go_step3
  go_wp2_with fail
  refine HT.out.mono ?_
  rintro en w1 ⟨ls, c', hls, rfl, hc', hp, hm⟩
  have e1 : layH 0 [root] ls H 1 = { H with page := upd H.page root.toNat (page (enc 0 es)) } := by
    rw [even_one HS.out hls, show (1 : Nat) = 0 + 1 from rfl, layH_put (show 0 < 1 by decide), layH_zero]
    rfl
  rw [e1] at hp
  have HP := Lib.hid hp
  have HM := Lib.hid hm
  clear hls hp hm e1 HT
  go_wp2_with fail
  repeat rw [Exit.noGoto_ret]
  go_ret2
  exact ⟨c', rfl, hc', HP.out, HM.out⟩
end Go.Proofs.Ytcnfnpccbnnplaa
