/- way; changing: at a tree of one leaf. -/
import Derived.Test.YtcnfnpccbnnplaaB5o
namespace Go.Proofs.Ytcnfnpccbnnplaa
open Go.RowKit Go.Maps
set_option maxRecDepth 100000
set_option linter.unusedVariables false

/-- The way to a leaf: one step. -/
def Way1 (w : World) (base : Nat) (root : Int) (es : List Ent) (key : ByteArray) (m g cap : Nat) (v : Value) : Prop :=
  PlaceOf es key m ∧ 1 ≤ cap ∧ cap ≤ 9223372036854775807 ∧ w.ownsRow base 113 4 (.slice (some ⟨g, 0, none⟩) 1 cap) 1 [.int .i64 root, .int .i64 0, v, .int .i64 m] ∧ Owe w base v es

set_option maxHeartbeats 2000000 in
theorem way_leaf {w0 w : World} {X : Nat → Prop} {r p N M c : Nat} {G : Lg} {H : Option Lg} (h : Pb w0 w X r p N M c G H) {root : Int} {es : List Ent} (hn : NodeAt N (H.getD G) root 0 es) (key : ByteArray) :
    Calls Try.prog 93 #[.pointer (some ⟨p, 0, none⟩), .int .i64 root, .string key] w fun e w' => ∃ (m g cap : Nat) (v : Value), e = .returned (.tuple #[.slice (some ⟨g, 0, none⟩) 1 cap, .int .i64 0]) ∧ Way1 w' w.heap.size root es key m g cap v ∧ Below w.heap.size w w' := by
  have hrd := read_node h hn (.inl rfl)
  have HRD := Lib.hid hrd
  have HF := Lib.hid (show es.length ≤ 10000 from Nat.le_trans hn.few (by decide))
  clear hrd h hn
  go_enter Try.func93, Try.ntmps93
  go_wp2_with fail
  refine HRD.out.mono ?_
  rintro en w1 ⟨v, rfl, ho, hb1⟩
  obtain ⟨ao, cap, rfl, -⟩ := ho.form
  obtain ⟨n, hn⟩ : ∃ n, n = es.length := ⟨_, rfl⟩
  rw [← hn] at ho ⊢
  have hal : Below w1.heap.size w1 (w1.alloc (.cells #[.int .i64 root, .int .i64 0, .slice ao n cap] 111)) := (Below.refl _ w1).alloc (Nat.le_refl _) _
  have hdn := down_leaf (.pointer (some ⟨p, 0, none⟩)) root (.slice ao n cap) es key (w1.alloc (.cells #[.int .i64 root, .int .i64 0, .slice ao n cap] 111)) (ho.ens.below hal) HF.out
  have HO := Lib.hid ho
  have HAL := Lib.hid hal
  have HDN := Lib.hid hdn
  have HB1 := Lib.hid (hb1.trans (hal.mono hb1.size))
  unfold nodeV at *
  clear ho hal hdn hb1 hn HRD
  go_wp2_with fail
  refine HDN.out.mono ?_
  rintro en w2 ⟨m, g, cp, rfl, h1, h2, h3, h4, h5⟩
  have HW := Lib.hid (show Way1 w2 w.heap.size root es key m g cp (.slice ao n cap) from ⟨h1, h2, h3, ⟨h4.1, by
      rcases h4.2 with k | ⟨g', cap', cur, e, hg, k⟩
      · exact .inl k
      · exact .inr ⟨g', cap', cur, e, Nat.le_trans HB1.out.size hg, k⟩⟩, (HO.out.below HAL.out).below h5⟩)
  have HB2 := Lib.hid (HB1.out.trans (h5.mono HB1.out.size))
  clear h1 h2 h3 h4 h5 HDN
  go_wp2_with fail
  go_ret2
  exact ⟨m, g, cp, _, rfl, HW.out, HB2.out⟩

set_option maxHeartbeats 2000000 in
theorem changing_leaf {w0 w : World} {X : Nat → Prop} {r p N M c : Nat} {G H : Lg} (h : Pb w0 w X r p N M c G (some H)) {root : Int} {es : List Ent} (hn : NodeAt N H root 0 es) (key : ByteArray) :
    Calls Try.prog 63 #[.pointer (some ⟨p, 0, none⟩), .int .i64 root, .string key] w fun e w' => ∃ (w1 : World) (m g cap : Nat) (v : Value), e = .returned (.tuple #[.slice (some ⟨g, 0, none⟩) 1 cap, .int .i64 0]) ∧ Pb w0 w1 X r p N M c G (some H) ∧ Mx w0 X w w1 ∧ Way1 w' w1.heap.size root es key m g cap v ∧ Below w1.heap.size w1 w' := by
  have HC := Lib.hid (closed_no h)
  have HN := Lib.hid hn
  clear h hn
  go_enter Try.func63, Try.ntmps63
  go_wp2_with fail
  refine HC.out.mono ?_
  rintro en w1 ⟨rfl, h1, hm1⟩
  have HW := Lib.hid (way_leaf h1 (root := root) (es := es) HN.out key)
  have H1 := Lib.hid h1
  have HM1 := Lib.hid hm1
  clear h1 hm1 HC
  go_wp2_with fail
  refine HW.out.mono ?_
  rintro en w2 ⟨m, g, cp, v, rfl, hw, hb⟩
  have HWW := Lib.hid hw
  have HB := Lib.hid hb
  clear hw hb HW
  go_wp2_with fail
  go_ret2
  exact ⟨w1, m, g, cp, v, rfl, H1.out, HM1.out, HWW.out, HB.out⟩
end Go.Proofs.Ytcnfnpccbnnplaa
