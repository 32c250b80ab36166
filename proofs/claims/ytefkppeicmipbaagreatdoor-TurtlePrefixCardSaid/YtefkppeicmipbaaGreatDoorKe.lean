/- References: a path's first step. -/
import Derived.Test.YtefkppeicmipbaaGreatDoorKd
import Derived.Laws.ResultCell
import Derived.Laws.Rows
namespace Go.Proofs.YtefkppeicmipbaaGreatDoor
open Go.RowKit Go.Shelf
set_option maxRecDepth 100000
set_option linter.unusedVariables false
theorem results_cell_tmp_rowK {P : Program} {fn : Func} {p u : Tmp} {ty : TypeId} (h : fn.results = #[.cell p ty, .tmp u]) (tmps : Array Value) (w : World) (g : Nat) (t : TypeId) (cs : Array Value) (fr : Nat × Nat) (d : TypeDesc)
    (hp : tmps.getD p undef = .pointer (some ⟨g, 0, none⟩)) (hg : w.heap[g]? = some (.cells cs t fr))
    (hu : P.underlying ty = some d) (hd : (match d with | .struct _ | .array _ _ => true | _ => false) = true) (hi : (P.info? ty).map (·.size) = some cs.size) :
    (results fn tmps).run P w = .ok (.tuple #[.agg cs, tmps.getD u undef]) w := by
  rw [Array.getD_eq_getD_getElem?] at hp
  unfold results
  rw [h]
  simp [asAddr, Result.andThen, hp, run_loadVar_row w g t ty cs fr d hg hu hd hi]
theorem anyAt_one (s : ByteArray) (c : UInt8) (hc : c.toNat < 128) : AnyAt s ⟨#[c]⟩ := fun w =>
  (Any.strings_IndexAny_one Tryz.lays153 s ⟨#[c]⟩ w rfl (fun j b hj => by
    have := List.mem_of_getElem? hj
    rw [List.mem_singleton.1 this]; exact hc)).mono fun e w' ⟨h1, h2⟩ => ⟨h1, h2 ▸ Below.refl _ _⟩
/-- The first step of a path, and what is behind it. -/
def NextTo (l : List UInt8) (w0 : World) (e : Ending) (w' : World) : Prop :=
  e = .returned (.tuple #[.agg #[.string ⟨(l.take (l.length - (Lib.trimPrefix l [47]).length)).toArray⟩, .string ⟨(frontL [47] (Lib.trimPrefix l [47])).toArray⟩], .string ⟨(restL [47] (Lib.trimPrefix l [47])).toArray⟩]) ∧ Below w0.heap.size w0 w'
set_option maxHeartbeats 4000000 in
theorem inext_any (s : ByteArray) (hs : s.size ≤ 1000000) (w : World) : Calls Tryz.prog 113 #[.string s] w (NextTo s.data.toList w) := by
  obtain ⟨l, hl⟩ : ∃ l, l = s.data.toList := ⟨_, rfl⟩
  have HT := Lib.hid (fun w => strimp_anyK s ⟨#[47]⟩ w)
  have htl := trim_le s.data.toList
  rw [← Lib.size_eq, ← hl] at htl
  rw [← hl] at HT ⊢
  dsimp only at HT
  obtain ⟨n, hn⟩ : ∃ n, n = Lib.trimPrefix l [47] := ⟨_, rfl⟩
  unfold NextTo
  rw [← hn] at HT htl ⊢
  obtain ⟨nb, hnb⟩ : ∃ nb : ByteArray, nb = ⟨n.toArray⟩ := ⟨_, rfl⟩
  have hnl : nb.data.toList = n := by rw [hnb]
  have hnz : nb.size = n.length := by rw [Lib.size_eq, hnl]
  rw [← hnb] at HT
  have HU := Lib.hid (fun w => until_any nb ⟨#[47]⟩ (by omega) (anyAt_one nb 47 (by decide)) w)
  rw [hnl] at HU
  dsimp only at HU
  obtain ⟨a, ha⟩ : ∃ a : ByteArray, a = ⟨(l.take (l.length - n.length)).toArray⟩ := ⟨_, rfl⟩
  obtain ⟨f, hf⟩ : ∃ f : ByteArray, f = ⟨(frontL [47] n).toArray⟩ := ⟨_, rfl⟩
  obtain ⟨r, hr⟩ : ∃ r : ByteArray, r = ⟨(restL [47] n).toArray⟩ := ⟨_, rfl⟩
  have hex : s.extract 0 (s.size - nb.size) = a := by
    rw [ha]; apply ba_extK
    rw [← Lib.toList_data, Lib.extract_toList, ← hl, List.drop_zero, hnz, Lib.size_eq, ← hl, Nat.sub_zero]
  rw [← ha, ← hf, ← hr]
  rw [← hf, ← hr] at HU
  have hle : (nb.size : Int) ≤ s.size := by omega
  have hsi : (s.size : Int) ≤ 1000000 := by omega
  clear ha hf hr hnb hnl hn hl htl hnz
  have hal : Below w.heap.size w (w.alloc (.cells #[.string ⟨#[]⟩, .string ⟨#[]⟩] 127)) := (Below.refl _ _).alloc (Nat.le_refl _) _
  have hb1 := Blk.new w #[.string ⟨#[]⟩, .string ⟨#[]⟩] 127
  go_enter Tryz.func113, Tryz.ntmps113
  go_wp2_with fail
  generalize w.alloc _ = w1 at hal hb1 ⊢
  refine (HT.out _).mono ?_
  rintro e w2 ⟨rfl, hw⟩
  obtain rfl := hw.symm
  have z0 := hb1.cell 0
  have z1 := hb1.cell 1
  have y0 := hb1.frozen 0
  have y1 := hb1.frozen 1
  simp only [List.getElem?_toArray, List.getElem?_cons_zero, List.getElem?_cons_succ] at z0 z1
  go_wp2_with fail
  have hB2 := hb1.set 0 (.string a)
  simp only [List.setIfInBounds_toArray, List.set_cons_zero] at hB2
  have hbel2 := hal.setCell (p := ⟨w.heap.size, 0, none⟩) (Nat.le_refl _) (.string a)
  generalize w1.setCell ⟨w.heap.size, 0, none⟩ (.string a) = w2 at hB2 hbel2 ⊢
  clear hb1 hal z0 z1 y0 y1
  refine (HU.out _).mono ?_
  rintro e w3 ⟨rfl, hb3⟩
  have hB3 : Blk w3 w.heap.size _ _ := (hb3.block _ hB2.lt).trans hB2
  have hbel3 := hbel2.trans (hb3.mono hbel2.size)
  clear hb3 hB2 hbel2
  have z0 := hB3.cell 0
  have z1 := hB3.cell 1
  have y0 := hB3.frozen 0
  have y1 := hB3.frozen 1
  simp only [List.getElem?_toArray, List.getElem?_cons_zero, List.getElem?_cons_succ] at z0 z1
  go_wp2_with fail
  have hB4 := ((hB3.set 1 (.string f)).set 0 (.string a)).set 1 (.string f)
  simp only [List.setIfInBounds_toArray, List.set_cons_zero, List.set_cons_succ] at hB4
  have hbel4 := ((hbel3.setCell (p := ⟨w.heap.size, 1, none⟩) (Nat.le_refl _) (.string f)).setCell (p := ⟨w.heap.size, 0, none⟩) (Nat.le_refl _) (.string a)).setCell (p := ⟨w.heap.size, 1, none⟩) (Nat.le_refl _) (.string f)
  refine bodyPost_ret (results_cell_tmp_rowK (p := 2) (u := 3) (ty := 127) (by kernel_rfl) _ _ (w.heap.size) _ _ _ _ rfl hB4 Tryz.underlying127 rfl (by kernel_rfl)) rfl ?_
  exact ⟨rfl, hbel4⟩
end Go.Proofs.YtefkppeicmipbaaGreatDoor
