/- Package value's laws: ValueLogic. -/
import Derived.Test.YtecomfhbdonkbaaGreatDoorCc
namespace Go.Proofs.YtecomfhbdonkbaaGreatDoor
open Go.RowKit Go.Shelf Flo
set_option maxRecDepth 100000
set_option linter.unusedVariables false
set_option linter.unusedSimpArgs false

/-- true, false, and what is an error. -/
def logT (i : Nat) : Tm := if i = 0 then boolT true else if i = 1 then boolT false else mkT 4 [110, 111, 110, 101] [] []
theorem logT_sm (i : Nat) : (logT i).Sm := by
  unfold logT
  split
  · exact boolT_sm _
  split
  · exact boolT_sm _
  · exact mkT_sm (by decide) (by decide) (by decide) (by decide)
def orN (i k : Nat) : Int := ([[1, 1, 1], [1, 0, 2], [1, 2, 2]].getD i []).getD k 0
def andN (i k : Nat) : Int := ([[1, 0, 2], [0, 0, 0], [2, 0, 2]].getD i []).getD k 0
def notN (i : Nat) : Int := [0, 1, 2].getD i 0
theorem or_table : ∀ i, i < 3 → ∀ k, k < 3 → tellN (evalO 2 (.mk 2 zeroT [ofT (logT i), ofT (logT k)]) []) = orN i k := by decide +kernel
theorem and_table : ∀ i, i < 3 → ∀ k, k < 3 → tellN (evalO 2 (.mk 3 zeroT [ofT (logT i), ofT (logT k)]) []) = andN i k := by decide +kernel
theorem not_table : ∀ i, i < 3 → tellN (evalO 2 (.mk 4 zeroT [ofT (logT i)]) []) = notN i := by decide +kernel
/-- Whatever is reckoned of small terms is small. -/
theorem eval_two_sm (op : Int) (a b : Tm) (ha : a.Sm) (hb : b.Sm) (hop : op = 2 ∨ op = 3 ∨ op = 11 ∨ op = 12 ∨ op = 13) (h4 : a.k ≠ 4) (h4b : b.k ≠ 4) : True := trivial
def expC (l : List Tm) : Array Value := (l.flatMap (fun a => [.int .i64 1, .int .i64 a.k, .string a.s, .string a.l, .string a.t, .slice none 0 0])).toArray
/-- The memory of ValueLogic: three expressions, three tables; rows of Kids. -/
structure LogK (w : World) (g h : Nat) (PS : List (Value × List Exp)) (v : World) : Prop where
  bel : Below w.heap.size w v
  l : Blk v g #[.int .i64 1, .int .i64 3, .string ⟨#[116, 114, 117, 101]⟩, .string ⟨#[]⟩, .string ⟨#[104, 116, 116, 112, 58, 47, 47, 119, 119, 119, 46, 119, 51, 46, 111, 114, 103, 47, 50, 48, 48, 49, 47, 88, 77, 76, 83, 99, 104, 101, 109, 97, 35, 98, 111, 111, 108, 101, 97, 110]⟩, .slice none 0 0, .int .i64 1, .int .i64 3, .string ⟨#[102, 97, 108, 115, 101]⟩, .string ⟨#[]⟩, .string ⟨#[104, 116, 116, 112, 58, 47, 47, 119, 119, 119, 46, 119, 51, 46, 111, 114, 103, 47, 50, 48, 48, 49, 47, 88, 77, 76, 83, 99, 104, 101, 109, 97, 35, 98, 111, 111, 108, 101, 97, 110]⟩, .slice none 0 0, .int .i64 1, .int .i64 4, .string ⟨#[110, 111, 110, 101]⟩, .string ⟨#[]⟩, .string ⟨#[]⟩, .slice none 0 0] 28
  o : Blk v h #[.int .i64 1, .int .i64 1, .int .i64 1, .int .i64 1, .int .i64 0, .int .i64 2, .int .i64 1, .int .i64 2, .int .i64 2] 39
  a : Blk v (h + 1) #[.int .i64 1, .int .i64 0, .int .i64 2, .int .i64 0, .int .i64 0, .int .i64 0, .int .i64 2, .int .i64 0, .int .i64 2] 39
  n : Blk v (h + 1 + 1) #[.int .i64 0, .int .i64 1, .int .i64 2] 38
  kids : ∀ p ∈ PS, KidsP v.heap.size v 1 p.1 p.2
theorem Blk.below' {w w' : World} {b : Nat} {cur : Array Value} {t : TypeId} (h : Blk w b cur t) (hb : Below w.heap.size w w') : Blk w' b cur t := h.moved (Moved.of_below hb (fun _ => False)) (fun h => h)
theorem LogK.below {w v v' : World} {g a8 : Nat} {PS : List (Value × List Exp)} (h : LogK w g a8 PS v) (hb : Below v.heap.size v v') : LogK w g a8 PS v' :=
  ⟨h.bel.trans (hb.mono h.bel.size), h.l.below' hb, h.o.below' hb, h.a.below' hb, h.n.below' hb, fun p hp => ((h.kids p hp).keep hb).mono hb.size⟩
theorem LogK.add {w v : World} {g a8 : Nat} {PS : List (Value × List Exp)} (h : LogK w g a8 PS v) {p : Value × List Exp} (hp : KidsP v.heap.size v 1 p.1 p.2) : LogK w g a8 (p :: PS) v :=
  ⟨h.bel, h.l, h.o, h.a, h.n, fun x hx => by
    rcases List.mem_cons.1 hx with rfl | hx
    · exact hp
    · exact h.kids x hx⟩
theorem LogK.tail {w v : World} {g a8 : Nat} {PS : List (Value × List Exp)} {p : Value × List Exp} (h : LogK w g a8 (p :: PS) v) : LogK w g a8 PS v :=
  ⟨h.bel, h.l, h.o, h.a, h.n, fun x hx => h.kids x (List.mem_cons_of_mem _ hx)⟩
theorem LogK.new {w wl : World} {g : Nat} (hb : Below w.heap.size w wl) (hl : Blk wl g #[.int .i64 1, .int .i64 3, .string ⟨#[116, 114, 117, 101]⟩, .string ⟨#[]⟩, .string ⟨#[104, 116, 116, 112, 58, 47, 47, 119, 119, 119, 46, 119, 51, 46, 111, 114, 103, 47, 50, 48, 48, 49, 47, 88, 77, 76, 83, 99, 104, 101, 109, 97, 35, 98, 111, 111, 108, 101, 97, 110]⟩, .slice none 0 0, .int .i64 1, .int .i64 3, .string ⟨#[102, 97, 108, 115, 101]⟩, .string ⟨#[]⟩, .string ⟨#[104, 116, 116, 112, 58, 47, 47, 119, 119, 119, 46, 119, 51, 46, 111, 114, 103, 47, 50, 48, 48, 49, 47, 88, 77, 76, 83, 99, 104, 101, 109, 97, 35, 98, 111, 111, 108, 101, 97, 110]⟩, .slice none 0 0, .int .i64 1, .int .i64 4, .string ⟨#[110, 111, 110, 101]⟩, .string ⟨#[]⟩, .string ⟨#[]⟩, .slice none 0 0] 28) : LogK w g wl.heap.size [] (((wl.alloc (.cells #[.int .i64 1, .int .i64 1, .int .i64 1, .int .i64 1, .int .i64 0, .int .i64 2, .int .i64 1, .int .i64 2, .int .i64 2] 39)).alloc (.cells #[.int .i64 1, .int .i64 0, .int .i64 2, .int .i64 0, .int .i64 0, .int .i64 0, .int .i64 2, .int .i64 0, .int .i64 2] 39)).alloc (.cells #[.int .i64 0, .int .i64 1, .int .i64 2] 38)) := by
  have b1 := (Below.refl wl.heap.size wl).alloc (Nat.le_refl _) (.cells #[.int .i64 1, .int .i64 1, .int .i64 1, .int .i64 1, .int .i64 0, .int .i64 2, .int .i64 1, .int .i64 2, .int .i64 2] 39)
  have x1 := Blk.new wl #[.int .i64 1, .int .i64 1, .int .i64 1, .int .i64 1, .int .i64 0, .int .i64 2, .int .i64 1, .int .i64 2, .int .i64 2] 39
  have z1 : (wl.alloc (.cells #[.int .i64 1, .int .i64 1, .int .i64 1, .int .i64 1, .int .i64 0, .int .i64 2, .int .i64 1, .int .i64 2, .int .i64 2] 39)).heap.size = wl.heap.size + 1 := by simp
  generalize wl.alloc (.cells #[.int .i64 1, .int .i64 1, .int .i64 1, .int .i64 1, .int .i64 0, .int .i64 2, .int .i64 1, .int .i64 2, .int .i64 2] 39) = w1 at *
  have b2 := (Below.refl w1.heap.size w1).alloc (Nat.le_refl _) (.cells #[.int .i64 1, .int .i64 0, .int .i64 2, .int .i64 0, .int .i64 0, .int .i64 0, .int .i64 2, .int .i64 0, .int .i64 2] 39)
  have x2 := Blk.new w1 #[.int .i64 1, .int .i64 0, .int .i64 2, .int .i64 0, .int .i64 0, .int .i64 0, .int .i64 2, .int .i64 0, .int .i64 2] 39
  have z2 : (w1.alloc (.cells #[.int .i64 1, .int .i64 0, .int .i64 2, .int .i64 0, .int .i64 0, .int .i64 0, .int .i64 2, .int .i64 0, .int .i64 2] 39)).heap.size = w1.heap.size + 1 := by simp
  generalize w1.alloc (.cells #[.int .i64 1, .int .i64 0, .int .i64 2, .int .i64 0, .int .i64 0, .int .i64 0, .int .i64 2, .int .i64 0, .int .i64 2] 39) = w2 at *
  have b3 := (Below.refl w2.heap.size w2).alloc (Nat.le_refl _) (.cells #[.int .i64 0, .int .i64 1, .int .i64 2] 38)
  have x3 := Blk.new w2 #[.int .i64 0, .int .i64 1, .int .i64 2] 38
  generalize w2.alloc (.cells #[.int .i64 0, .int .i64 1, .int .i64 2] 38) = w3 at *
  have b13 : Below wl.heap.size wl w3 := b1.trans ((b2.mono (by omega)).trans (b3.mono (by omega)))
  rw [z1] at x2 z2
  rw [z2] at x3
  exact ⟨hb.trans (b13.mono hb.size), hl.below' b13, (x1.below' b2).below' b3, x2.below' b3, x3, fun p hp => absurd hp (by simp)⟩
theorem three {i : Nat} (h : i < 3) : i = 0 ∨ i = 1 ∨ i = 2 := by omega
theorem LogK.at_ {w v : World} {g a8 : Nat} {PS : List (Value × List Exp)} (h : LogK w g a8 PS v) {i : Nat} (hi : i < 3) : v.cell? ⟨g, i * 6, none⟩ = some (.int .i64 1) ∧ v.cell? ⟨g, i * 6 + 1, none⟩ = some (.int .i64 (logT i).k) ∧ v.cell? ⟨g, i * 6 + 2, none⟩ = some (.string (logT i).s) ∧ v.cell? ⟨g, i * 6 + 3, none⟩ = some (.string (logT i).l) ∧ v.cell? ⟨g, i * 6 + 4, none⟩ = some (.string (logT i).t) ∧ v.cell? ⟨g, i * 6 + 5, none⟩ = some (.slice none 0 0) := by
  rcases three hi with rfl | rfl | rfl
  · exact ⟨h.l.cell 0, h.l.cell 1, h.l.cell 2, h.l.cell 3, h.l.cell 4, h.l.cell 5⟩
  · exact ⟨h.l.cell 6, h.l.cell 7, h.l.cell 8, h.l.cell 9, h.l.cell 10, h.l.cell 11⟩
  · exact ⟨h.l.cell 12, h.l.cell 13, h.l.cell 14, h.l.cell 15, h.l.cell 16, h.l.cell 17⟩
theorem LogK.or_ {w v : World} {g a8 : Nat} {PS : List (Value × List Exp)} (h : LogK w g a8 PS v) {i k : Nat} (hi : i < 3) (hk : k < 3) : v.cell? ⟨a8, i * 3 + k, none⟩ = some (.int .i64 (orN i k)) := by
  rcases three hi with rfl | rfl | rfl <;> rcases three hk with rfl | rfl | rfl <;> exact h.o.cell _
theorem LogK.and_ {w v : World} {g a8 : Nat} {PS : List (Value × List Exp)} (h : LogK w g a8 PS v) {i k : Nat} (hi : i < 3) (hk : k < 3) : v.cell? ⟨a8 + 1, i * 3 + k, none⟩ = some (.int .i64 (andN i k)) := by
  rcases three hi with rfl | rfl | rfl <;> rcases three hk with rfl | rfl | rfl <;> exact h.a.cell _
theorem LogK.not_ {w v : World} {g a8 : Nat} {PS : List (Value × List Exp)} (h : LogK w g a8 PS v) {i : Nat} (hi : i < 3) : v.cell? ⟨a8 + 1 + 1, i, none⟩ = some (.int .i64 (notN i)) := by
  rcases three hi with rfl | rfl | rfl <;> exact h.n.cell _
theorem rest3 (a : Int) : ∃ i : Nat, a % 3 = (i : Int) ∧ i < 3 := ⟨(a % 3).toNat, by omega, by omega⟩
/-- A region that is walked under a stronger condition. -/
theorem wpAnyH_mono {P : Program} {ops : Array Oper} {Q : Exit → Act → World → Prop} {md : Region.Mode} {S S' : World → Prop} (hS : ∀ w, S' w → S w) :
    ∀ (fuel : Nat) (listed : Array Bool) (a : Act) (w : World), wpAnyH P md ops Q S' fuel listed a w → wpAnyH P md ops Q S fuel listed a w
  | 0, _, _, _, h => h
  | fuel + 1, _, _, _, h => ⟨h.1, fun i hi => wpOp_mono (fun a' w' h' => ⟨hS _ h'.1, wpAnyH_mono hS fuel _ a' w' h'.2⟩) (h.2 i hi)⟩

set_option maxHeartbeats 8000000 in
theorem logic15_walk (a b : Int) (w : World) (ha : In64 a) (hb : In64 b) (hT : Tabs w) : Calls Tryz.prog 4 #[.int .i64 a, .int .i64 b] w fun e w' => e = .returned (.bool true) ∧ Below w.heap.size w w' := by
  obtain ⟨i, hia, hi⟩ := rest3 a
  obtain ⟨k, hkb, hk⟩ := rest3 b
  have HKN := Lib.hid (known15_any w hT.pow)
  have HU := Lib.hid (fun s t w => num15_any s t w)
  have HIA := Lib.hid (fun w => within15_any a 3 w (by decide) (by decide) ha.1 ha.2)
  have HIB := Lib.hid (fun w => within15_any b 3 w (by decide) (by decide) hb.1 hb.2)
  rw [hia] at HIA
  rw [hkb] at HIB
  have HI3 := Lib.hid hi
  have HK3 := Lib.hid hk
  obtain ⟨N2, hN2⟩ : ∃ N, N = orN i k := ⟨_, rfl⟩
  obtain ⟨N3, hN3⟩ : ∃ N, N = andN i k := ⟨_, rfl⟩
  obtain ⟨N4, hN4⟩ : ∃ N, N = notN i := ⟨_, rfl⟩
  have HOR := Lib.hid hN2.symm
  have HAND := Lib.hid hN3.symm
  have HNOT := Lib.hid hN4.symm
  have HT2 : Hid (∀ z kv, Below w.heap.size w z → KidsP z.heap.size z 1 kv [ofT (logT i), ofT (logT k)] → Calls Tryz.prog 15 #[.agg #[.int .i64 2, .int .i64 0, .string ⟨#[]⟩, .string ⟨#[]⟩, .string ⟨#[]⟩, kv]] z fun e' w' => e' = .returned (.int .i64 N2) ∧ Below z.heap.size z w') := Lib.hid (fun z kv hz hkv => by
    have h := tell15_any 1 (.mk 2 zeroT [ofT (logT i), ofT (logT k)]) kv z hkv (show opIn 2 from by unfold opIn; decide) zeroT_sm (by decide) (hT.below hz)
    rw [or_table i hi k hk, ← hN2] at h
    exact h)
  have HT3 : Hid (∀ z kv, Below w.heap.size w z → KidsP z.heap.size z 1 kv [ofT (logT i), ofT (logT k)] → Calls Tryz.prog 15 #[.agg #[.int .i64 3, .int .i64 0, .string ⟨#[]⟩, .string ⟨#[]⟩, .string ⟨#[]⟩, kv]] z fun e' w' => e' = .returned (.int .i64 N3) ∧ Below z.heap.size z w') := Lib.hid (fun z kv hz hkv => by
    have h := tell15_any 1 (.mk 3 zeroT [ofT (logT i), ofT (logT k)]) kv z hkv (show opIn 3 from by unfold opIn; decide) zeroT_sm (by decide) (hT.below hz)
    rw [and_table i hi k hk, ← hN3] at h
    exact h)
  have HT4 : Hid (∀ z kv, Below w.heap.size w z → KidsP z.heap.size z 1 kv [ofT (logT i)] → Calls Tryz.prog 15 #[.agg #[.int .i64 4, .int .i64 0, .string ⟨#[]⟩, .string ⟨#[]⟩, .string ⟨#[]⟩, kv]] z fun e' w' => e' = .returned (.int .i64 N4) ∧ Below z.heap.size z w') := Lib.hid (fun z kv hz hkv => by
    have h := tell15_any 1 (.mk 4 zeroT [ofT (logT i)]) kv z hkv (show opIn 4 from by unfold opIn; decide) zeroT_sm (by decide) (hT.below hz)
    rw [not_table i hi, ← hN4] at h
    exact h)
  have hi0 : (0 : Int) ≤ (i : Int) := by omega
  have hi3 : (i : Int) < 3 := by omega
  have hk0 : (0 : Int) ≤ (k : Int) := by omega
  have hk3 : (k : Int) < 3 := by omega
  clear hi hk hia hkb hN2 hN3 hN4 ha hb hT
  go_enter Tryz.func4, Tryz.ntmps4
  go_wp2_with fail
  refine HKN.out.mono ?_
  rintro e w1 ⟨rfl, hb1⟩
  have HB1 := Lib.hid hb1
  clear hb1
  go_wp2_with fail
  refine (HU.out _ _ _).mono ?_
  rintro e w2 ⟨rfl, hb2⟩
  have HB2 := Lib.hid (HB1.out.trans (hb2.mono HB1.out.size))
  clear hb2
  go_wp2_with fail
  refine (HU.out _ _ _).mono ?_
  rintro e w3 ⟨rfl, hb3⟩
  have HB3 := Lib.hid (HB2.out.trans (hb3.mono HB2.out.size))
  clear hb3
  go_upto_region 4 with fail
  have hbl := HB3.out.alloc HB3.out.size (.cells #[.int .i64 1, .int .i64 3, .string ⟨#[116, 114, 117, 101]⟩, .string ⟨#[]⟩, .string ⟨#[104, 116, 116, 112, 58, 47, 47, 119, 119, 119, 46, 119, 51, 46, 111, 114, 103, 47, 50, 48, 48, 49, 47, 88, 77, 76, 83, 99, 104, 101, 109, 97, 35, 98, 111, 111, 108, 101, 97, 110]⟩, .slice none 0 0, .int .i64 1, .int .i64 3, .string ⟨#[102, 97, 108, 115, 101]⟩, .string ⟨#[]⟩, .string ⟨#[104, 116, 116, 112, 58, 47, 47, 119, 119, 119, 46, 119, 51, 46, 111, 114, 103, 47, 50, 48, 48, 49, 47, 88, 77, 76, 83, 99, 104, 101, 109, 97, 35, 98, 111, 111, 108, 101, 97, 110]⟩, .slice none 0 0, .int .i64 1, .int .i64 4, .string ⟨#[110, 111, 110, 101]⟩, .string ⟨#[]⟩, .string ⟨#[]⟩, .slice none 0 0] 28)
  have xl := Blk.new w3 #[.int .i64 1, .int .i64 3, .string ⟨#[116, 114, 117, 101]⟩, .string ⟨#[]⟩, .string ⟨#[104, 116, 116, 112, 58, 47, 47, 119, 119, 119, 46, 119, 51, 46, 111, 114, 103, 47, 50, 48, 48, 49, 47, 88, 77, 76, 83, 99, 104, 101, 109, 97, 35, 98, 111, 111, 108, 101, 97, 110]⟩, .slice none 0 0, .int .i64 1, .int .i64 3, .string ⟨#[102, 97, 108, 115, 101]⟩, .string ⟨#[]⟩, .string ⟨#[104, 116, 116, 112, 58, 47, 47, 119, 119, 119, 46, 119, 51, 46, 111, 114, 103, 47, 50, 48, 48, 49, 47, 88, 77, 76, 83, 99, 104, 101, 109, 97, 35, 98, 111, 111, 108, 101, 97, 110]⟩, .slice none 0 0, .int .i64 1, .int .i64 4, .string ⟨#[110, 111, 110, 101]⟩, .string ⟨#[]⟩, .string ⟨#[]⟩, .slice none 0 0] 28
  generalize World.alloc w3 _ = wl at hbl xl ⊢
  have HL := Lib.hid (LogK.new hbl xl)
  clear hbl xl
  go_wp2_with fail
  refine (HIA.out _).mono ?_
  rintro e wz ⟨rfl, rfl⟩
  go_wp2_with fail
  refine (HIB.out _).mono ?_
  rintro e wz ⟨rfl, rfl⟩
  go_upto_region 8 with fail
  generalize World.alloc (World.alloc (World.alloc wl _) _) _ = wr at HL ⊢
  refine wp_region_any (by kernel_rfl) ?_
  change wpAny _ _ _ _ _ _ _ (World.drew _)
  refine wpAny_of_held (S := fun v => LogK w w3.heap.size wl.heap.size [] v) _ _ _ _ ?_
  have hS : (fun v => LogK w w3.heap.size wl.heap.size [] v) (World.drew wr) := HL.out.below (below_drew15 _)
  generalize World.drew wr = wq at hS ⊢
  refine wpAnyH_take (i := 0) (oi := ⟨some 33, _, _, _, _, _⟩) (v := ?_) rfl (by kernel_rfl) (by kernel_rfl) (by kernel_rfl) (fun _ _ _ h => h) (Or.inl ⟨by simp only [Region.wanted], ?_⟩) hS ?_
  rotate_left
  · intro wz hSw
    clear hSw
    go_simp
    first | done | with_reducible rfl
  try simp only [Act.put, List.setIfInBounds_toArray, List.set_cons_zero, List.set_cons_succ]
  refine wpAnyH_take (i := 1) (oi := ⟨some 34, _, _, _, _, _⟩) (v := ?_) rfl (by kernel_rfl) (by kernel_rfl) (by kernel_rfl) (fun _ _ _ h => h) (Or.inl ⟨by simp only [Region.wanted], ?_⟩) hS ?_
  rotate_left
  · intro wz hSw
    clear hSw
    go_simp
    first | done | with_reducible rfl
  try simp only [Act.put, List.setIfInBounds_toArray, List.set_cons_zero, List.set_cons_succ]
  refine wpAnyH_take (i := 2) (oi := ⟨some 35, _, _, _, _, _⟩) (v := ?_) rfl (by kernel_rfl) (by kernel_rfl) (by kernel_rfl) (fun _ _ _ h => h) (Or.inl ⟨by simp only [Region.wanted], ?_⟩) hS ?_
  rotate_left
  · intro wz hSw
    clear hSw
    go_simp
    first | done | with_reducible rfl
  try simp only [Act.put, List.setIfInBounds_toArray, List.set_cons_zero, List.set_cons_succ]
  refine wpAnyH_take (i := 3) (oi := ⟨some 36, _, _, _, _, _⟩) (v := ?_) rfl (by kernel_rfl) (by kernel_rfl) (by kernel_rfl) (fun _ _ _ h => h) (Or.inl ⟨by simp only [Region.wanted], ?_⟩) hS ?_
  rotate_left
  · intro wz hSw; obtain ⟨a0, a1, a2, a3, a4, a5⟩ := hSw.at_ HI3.out
    clear hSw
    go_simp
    first | done | with_reducible rfl
  try simp only [Act.put, List.setIfInBounds_toArray, List.set_cons_zero, List.set_cons_succ]
  refine wpAnyH_take (i := 4) (oi := ⟨some 37, _, _, _, _, _⟩) (v := ?_) rfl (by kernel_rfl) (by kernel_rfl) (by kernel_rfl) (fun _ _ _ h => h) (Or.inl ⟨by simp only [Region.wanted], ?_⟩) hS ?_
  rotate_left
  · intro wz hSw
    clear hSw
    go_simp
    first | done | with_reducible rfl
  try simp only [Act.put, List.setIfInBounds_toArray, List.set_cons_zero, List.set_cons_succ]
  refine wpAnyH_take (i := 5) (oi := ⟨some 38, _, _, _, _, _⟩) (v := ?_) rfl (by kernel_rfl) (by kernel_rfl) (by kernel_rfl) (fun _ _ _ h => h) (Or.inl ⟨by simp only [Region.wanted], ?_⟩) hS ?_
  rotate_left
  · intro wz hSw
    clear hSw
    go_simp
    first | done | with_reducible rfl
  try simp only [Act.put, List.setIfInBounds_toArray, List.set_cons_zero, List.set_cons_succ]
  refine wpAnyH_take (i := 6) (oi := ⟨some 39, _, _, _, _, _⟩) (v := ?_) rfl (by kernel_rfl) (by kernel_rfl) (by kernel_rfl) (fun _ _ _ h => h) (Or.inl ⟨by simp only [Region.wanted], ?_⟩) hS ?_
  rotate_left
  · intro wz hSw
    clear hSw
    go_simp
    first | done | with_reducible rfl
  try simp only [Act.put, List.setIfInBounds_toArray, List.set_cons_zero, List.set_cons_succ]
  refine wpAnyH_take (i := 7) (oi := ⟨some 40, _, _, _, _, _⟩) (v := ?_) rfl (by kernel_rfl) (by kernel_rfl) (by kernel_rfl) (fun _ _ _ h => h) (Or.inl ⟨by simp only [Region.wanted], ?_⟩) hS ?_
  rotate_left
  · intro wz hSw; obtain ⟨a0, a1, a2, a3, a4, a5⟩ := hSw.at_ HK3.out
    clear hSw
    go_simp
    first | done | with_reducible rfl
  try simp only [Act.put, List.setIfInBounds_toArray, List.set_cons_zero, List.set_cons_succ]
  refine wpAnyH_take (i := 11) (oi := ⟨some 44, _, _, _, _, _⟩) (v := ?_) rfl (by kernel_rfl) (by kernel_rfl) (by kernel_rfl) (fun _ _ _ h => h) (Or.inl ⟨by simp only [Region.wanted], ?_⟩) hS ?_
  rotate_left
  · intro wz hSw
    clear hSw
    go_simp
    first | done | with_reducible rfl
  try simp only [Act.put, List.setIfInBounds_toArray, List.set_cons_zero, List.set_cons_succ]
  refine wpAnyH_take (i := 12) (oi := ⟨some 45, _, _, _, _, _⟩) (v := ?_) rfl (by kernel_rfl) (by kernel_rfl) (by kernel_rfl) (fun _ _ _ h => h) (Or.inl ⟨by simp only [Region.wanted], ?_⟩) hS ?_
  rotate_left
  · intro wz hSw
    clear hSw
    go_simp
    first | done | with_reducible rfl
  try simp only [Act.put, List.setIfInBounds_toArray, List.set_cons_zero, List.set_cons_succ]
  refine wpAnyH_take (i := 13) (oi := ⟨some 46, _, _, _, _, _⟩) (v := ?_) rfl (by kernel_rfl) (by kernel_rfl) (by kernel_rfl) (fun _ _ _ h => h) (Or.inl ⟨by simp only [Region.wanted], ?_⟩) hS ?_
  rotate_left
  · intro wz hSw
    clear hSw
    go_simp
    first | done | with_reducible rfl
  try simp only [Act.put, List.setIfInBounds_toArray, List.set_cons_zero, List.set_cons_succ]
  refine wpAnyH_take (i := 14) (oi := ⟨some 47, _, _, _, _, _⟩) (v := ?_) rfl (by kernel_rfl) (by kernel_rfl) (by kernel_rfl) (fun _ _ _ h => h) (Or.inl ⟨by simp only [Region.wanted], ?_⟩) hS ?_
  rotate_left
  · intro wz hSw
    clear hSw
    go_simp
    first | done | with_reducible rfl
  try simp only [Act.put, List.setIfInBounds_toArray, List.set_cons_zero, List.set_cons_succ]
  refine wpAnyH_take (i := 15) (oi := ⟨some 48, _, _, _, _, _⟩) (v := ?_) rfl (by kernel_rfl) (by kernel_rfl) (by kernel_rfl) (fun _ _ _ h => h) (Or.inl ⟨by simp only [Region.wanted], ?_⟩) hS ?_
  rotate_left
  · intro wz hSw; have a0 := hSw.or_ HI3.out HK3.out; rw [HOR.out] at a0
    clear hSw
    go_simp
    first | done | with_reducible rfl
  try simp only [Act.put, List.setIfInBounds_toArray, List.set_cons_zero, List.set_cons_succ]
  refine wpAnyH_ready (rs := [8]) (by kernel_rfl) (by simp) ?_
  refine AllReadyH.cons (o := ⟨some 41, _, _, _, _, _⟩) rfl (fun K hK => ?_) AllReadyH.nil
  go_simp
  go_simp
  refine hK.out _ _ (hS.below ((Below.refl _ _).alloc (Nat.le_refl _) _)) (fun hS => ?_)
  clear hK K
  try simp only [Act.put, List.setIfInBounds_toArray, List.set_cons_zero, List.set_cons_succ]
  have hkk := kids_two wq (logT i) (logT k) (logT_sm i) (logT_sm k) 28
  generalize World.alloc wq _ = wa0 at hS hkk ⊢
  have hS' : (fun v => LogK w w3.heap.size wl.heap.size (((.slice (some ⟨wq.heap.size, 0, none⟩) 2 2), [ofT (logT i), ofT (logT k)]) :: []) v) (wa0) := hS.add hkk
  refine wpAnyH_mono (S' := fun v => LogK w w3.heap.size wl.heap.size (((.slice (some ⟨wq.heap.size, 0, none⟩) 2 2), [ofT (logT i), ofT (logT k)]) :: []) v) (fun _ h => h.tail) _ _ _ _ ?_
  clear hS
  have hS := hS'
  clear hS'
  clear hkk
  refine wpAnyH_take (i := 9) (oi := ⟨some 42, _, _, _, _, _⟩) (v := ?_) rfl (by kernel_rfl) (by kernel_rfl) (by kernel_rfl) (fun _ _ _ h => h) (Or.inl ⟨by simp only [Region.wanted], ?_⟩) hS ?_
  rotate_left
  · intro wz hSw
    clear hSw
    go_simp
    first | done | with_reducible rfl
  try simp only [Act.put, List.setIfInBounds_toArray, List.set_cons_zero, List.set_cons_succ]
  refine wpAnyH_ready (rs := [10]) (by kernel_rfl) (by simp) ?_
  refine AllReadyH.cons (o := ⟨some 43, _, _, _, _, _⟩) rfl (fun K hK => ?_) AllReadyH.nil
  go_simp
  refine (HT2.out _ _ hS.bel (hS.kids _ List.mem_cons_self)).mono ?_
  rintro e wc1 ⟨rfl, hbn⟩
  have hSn := hS.below hbn
  clear hbn
  go_wp2_with fail
  refine hK.out _ _ (hSn) (fun hS => ?_)
  clear hK K
  try simp only [Act.put, List.setIfInBounds_toArray, List.set_cons_zero, List.set_cons_succ]
  refine wpAnyH_take (i := 16) (oi := ⟨some 49, _, _, _, _, _⟩) (v := ?_) rfl (by kernel_rfl) (by kernel_rfl) (by kernel_rfl) (fun _ _ _ h => h) (Or.inl ⟨by simp only [Region.wanted], ?_⟩) hS ?_
  rotate_left
  · intro wz hSw
    clear hSw
    go_simp
    first | done | with_reducible rfl
  try simp only [Act.put, List.setIfInBounds_toArray, List.set_cons_zero, List.set_cons_succ]
  refine wpAnyH_take (i := 17) (oi := ⟨some 50, _, _, _, _, _⟩) (v := ?_) rfl (by kernel_rfl) (by kernel_rfl) (by kernel_rfl) (fun _ _ _ h => h) (Or.inl ⟨by simp only [Region.wanted], ?_⟩) hS ?_
  rotate_left
  · intro wz hSw
    clear hSw
    go_simp
    first | done | with_reducible rfl
  try simp only [Act.put, List.setIfInBounds_toArray, List.set_cons_zero, List.set_cons_succ]
  refine wpAnyH_take (i := 18) (oi := ⟨some 51, _, _, _, _, _⟩) (v := ?_) rfl (by kernel_rfl) (by kernel_rfl) (by kernel_rfl) (fun _ _ _ h => h) (Or.inl ⟨by first | rfl | (simp [Region.wanted, yielded]; done), ?_⟩) hS ?_
  rotate_left
  · intro wz hSw
    clear hSw
    go_simp
    first | done | with_reducible rfl
  try simp only [Act.put, List.setIfInBounds_toArray, List.set_cons_zero, List.set_cons_succ]
  refine wpAnyH_take (i := 19) (oi := ⟨some 52, _, _, _, _, _⟩) (v := ?_) rfl (by kernel_rfl) (by kernel_rfl) (by kernel_rfl) (fun _ _ _ h => h) (Or.inl ⟨by first | rfl | (simp [Region.wanted, yielded]; done), ?_⟩) hS ?_
  rotate_left
  · intro wz hSw
    clear hSw
    go_simp
    first | done | with_reducible rfl
  try simp only [Act.put, List.setIfInBounds_toArray, List.set_cons_zero, List.set_cons_succ]
  refine wpAnyH_take (i := 20) (oi := ⟨some 53, _, _, _, _, _⟩) (v := ?_) rfl (by kernel_rfl) (by kernel_rfl) (by kernel_rfl) (fun _ _ _ h => h) (Or.inl ⟨by first | rfl | (simp [Region.wanted, yielded]; done), ?_⟩) hS ?_
  rotate_left
  · intro wz hSw
    clear hSw
    go_simp
    first | done | with_reducible rfl
  try simp only [Act.put, List.setIfInBounds_toArray, List.set_cons_zero, List.set_cons_succ]
  refine wpAnyH_take (i := 21) (oi := ⟨some 54, _, _, _, _, _⟩) (v := ?_) rfl (by kernel_rfl) (by kernel_rfl) (by kernel_rfl) (fun _ _ _ h => h) (Or.inl ⟨by first | rfl | (simp [Region.wanted, yielded]; done), ?_⟩) hS ?_
  rotate_left
  · intro wz hSw; obtain ⟨a0, a1, a2, a3, a4, a5⟩ := hSw.at_ HI3.out
    clear hSw
    go_simp
    first | done | with_reducible rfl
  try simp only [Act.put, List.setIfInBounds_toArray, List.set_cons_zero, List.set_cons_succ]
  refine wpAnyH_take (i := 22) (oi := ⟨some 55, _, _, _, _, _⟩) (v := ?_) rfl (by kernel_rfl) (by kernel_rfl) (by kernel_rfl) (fun _ _ _ h => h) (Or.inl ⟨by first | rfl | (simp [Region.wanted, yielded]; done), ?_⟩) hS ?_
  rotate_left
  · intro wz hSw
    clear hSw
    go_simp
    first | done | with_reducible rfl
  try simp only [Act.put, List.setIfInBounds_toArray, List.set_cons_zero, List.set_cons_succ]
  refine wpAnyH_take (i := 23) (oi := ⟨some 56, _, _, _, _, _⟩) (v := ?_) rfl (by kernel_rfl) (by kernel_rfl) (by kernel_rfl) (fun _ _ _ h => h) (Or.inl ⟨by first | rfl | (simp [Region.wanted, yielded]; done), ?_⟩) hS ?_
  rotate_left
  · intro wz hSw
    clear hSw
    go_simp
    first | done | with_reducible rfl
  try simp only [Act.put, List.setIfInBounds_toArray, List.set_cons_zero, List.set_cons_succ]
  refine wpAnyH_take (i := 24) (oi := ⟨some 57, _, _, _, _, _⟩) (v := ?_) rfl (by kernel_rfl) (by kernel_rfl) (by kernel_rfl) (fun _ _ _ h => h) (Or.inl ⟨by first | rfl | (simp [Region.wanted, yielded]; done), ?_⟩) hS ?_
  rotate_left
  · intro wz hSw
    clear hSw
    go_simp
    first | done | with_reducible rfl
  try simp only [Act.put, List.setIfInBounds_toArray, List.set_cons_zero, List.set_cons_succ]
  refine wpAnyH_take (i := 25) (oi := ⟨some 58, _, _, _, _, _⟩) (v := ?_) rfl (by kernel_rfl) (by kernel_rfl) (by kernel_rfl) (fun _ _ _ h => h) (Or.inl ⟨by first | rfl | (simp [Region.wanted, yielded]; done), ?_⟩) hS ?_
  rotate_left
  · intro wz hSw; obtain ⟨a0, a1, a2, a3, a4, a5⟩ := hSw.at_ HK3.out
    clear hSw
    go_simp
    first | done | with_reducible rfl
  try simp only [Act.put, List.setIfInBounds_toArray, List.set_cons_zero, List.set_cons_succ]
  refine wpAnyH_take (i := 29) (oi := ⟨some 62, _, _, _, _, _⟩) (v := ?_) rfl (by kernel_rfl) (by kernel_rfl) (by kernel_rfl) (fun _ _ _ h => h) (Or.inl ⟨by first | rfl | (simp [Region.wanted, yielded]; done), ?_⟩) hS ?_
  rotate_left
  · intro wz hSw
    clear hSw
    go_simp
    first | done | with_reducible rfl
  try simp only [Act.put, List.setIfInBounds_toArray, List.set_cons_zero, List.set_cons_succ]
  refine wpAnyH_take (i := 30) (oi := ⟨some 63, _, _, _, _, _⟩) (v := ?_) rfl (by kernel_rfl) (by kernel_rfl) (by kernel_rfl) (fun _ _ _ h => h) (Or.inl ⟨by first | rfl | (simp [Region.wanted, yielded]; done), ?_⟩) hS ?_
  rotate_left
  · intro wz hSw
    clear hSw
    go_simp
    first | done | with_reducible rfl
  try simp only [Act.put, List.setIfInBounds_toArray, List.set_cons_zero, List.set_cons_succ]
  refine wpAnyH_take (i := 31) (oi := ⟨some 64, _, _, _, _, _⟩) (v := ?_) rfl (by kernel_rfl) (by kernel_rfl) (by kernel_rfl) (fun _ _ _ h => h) (Or.inl ⟨by first | rfl | (simp [Region.wanted, yielded]; done), ?_⟩) hS ?_
  rotate_left
  · intro wz hSw
    clear hSw
    go_simp
    first | done | with_reducible rfl
  try simp only [Act.put, List.setIfInBounds_toArray, List.set_cons_zero, List.set_cons_succ]
  refine wpAnyH_take (i := 32) (oi := ⟨some 65, _, _, _, _, _⟩) (v := ?_) rfl (by kernel_rfl) (by kernel_rfl) (by kernel_rfl) (fun _ _ _ h => h) (Or.inl ⟨by first | rfl | (simp [Region.wanted, yielded]; done), ?_⟩) hS ?_
  rotate_left
  · intro wz hSw
    clear hSw
    go_simp
    first | done | with_reducible rfl
  try simp only [Act.put, List.setIfInBounds_toArray, List.set_cons_zero, List.set_cons_succ]
  refine wpAnyH_take (i := 33) (oi := ⟨some 66, _, _, _, _, _⟩) (v := ?_) rfl (by kernel_rfl) (by kernel_rfl) (by kernel_rfl) (fun _ _ _ h => h) (Or.inl ⟨by first | rfl | (simp [Region.wanted, yielded]; done), ?_⟩) hS ?_
  rotate_left
  · intro wz hSw; have a0 := hSw.and_ HI3.out HK3.out; rw [HAND.out] at a0
    clear hSw
    go_simp
    first | done | with_reducible rfl
  try simp only [Act.put, List.setIfInBounds_toArray, List.set_cons_zero, List.set_cons_succ]
  refine wpAnyH_ready (rs := [26]) (by kernel_rfl) (by simp) ?_
  refine AllReadyH.cons (o := ⟨some 59, _, _, _, _, _⟩) rfl (fun K hK => ?_) AllReadyH.nil
  go_simp
  go_simp
  refine hK.out _ _ (hS.below ((Below.refl _ _).alloc (Nat.le_refl _) _)) (fun hS => ?_)
  clear hK K
  try simp only [Act.put, List.setIfInBounds_toArray, List.set_cons_zero, List.set_cons_succ]
  have hkk := kids_two wc1 (logT i) (logT k) (logT_sm i) (logT_sm k) 28
  generalize World.alloc wc1 _ = wa1 at hS hkk ⊢
  have hS' : (fun v => LogK w w3.heap.size wl.heap.size (((.slice (some ⟨wc1.heap.size, 0, none⟩) 2 2), [ofT (logT i), ofT (logT k)]) :: (((.slice (some ⟨wq.heap.size, 0, none⟩) 2 2), [ofT (logT i), ofT (logT k)]) :: [])) v) (wa1) := hS.add hkk
  refine wpAnyH_mono (S' := fun v => LogK w w3.heap.size wl.heap.size (((.slice (some ⟨wc1.heap.size, 0, none⟩) 2 2), [ofT (logT i), ofT (logT k)]) :: (((.slice (some ⟨wq.heap.size, 0, none⟩) 2 2), [ofT (logT i), ofT (logT k)]) :: [])) v) (fun _ h => h.tail) _ _ _ _ ?_
  clear hS
  have hS := hS'
  clear hS'
  clear hkk
  refine wpAnyH_take (i := 27) (oi := ⟨some 60, _, _, _, _, _⟩) (v := ?_) rfl (by kernel_rfl) (by kernel_rfl) (by kernel_rfl) (fun _ _ _ h => h) (Or.inl ⟨by first | rfl | (simp [Region.wanted, yielded]; done), ?_⟩) hS ?_
  rotate_left
  · intro wz hSw
    clear hSw
    go_simp
    first | done | with_reducible rfl
  try simp only [Act.put, List.setIfInBounds_toArray, List.set_cons_zero, List.set_cons_succ]
  refine wpAnyH_ready (rs := [28]) (by kernel_rfl) (by simp) ?_
  refine AllReadyH.cons (o := ⟨some 61, _, _, _, _, _⟩) rfl (fun K hK => ?_) AllReadyH.nil
  go_simp
  refine (HT3.out _ _ hS.bel (hS.kids _ List.mem_cons_self)).mono ?_
  rintro e wc2 ⟨rfl, hbn⟩
  have hSn := hS.below hbn
  clear hbn
  go_wp2_with fail
  refine hK.out _ _ (hSn) (fun hS => ?_)
  clear hK K
  try simp only [Act.put, List.setIfInBounds_toArray, List.set_cons_zero, List.set_cons_succ]
  refine wpAnyH_take (i := 34) (oi := ⟨some 67, _, _, _, _, _⟩) (v := ?_) rfl (by kernel_rfl) (by kernel_rfl) (by kernel_rfl) (fun _ _ _ h => h) (Or.inl ⟨by first | rfl | (simp [Region.wanted, yielded]; done), ?_⟩) hS ?_
  rotate_left
  · intro wz hSw
    clear hSw
    go_simp
    first | done | with_reducible rfl
  try simp only [Act.put, List.setIfInBounds_toArray, List.set_cons_zero, List.set_cons_succ]
  refine wpAnyH_take (i := 35) (oi := ⟨some 68, _, _, _, _, _⟩) (v := ?_) rfl (by kernel_rfl) (by kernel_rfl) (by kernel_rfl) (fun _ _ _ h => h) (Or.inl ⟨by simp only [Region.wanted], ?_⟩) hS ?_
  rotate_left
  · intro wz hSw
    clear hSw
    go_simp
    first | done | with_reducible rfl
  try simp only [Act.put, List.setIfInBounds_toArray, List.set_cons_zero, List.set_cons_succ]
  refine wpAnyH_take (i := 36) (oi := ⟨some 69, _, _, _, _, _⟩) (v := ?_) rfl (by kernel_rfl) (by kernel_rfl) (by kernel_rfl) (fun _ _ _ h => h) (Or.inl ⟨by simp only [Region.wanted], ?_⟩) hS ?_
  rotate_left
  · intro wz hSw
    clear hSw
    go_simp
    first | done | with_reducible rfl
  try simp only [Act.put, List.setIfInBounds_toArray, List.set_cons_zero, List.set_cons_succ]
  refine wpAnyH_take (i := 37) (oi := ⟨some 70, _, _, _, _, _⟩) (v := ?_) rfl (by kernel_rfl) (by kernel_rfl) (by kernel_rfl) (fun _ _ _ h => h) (Or.inl ⟨by first | rfl | (simp [Region.wanted, yielded]; done), ?_⟩) hS ?_
  rotate_left
  · intro wz hSw
    clear hSw
    go_simp
    first | done | with_reducible rfl
  try simp only [Act.put, List.setIfInBounds_toArray, List.set_cons_zero, List.set_cons_succ]
  refine wpAnyH_take (i := 38) (oi := ⟨some 71, _, _, _, _, _⟩) (v := ?_) rfl (by kernel_rfl) (by kernel_rfl) (by kernel_rfl) (fun _ _ _ h => h) (Or.inl ⟨by first | rfl | (simp [Region.wanted, yielded]; done), ?_⟩) hS ?_
  rotate_left
  · intro wz hSw
    clear hSw
    go_simp
    first | done | with_reducible rfl
  try simp only [Act.put, List.setIfInBounds_toArray, List.set_cons_zero, List.set_cons_succ]
  refine wpAnyH_take (i := 39) (oi := ⟨some 72, _, _, _, _, _⟩) (v := ?_) rfl (by kernel_rfl) (by kernel_rfl) (by kernel_rfl) (fun _ _ _ h => h) (Or.inl ⟨by first | rfl | (simp [Region.wanted, yielded]; done), ?_⟩) hS ?_
  rotate_left
  · intro wz hSw
    clear hSw
    go_simp
    first | done | with_reducible rfl
  try simp only [Act.put, List.setIfInBounds_toArray, List.set_cons_zero, List.set_cons_succ]
  refine wpAnyH_take (i := 40) (oi := ⟨some 73, _, _, _, _, _⟩) (v := ?_) rfl (by kernel_rfl) (by kernel_rfl) (by kernel_rfl) (fun _ _ _ h => h) (Or.inl ⟨by first | rfl | (simp [Region.wanted, yielded]; done), ?_⟩) hS ?_
  rotate_left
  · intro wz hSw; obtain ⟨a0, a1, a2, a3, a4, a5⟩ := hSw.at_ HI3.out
    clear hSw
    go_simp
    first | done | with_reducible rfl
  try simp only [Act.put, List.setIfInBounds_toArray, List.set_cons_zero, List.set_cons_succ]
  refine wpAnyH_take (i := 44) (oi := ⟨some 77, _, _, _, _, _⟩) (v := ?_) rfl (by kernel_rfl) (by kernel_rfl) (by kernel_rfl) (fun _ _ _ h => h) (Or.inl ⟨by first | rfl | (simp [Region.wanted, yielded]; done), ?_⟩) hS ?_
  rotate_left
  · intro wz hSw
    clear hSw
    go_simp
    first | done | with_reducible rfl
  try simp only [Act.put, List.setIfInBounds_toArray, List.set_cons_zero, List.set_cons_succ]
  refine wpAnyH_take (i := 45) (oi := ⟨some 78, _, _, _, _, _⟩) (v := ?_) rfl (by kernel_rfl) (by kernel_rfl) (by kernel_rfl) (fun _ _ _ h => h) (Or.inl ⟨by first | rfl | (simp [Region.wanted, yielded]; done), ?_⟩) hS ?_
  rotate_left
  · intro wz hSw
    clear hSw
    go_simp
    first | done | with_reducible rfl
  try simp only [Act.put, List.setIfInBounds_toArray, List.set_cons_zero, List.set_cons_succ]
  refine wpAnyH_take (i := 46) (oi := ⟨some 79, _, _, _, _, _⟩) (v := ?_) rfl (by kernel_rfl) (by kernel_rfl) (by kernel_rfl) (fun _ _ _ h => h) (Or.inl ⟨by first | rfl | (simp [Region.wanted, yielded]; done), ?_⟩) hS ?_
  rotate_left
  · intro wz hSw; have a0 := hSw.not_ HI3.out; rw [HNOT.out] at a0
    clear hSw
    go_simp
    first | done | with_reducible rfl
  try simp only [Act.put, List.setIfInBounds_toArray, List.set_cons_zero, List.set_cons_succ]
  refine wpAnyH_ready (rs := [41]) (by kernel_rfl) (by simp) ?_
  refine AllReadyH.cons (o := ⟨some 74, _, _, _, _, _⟩) rfl (fun K hK => ?_) AllReadyH.nil
  go_simp
  go_simp
  refine hK.out _ _ (hS.below ((Below.refl _ _).alloc (Nat.le_refl _) _)) (fun hS => ?_)
  clear hK K
  try simp only [Act.put, List.setIfInBounds_toArray, List.set_cons_zero, List.set_cons_succ]
  have hkk := kids_one wc2 (logT i) (logT_sm i) 28
  generalize World.alloc wc2 _ = wa2 at hS hkk ⊢
  have hS' : (fun v => LogK w w3.heap.size wl.heap.size (((.slice (some ⟨wc2.heap.size, 0, none⟩) 1 1), [ofT (logT i)]) :: (((.slice (some ⟨wc1.heap.size, 0, none⟩) 2 2), [ofT (logT i), ofT (logT k)]) :: (((.slice (some ⟨wq.heap.size, 0, none⟩) 2 2), [ofT (logT i), ofT (logT k)]) :: []))) v) (wa2) := hS.add hkk
  refine wpAnyH_mono (S' := fun v => LogK w w3.heap.size wl.heap.size (((.slice (some ⟨wc2.heap.size, 0, none⟩) 1 1), [ofT (logT i)]) :: (((.slice (some ⟨wc1.heap.size, 0, none⟩) 2 2), [ofT (logT i), ofT (logT k)]) :: (((.slice (some ⟨wq.heap.size, 0, none⟩) 2 2), [ofT (logT i), ofT (logT k)]) :: []))) v) (fun _ h => h.tail) _ _ _ _ ?_
  clear hS
  have hS := hS'
  clear hS'
  clear hkk
  refine wpAnyH_take (i := 42) (oi := ⟨some 75, _, _, _, _, _⟩) (v := ?_) rfl (by kernel_rfl) (by kernel_rfl) (by kernel_rfl) (fun _ _ _ h => h) (Or.inl ⟨by first | rfl | (simp [Region.wanted, yielded]; done), ?_⟩) hS ?_
  rotate_left
  · intro wz hSw
    clear hSw
    go_simp
    first | done | with_reducible rfl
  try simp only [Act.put, List.setIfInBounds_toArray, List.set_cons_zero, List.set_cons_succ]
  refine wpAnyH_ready (rs := [43]) (by kernel_rfl) (by simp) ?_
  refine AllReadyH.cons (o := ⟨some 76, _, _, _, _, _⟩) rfl (fun K hK => ?_) AllReadyH.nil
  go_simp
  refine (HT4.out _ _ hS.bel (hS.kids _ List.mem_cons_self)).mono ?_
  rintro e wc3 ⟨rfl, hbn⟩
  have hSn := hS.below hbn
  clear hbn
  go_wp2_with fail
  refine hK.out _ _ (hSn) (fun hS => ?_)
  clear hK K
  try simp only [Act.put, List.setIfInBounds_toArray, List.set_cons_zero, List.set_cons_succ]
  refine wpAnyH_take (i := 47) (oi := ⟨some 80, _, _, _, _, _⟩) (v := ?_) rfl (by kernel_rfl) (by kernel_rfl) (by kernel_rfl) (fun _ _ _ h => h) (Or.inl ⟨by first | rfl | (simp [Region.wanted, yielded]; done), ?_⟩) hS ?_
  rotate_left
  · intro wz hSw
    clear hSw
    go_simp
    first | done | with_reducible rfl
  try simp only [Act.put, List.setIfInBounds_toArray, List.set_cons_zero, List.set_cons_succ]
  refine wpAnyH_take (i := 48) (oi := ⟨some 81, _, _, _, _, _⟩) (v := ?_) rfl (by kernel_rfl) (by kernel_rfl) (by kernel_rfl) (fun _ _ _ h => h) (Or.inl ⟨by simp only [Region.wanted], ?_⟩) hS ?_
  rotate_left
  · intro wz hSw
    clear hSw
    go_simp
    first | done | with_reducible rfl
  try simp only [Act.put, List.setIfInBounds_toArray, List.set_cons_zero, List.set_cons_succ]
  refine wpAnyH_take (i := 49) (oi := ⟨some 4, _, _, _, _, _⟩) (v := ?_) rfl (by kernel_rfl) (by kernel_rfl) (by kernel_rfl) (fun _ _ _ h => h) (Or.inl ⟨by simp only [Region.wanted], ?_⟩) hS ?_
  rotate_left
  · intro wz hSw
    clear hSw
    go_simp
    first | done | with_reducible rfl
  try simp only [Act.put, List.setIfInBounds_toArray, List.set_cons_zero, List.set_cons_succ]
  refine wpAnyH_done (by kernel_rfl) ?_ _
  go_wp2_with fail
  go_ret
  exact ⟨rfl, hS.bel⟩
end Go.Proofs.YtecomfhbdonkbaaGreatDoor
