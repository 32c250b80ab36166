/- Terms: Bytes, package term's and triadref6's. -/
import Derived.Test.YtpoacgnncinmiaaTb
import Derived.Test.YtpoacgnncinmiaaCr
import Derived.Deep.RegionHeld3
namespace Go.Proofs.Ytpoacgnncinmiaa
open Go.RowKit
set_option maxRecDepth 100000

def encT (x : Tm) : List UInt8 := le x.k 1 ++ tx x.s ++ tx x.l ++ tx x.t

set_option maxHeartbeats 2000000 in
theorem bytes_any (x : Tm) (w : World) :
    Calls Try.prog 16 #[x.val] w fun e w' => ∃ v, e = .returned v ∧ Own w' w.heap.size v (encT x) ∧ Below w.heap.size w w' := by
  obtain ⟨k, s, l, t⟩ := x
  unfold Tm.val encT
  dsimp only
  have c0 : (w.alloc (.cells #[.int .i64 k, .string s, .string l, .string t] 23)).cell? ⟨w.heap.size, 0, none⟩ = some (.int .i64 k) := by simp
  have c1 : (w.alloc (.cells #[.int .i64 k, .string s, .string l, .string t] 23)).cell? ⟨w.heap.size, 1, none⟩ = some (.string s) := by simp
  have c2 : (w.alloc (.cells #[.int .i64 k, .string s, .string l, .string t] 23)).cell? ⟨w.heap.size, 2, none⟩ = some (.string l) := by simp
  have c3 : (w.alloc (.cells #[.int .i64 k, .string s, .string l, .string t] 23)).cell? ⟨w.heap.size, 3, none⟩ = some (.string t) := by simp
  have hw : Below w.heap.size w (w.alloc (.cells #[.int .i64 k, .string s, .string l, .string t] 23)) := (Below.refl _ _).alloc (Nat.le_refl _) _
  have hlt : w.heap.size < (w.alloc (.cells #[.int .i64 k, .string s, .string l, .string t] 23)).heap.size := by simp
  have C := Lib.hid (And.intro c0 (And.intro c1 (And.intro c2 c3)))
  have HW := Lib.hid hw
  have HLT := Lib.hid hlt
  clear c0 c1 c2 c3 hw hlt
  go_enter Try.func16, Try.ntmps16
  go_wp2_with fail
  generalize hw1 : w.alloc _ = w1 at C HW HLT ⊢
  clear hw1
  have c0 := C.out.1
  have c1 := C.out.2.1
  have c2 := C.out.2.2.1
  have c3 := C.out.2.2.2
  go_region_held3 (fun w' => w'.cell? ⟨w.heap.size, 0, none⟩ = some (.int .i64 k) ∧ w'.cell? ⟨w.heap.size, 1, none⟩ = some (.string s) ∧ w'.cell? ⟨w.heap.size, 2, none⟩ = some (.string l) ∧ w'.cell? ⟨w.heap.size, 3, none⟩ = some (.string t)) (first | exact ⟨c0, c1, c2, c3⟩ | exact q4 | exact q3 | exact q2 | exact q1)
    (first
      | (go_at_call 36; refine (byte_any (.slice none 0 0) [] k (by decide) _ (Bs.nil _)).mono ?_; rintro e wi ⟨v1, rfl, h1, hb1⟩; have b1 := Lib.hid ((Below.refl w1.heap.size w1).drew.trans hb1); have H1 := Lib.hid h1; have q1 : wi.cell? ⟨w.heap.size, 0, none⟩ = some (.int .i64 k) ∧ wi.cell? ⟨w.heap.size, 1, none⟩ = some (.string s) ∧ wi.cell? ⟨w.heap.size, 2, none⟩ = some (.string l) ∧ wi.cell? ⟨w.heap.size, 3, none⟩ = some (.string t) := ⟨(b1.out.cell HLT.out).trans c0, (b1.out.cell HLT.out).trans c1, (b1.out.cell HLT.out).trans c2, (b1.out.cell HLT.out).trans c3⟩)
      | (go_at_call 35; refine (text_any _ _ t ?_ _ H3.out.bs).mono ?_; (simp only [List.length_append, tx_length, le_length, List.length_nil]; omega); rintro e wm ⟨v4, rfl, h4, hb4⟩; have b4 := Lib.hid (b3.out.trans (hb4.mono b3.out.size)); have H4 := Lib.hid h4; have q4 : wm.cell? ⟨w.heap.size, 0, none⟩ = some (.int .i64 k) ∧ wm.cell? ⟨w.heap.size, 1, none⟩ = some (.string s) ∧ wm.cell? ⟨w.heap.size, 2, none⟩ = some (.string l) ∧ wm.cell? ⟨w.heap.size, 3, none⟩ = some (.string t) := ⟨(b4.out.cell HLT.out).trans c0, (b4.out.cell HLT.out).trans c1, (b4.out.cell HLT.out).trans c2, (b4.out.cell HLT.out).trans c3⟩)
      | (go_at_call 35; refine (text_any _ _ l ?_ _ H2.out.bs).mono ?_; (simp only [List.length_append, tx_length, le_length, List.length_nil]; omega); rintro e wk ⟨v3, rfl, h3, hb3⟩; have b3 := Lib.hid (b2.out.trans (hb3.mono b2.out.size)); have H3 := Lib.hid h3; have q3 : wk.cell? ⟨w.heap.size, 0, none⟩ = some (.int .i64 k) ∧ wk.cell? ⟨w.heap.size, 1, none⟩ = some (.string s) ∧ wk.cell? ⟨w.heap.size, 2, none⟩ = some (.string l) ∧ wk.cell? ⟨w.heap.size, 3, none⟩ = some (.string t) := ⟨(b3.out.cell HLT.out).trans c0, (b3.out.cell HLT.out).trans c1, (b3.out.cell HLT.out).trans c2, (b3.out.cell HLT.out).trans c3⟩)
      | (go_at_call 35; refine (text_any _ _ s ?_ _ H1.out.bs).mono ?_; (simp only [List.length_append, le_length, List.length_nil]; omega); rintro e wj ⟨v2, rfl, h2, hb2⟩; have b2 := Lib.hid (b1.out.trans (hb2.mono b1.out.size)); have H2 := Lib.hid h2; have q2 : wj.cell? ⟨w.heap.size, 0, none⟩ = some (.int .i64 k) ∧ wj.cell? ⟨w.heap.size, 1, none⟩ = some (.string s) ∧ wj.cell? ⟨w.heap.size, 2, none⟩ = some (.string l) ∧ wj.cell? ⟨w.heap.size, 3, none⟩ = some (.string t) := ⟨(b2.out.cell HLT.out).trans c0, (b2.out.cell HLT.out).trans c1, (b2.out.cell HLT.out).trans c2, (b2.out.cell HLT.out).trans c3⟩))
  go_wp2_with fail
  go_ret
  refine ⟨_, rfl, ?_, HW.out.trans (b4.out.mono (Nat.le_of_lt HLT.out))⟩
  have := H4.out.mono (base' := w.heap.size) (by have := b3.out.size; have := HLT.out; omega)
  simpa using this

set_option maxHeartbeats 2000000 in
theorem rbytes_any (x : Tm) (hs : x.s.size ≤ 65535) (hl : x.l.size ≤ 65535) (ht : x.t.size ≤ 65535) (w : World) :
    Calls Try.prog 18 #[x.val] w fun e w' => ∃ v, e = .returned v ∧ Own w' w.heap.size v (encT x) ∧ Below w.heap.size w w' := by
  obtain ⟨k, s, l, t⟩ := x
  unfold Tm.val encT
  dsimp only at hs hl ht ⊢
  have c0 : (w.alloc (.cells #[.int .i64 k, .string s, .string l, .string t] 23)).cell? ⟨w.heap.size, 0, none⟩ = some (.int .i64 k) := by simp
  have c1 : (w.alloc (.cells #[.int .i64 k, .string s, .string l, .string t] 23)).cell? ⟨w.heap.size, 1, none⟩ = some (.string s) := by simp
  have c2 : (w.alloc (.cells #[.int .i64 k, .string s, .string l, .string t] 23)).cell? ⟨w.heap.size, 2, none⟩ = some (.string l) := by simp
  have c3 : (w.alloc (.cells #[.int .i64 k, .string s, .string l, .string t] 23)).cell? ⟨w.heap.size, 3, none⟩ = some (.string t) := by simp
  have hw : Below w.heap.size w (w.alloc (.cells #[.int .i64 k, .string s, .string l, .string t] 23)) := (Below.refl _ _).alloc (Nat.le_refl _) _
  have hlt : w.heap.size < (w.alloc (.cells #[.int .i64 k, .string s, .string l, .string t] 23)).heap.size := by simp
  have C := Lib.hid (And.intro c0 (And.intro c1 (And.intro c2 c3)))
  have HW := Lib.hid hw
  have HLT := Lib.hid hlt
  clear c0 c1 c2 c3 hw hlt
  go_enter Try.func18, Try.ntmps18
  go_wp2_with fail
  generalize hw1 : w.alloc _ = w1 at C HW HLT ⊢
  clear hw1
  have c0 := C.out.1
  have c1 := C.out.2.1
  have c2 := C.out.2.2.1
  have c3 := C.out.2.2.2
  go_region_held3 (fun w' => w'.cell? ⟨w.heap.size, 0, none⟩ = some (.int .i64 k) ∧ w'.cell? ⟨w.heap.size, 1, none⟩ = some (.string s) ∧ w'.cell? ⟨w.heap.size, 2, none⟩ = some (.string l) ∧ w'.cell? ⟨w.heap.size, 3, none⟩ = some (.string t)) (first | exact ⟨c0, c1, c2, c3⟩ | exact q4 | exact q3 | exact q2 | exact q1)
    (first
      | (go_at_call 42; refine (refByte_any w1.heap.size (.slice none 0 0) [] k (by decide) _ ?_ (World.ownsRow_nil _ _ _ _)).mono ?_; (simp); rintro e wi ⟨v1, rfl, h1⟩; have b1 := Lib.hid (show Below w1.heap.size w1 wi from (Below.refl w1.heap.size w1).drew.grown h1.grown (by simp) (fun q hq => by simp [Value.ownBlock] at hq)); have H1 := Lib.hid h1.own; have q1 : wi.cell? ⟨w.heap.size, 0, none⟩ = some (.int .i64 k) ∧ wi.cell? ⟨w.heap.size, 1, none⟩ = some (.string s) ∧ wi.cell? ⟨w.heap.size, 2, none⟩ = some (.string l) ∧ wi.cell? ⟨w.heap.size, 3, none⟩ = some (.string t) := ⟨(b1.out.cell HLT.out).trans c0, (b1.out.cell HLT.out).trans c1, (b1.out.cell HLT.out).trans c2, (b1.out.cell HLT.out).trans c3⟩)
      | (go_at_call 41; refine (refText_any w1.heap.size _ _ t ht ?_ _ b3.out.size H3.out).mono ?_; (simp only [List.length_append, tx_length, le_length, List.length_nil]; omega); rintro e wm ⟨v4, rfl, h4⟩; have b4 := Lib.hid (b3.out.grown h4.grown b3.out.size (fun q hq => (H3.out.out.lt q hq).1)); have H4 := Lib.hid h4.own; have q4 : wm.cell? ⟨w.heap.size, 0, none⟩ = some (.int .i64 k) ∧ wm.cell? ⟨w.heap.size, 1, none⟩ = some (.string s) ∧ wm.cell? ⟨w.heap.size, 2, none⟩ = some (.string l) ∧ wm.cell? ⟨w.heap.size, 3, none⟩ = some (.string t) := ⟨(b4.out.cell HLT.out).trans c0, (b4.out.cell HLT.out).trans c1, (b4.out.cell HLT.out).trans c2, (b4.out.cell HLT.out).trans c3⟩)
      | (go_at_call 41; refine (refText_any w1.heap.size _ _ l hl ?_ _ b2.out.size H2.out).mono ?_; (simp only [List.length_append, tx_length, le_length, List.length_nil]; omega); rintro e wk ⟨v3, rfl, h3⟩; have b3 := Lib.hid (b2.out.grown h3.grown b2.out.size (fun q hq => (H2.out.out.lt q hq).1)); have H3 := Lib.hid h3.own; have q3 : wk.cell? ⟨w.heap.size, 0, none⟩ = some (.int .i64 k) ∧ wk.cell? ⟨w.heap.size, 1, none⟩ = some (.string s) ∧ wk.cell? ⟨w.heap.size, 2, none⟩ = some (.string l) ∧ wk.cell? ⟨w.heap.size, 3, none⟩ = some (.string t) := ⟨(b3.out.cell HLT.out).trans c0, (b3.out.cell HLT.out).trans c1, (b3.out.cell HLT.out).trans c2, (b3.out.cell HLT.out).trans c3⟩)
      | (go_at_call 41; refine (refText_any w1.heap.size _ _ s hs ?_ _ b1.out.size H1.out).mono ?_; (simp only [List.length_append, le_length, List.length_nil]; omega); rintro e wj ⟨v2, rfl, h2⟩; have b2 := Lib.hid (b1.out.grown h2.grown b1.out.size (fun q hq => (H1.out.out.lt q hq).1)); have H2 := Lib.hid h2.own; have q2 : wj.cell? ⟨w.heap.size, 0, none⟩ = some (.int .i64 k) ∧ wj.cell? ⟨w.heap.size, 1, none⟩ = some (.string s) ∧ wj.cell? ⟨w.heap.size, 2, none⟩ = some (.string l) ∧ wj.cell? ⟨w.heap.size, 3, none⟩ = some (.string t) := ⟨(b2.out.cell HLT.out).trans c0, (b2.out.cell HLT.out).trans c1, (b2.out.cell HLT.out).trans c2, (b2.out.cell HLT.out).trans c3⟩))
  go_wp2_with fail
  go_ret
  refine ⟨_, rfl, ?_, HW.out.trans (b4.out.mono (Nat.le_of_lt HLT.out))⟩
  have := H4.out.mono (base' := w.heap.size) (by have := HLT.out; omega)
  simpa using this
end Go.Proofs.Ytpoacgnncinmiaa
