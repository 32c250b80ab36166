/- triadref4: what is answered without a transaction, and by a second Begin. -/
import Derived.Test.YtbdmlhmmdcdppaaRGet
namespace Go.Proofs.Ytbdmlhmmdcdppaa
open Go.RowKit Go.Maps
set_option maxRecDepth 100000
section
variable {w : World} {Q : Nat → Prop} {x pages : Nat} {S : PS}
theorem Rp.open {T : Option PS} (h : Rp w Q x pages S T) : w.cell? ⟨x, 9, none⟩ = some (.bool T.isSome) := by
  obtain ⟨mS, gS, mT, gT, nT, rT, QS, QT, hb, -⟩ := h
  rw [hb.cell]; rfl
theorem rbegin_busy {t : PS} (h : Rp w Q x pages S (some t)) :
    Calls Try.prog 20 #[.pointer (some ⟨x, 0, none⟩)] w fun e w' => e = .returned (.int .i64 12) ∧ w' = w := by
  have c9 : w.cell? ⟨x, 9, none⟩ = some (.bool true) := h.open
  clear h
  go_enter Try.func20, Try.ntmps20
  go_wp2_with fail
  go_ret
  exact ⟨rfl, rfl⟩
theorem rput_busy (i : Int) (v : Value) (h : Rp w Q x pages S none) :
    Calls Try.prog 37 #[.pointer (some ⟨x, 0, none⟩), .int .i64 i, v] w fun e w' => e = .returned (.int .i64 12) ∧ w' = w := by
  have c9 : w.cell? ⟨x, 9, none⟩ = some (.bool false) := h.open
  clear h
  go_enter Try.func37, Try.ntmps37
  go_wp2_with fail
  go_ret
  exact ⟨rfl, rfl⟩
theorem rdrop_busy (i : Int) (h : Rp w Q x pages S none) :
    Calls Try.prog 38 #[.pointer (some ⟨x, 0, none⟩), .int .i64 i] w fun e w' => e = .returned (.int .i64 12) ∧ w' = w := by
  have c9 : w.cell? ⟨x, 9, none⟩ = some (.bool false) := h.open
  clear h
  go_enter Try.func38, Try.ntmps38
  go_wp2_with fail
  go_ret
  exact ⟨rfl, rfl⟩
theorem rsetroot_busy (i : Int) (h : Rp w Q x pages S none) :
    Calls Try.prog 39 #[.pointer (some ⟨x, 0, none⟩), .int .i64 i] w fun e w' => e = .returned (.int .i64 12) ∧ w' = w := by
  have c9 : w.cell? ⟨x, 9, none⟩ = some (.bool false) := h.open
  clear h
  go_enter Try.func39, Try.ntmps39
  go_wp2_with fail
  go_ret
  exact ⟨rfl, rfl⟩
theorem rcommit_busy (h : Rp w Q x pages S none) :
    Calls Try.prog 22 #[.pointer (some ⟨x, 0, none⟩)] w fun e w' => e = .returned (.int .i64 12) ∧ w' = w := by
  have c9 : w.cell? ⟨x, 9, none⟩ = some (.bool false) := h.open
  clear h
  go_enter Try.func22, Try.ntmps22
  go_wp2_with fail
  go_ret
  exact ⟨rfl, rfl⟩
theorem rnew_busy (h : Rp w Q x pages S none) :
    Calls Try.prog 27 #[.pointer (some ⟨x, 0, none⟩)] w fun e w' => e = .returned (.tuple #[.int .i64 0, .int .i64 12]) ∧ w' = w := by
  have c9 : w.cell? ⟨x, 9, none⟩ = some (.bool false) := h.open
  clear h
  go_enter Try.func27, Try.ntmps27
  go_wp2_with fail
  go_ret2
  exact ⟨rfl, rfl⟩
theorem rsetroot_arg {t : PS} (i : Int) (h : Rp w Q x pages S (some t)) (hi : i < 0) :
    Calls Try.prog 39 #[.pointer (some ⟨x, 0, none⟩), .int .i64 i] w fun e w' => e = .returned (.int .i64 1) ∧ w' = w := by
  have c9 : w.cell? ⟨x, 9, none⟩ = some (.bool true) := h.open
  clear h
  go_enter Try.func39, Try.ntmps39
  go_wp2_with fail
  go_ret
  exact ⟨rfl, rfl⟩
end
end Go.Proofs.Ytbdmlhmmdcdppaa
