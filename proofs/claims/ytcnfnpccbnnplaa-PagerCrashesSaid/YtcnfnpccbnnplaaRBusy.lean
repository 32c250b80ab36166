/- triadref4: what is answered without a transaction, and by a second Begin. -/
import Derived.Test.YtcnfnpccbnnplaaRGet
namespace Go.Proofs.Ytcnfnpccbnnplaa
open Go.RowKit Go.Maps
set_option maxRecDepth 100000
section
variable {w : World} {Q : Nat → Prop} {x pages : Nat} {S : PS}
theorem Rp.open {T : Option PS} (h : Rp w Q x pages S T) : w.cell? ⟨x, 9, none⟩ = some (.bool T.isSome) := by
  obtain ⟨mS, gS, mT, gT, nT, rT, QS, QT, hb, -⟩ := h
  rw [hb.cell]; rfl
theorem rbegin_busy {t : PS} (h : Rp w Q x pages S (some t)) :
    Calls Try.prog 14 #[.pointer (some ⟨x, 0, none⟩)] w fun e w' => e = .returned (.int .i64 12) ∧ w' = w := by
  have c9 : w.cell? ⟨x, 9, none⟩ = some (.bool true) := h.open
  clear h
  go_enter Try.func14, Try.ntmps14
  go_wp2_with fail
  go_ret
  exact ⟨rfl, rfl⟩
theorem rput_busy (i : Int) (v : Value) (h : Rp w Q x pages S none) :
    Calls Try.prog 47 #[.pointer (some ⟨x, 0, none⟩), .int .i64 i, v] w fun e w' => e = .returned (.int .i64 12) ∧ w' = w := by
  have c9 : w.cell? ⟨x, 9, none⟩ = some (.bool false) := h.open
  clear h
  go_enter Try.func47, Try.ntmps47
  go_wp2_with fail
  go_ret
  exact ⟨rfl, rfl⟩
theorem rdrop_busy (i : Int) (h : Rp w Q x pages S none) :
    Calls Try.prog 49 #[.pointer (some ⟨x, 0, none⟩), .int .i64 i] w fun e w' => e = .returned (.int .i64 12) ∧ w' = w := by
  have c9 : w.cell? ⟨x, 9, none⟩ = some (.bool false) := h.open
  clear h
  go_enter Try.func49, Try.ntmps49
  go_wp2_with fail
  go_ret
  exact ⟨rfl, rfl⟩
theorem rsetroot_busy (i : Int) (h : Rp w Q x pages S none) :
    Calls Try.prog 51 #[.pointer (some ⟨x, 0, none⟩), .int .i64 i] w fun e w' => e = .returned (.int .i64 12) ∧ w' = w := by
  have c9 : w.cell? ⟨x, 9, none⟩ = some (.bool false) := h.open
  clear h
  go_enter Try.func51, Try.ntmps51
  go_wp2_with fail
  go_ret
  exact ⟨rfl, rfl⟩
theorem rcommit_busy (h : Rp w Q x pages S none) :
    Calls Try.prog 18 #[.pointer (some ⟨x, 0, none⟩)] w fun e w' => e = .returned (.int .i64 12) ∧ w' = w := by
  have c9 : w.cell? ⟨x, 9, none⟩ = some (.bool false) := h.open
  clear h
  go_enter Try.func18, Try.ntmps18
  go_wp2_with fail
  go_ret
  exact ⟨rfl, rfl⟩
theorem rnew_busy (h : Rp w Q x pages S none) :
    Calls Try.prog 25 #[.pointer (some ⟨x, 0, none⟩)] w fun e w' => e = .returned (.tuple #[.int .i64 0, .int .i64 12]) ∧ w' = w := by
  have c9 : w.cell? ⟨x, 9, none⟩ = some (.bool false) := h.open
  clear h
  go_enter Try.func25, Try.ntmps25
  go_wp2_with fail
  go_ret2
  exact ⟨rfl, rfl⟩
theorem rsetroot_arg {t : PS} (i : Int) (h : Rp w Q x pages S (some t)) (hi : i < 0) :
    Calls Try.prog 51 #[.pointer (some ⟨x, 0, none⟩), .int .i64 i] w fun e w' => e = .returned (.int .i64 1) ∧ w' = w := by
  have c9 : w.cell? ⟨x, 9, none⟩ = some (.bool true) := h.open
  clear h
  go_enter Try.func51, Try.ntmps51
  go_wp2_with fail
  go_ret
  exact ⟨rfl, rfl⟩
end
end Go.Proofs.Ytcnfnpccbnnplaa
