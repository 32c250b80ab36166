/- An act, whatever it is. -/
import Derived.Test.YtbdmlhmmdcdppaaR4l
namespace Go.Proofs.Ytbdmlhmmdcdppaa
open Go.RowKit Go.Maps
set_option maxRecDepth 100000

/-- Act.Do: both pagers answer alike, and lie beside each other as before. -/
theorem do_any {w0 w : World} {x r p N c : Nat} {S : PS} {T : Option PS} {G : Lg} {H : Option Lg} (h : Pr w0 w x r p N c S T G H) (hr : Rl N S T G H) (hN : N ≤ 400) (hN2 : 2 ≤ N) (hc : c < 100) (kind z : Int) (v : Value) (b : List UInt8) (hv : Bs w v b)
    (hvo : 0 < b.length → ∀ g, v.ownBlock = some g → g < w0.heap.size) (hzw : (Lit.int .i64 z).wf = true) (hbl : b.length ≤ 100000) :
    Calls Try.prog 17 #[.agg #[.int .i64 kind, .int .i64 z, v], .pointer (some ⟨p, 0, none⟩), .pointer (some ⟨x, 0, none⟩)] w fun e w' => DoneTo w0 x r p N (c + 1) e w' := by
  have hk := within_range kind 14 (by decide)
  have : withinOf kind 14 = 0 ∨ withinOf kind 14 = 1 ∨ withinOf kind 14 = 2 ∨ withinOf kind 14 = 3 ∨ withinOf kind 14 = 4 ∨ withinOf kind 14 = 5 ∨ withinOf kind 14 = 6 ∨ withinOf kind 14 = 7 ∨ withinOf kind 14 = 8 ∨ withinOf kind 14 = 9 ∨ withinOf kind 14 = 10 ∨ withinOf kind 14 = 11 ∨ withinOf kind 14 = 12 ∨ withinOf kind 14 = 13 := by omega
  rcases this with e | e | e | e | e | e | e | e | e | e | e | e | e | e
  · exact do_begin0 h hr hN hN2 hc kind z v b hv e
  · exact do_new1 h hr hN hN2 hc kind z v b hv e
  · exact do_new2 h hr hN hN2 hc kind z v b hv e
  · exact do_new3 h hr hN hN2 hc kind z v b hv e
  · exact do_put4 h hr hN hN2 hc kind z v b hv hvo hbl e
  · exact do_put5 h hr hN hN2 hc kind z v b hv hvo hbl e
  · exact do_put6 h hr hN hN2 hc kind z v b hv hvo hbl e
  · exact do_drop7 h hr hN hN2 hc kind z v b hv e
  · exact do_drop8 h hr hN hN2 hc kind z v b hv e
  · exact do_root9 h hr hN hN2 hc kind z v b hv hvo hzw e
  · exact do_commit10 h hr hN hN2 hc kind z v b hv e
  · exact do_commit11 h hr hN hN2 hc kind z v b hv e
  · exact do_commit12 h hr hN hN2 hc kind z v b hv e
  · exact do_abort13 h hr hN hN2 hc kind z v b hv e
end Go.Proofs.Ytbdmlhmmdcdppaa
