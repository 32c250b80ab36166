/- DecKnown's laid condition gives both tables. -/
import Derived.Test.YtecomfhbdonkbaaGreatDoorRx
import Derived.Test.YtecomfhbdonkbaaGreatDoorRy
namespace Go.Proofs.YtecomfhbdonkbaaGreatDoor
open Go.Shelf
open Go.ChangeShapes Go.WideShapes Go.ChangeAt Go.RowKit
set_option linter.unusedVariables false
set_option maxRecDepth 100000
theorem both_of_laid {W : World} (h : laidMetH Tryz.prog [("math/bits.deBruijn32tab", Rows.laid_math_bits_deBruijn32tab), ("math/bits.deBruijn64tab", Rows.laid_math_bits_deBruijn64tab), ("internal/strconv.uint64pow10", Rows.laid_internal_strconv_uint64pow10), ("unicode/utf8.acceptRanges", Rows.laid_unicode_utf8_acceptRanges), ("math.pow10tab", Rows.laid_math_pow10tab), ("math.pow10postab32", Rows.laid_math_pow10postab32), ("math.pow10negtab32", Rows.laid_math_pow10negtab32), ("unicode/utf8.first", Rows.laid_unicode_utf8_first)] W) : PowAt W ∧ TabP W := by
  rw [MakeChecks.laidMetH_plain _ _ _ (by kernel_rfl)] at h
  have h4 := Lib.laidMet.reads h (n := "internal/strconv.uint64pow10") (.tail _ (.tail _ (.head _)))
  have e4 : (Rows.laid_internal_strconv_uint64pow10 : DataW Unit) = Lib.tabData .u64 Lib.pow10Tab := by kernel_rfl
  rw [e4] at h4
  have h1 := pow_reads (Lib.laidMet.reads h (n := "math.pow10tab") (.tail _ (.tail _ (.tail _ (.tail _ (.head _))))))
  have h2 := pos_reads (Lib.laidMet.reads h (n := "math.pow10postab32") (.tail _ (.tail _ (.tail _ (.tail _ (.tail _ (.head _)))))))
  exact ⟨⟨⟨World.block_lt_of_cell? W _ h2, World.block_lt_of_cell? W _ (h1 0 (by decide))⟩, h2, h1⟩, tab_of_reads h4⟩
end Go.Proofs.YtecomfhbdonkbaaGreatDoor
