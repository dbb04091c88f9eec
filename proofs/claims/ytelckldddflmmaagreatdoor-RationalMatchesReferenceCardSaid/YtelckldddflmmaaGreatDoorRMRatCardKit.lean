/- What the cards of layer 4 share: the library's tables, a world for the witnesses. -/
import Derived.Test.YtelckldddflmmaaGreatDoorCards
import Derived.Test.YtelckldddflmmaaGreatDoorTie
import Derived.Lay
import Derived.Stop.LaidErr
import Derived.Test.YtelckldddflmmaaGreatDoorRM6
namespace Go.Proofs.YtelckldddflmmaaGreatDoor
open Go.ChangeShapes Go.WideShapes Go.ChangeAt Go.RowKit

theorem gPowType : (Tryz.prog.globals[1]?).map (·.type) = some 166 := by kernel_rfl
theorem cellsPow : Tryz.prog.cellsOf 166 = 20 := by kernel_rfl
theorem cellsU64 : Tryz.prog.cellsOf 133 = 1 := by kernel_rfl
theorem pow_eq {H : Type} : (Rows.laid_internal_strconv_uint64pow10 : DataW H) = Lib.tabData .u64 Lib.pow10Tab := rfl
theorem tab_of_laid {W : World} (h : laidMetH Tryz.prog [("math/bits.deBruijn32tab", Rows.laid_math_bits_deBruijn32tab), ("math/bits.deBruijn64tab", Rows.laid_math_bits_deBruijn64tab), ("internal/strconv.uint64pow10", Rows.laid_internal_strconv_uint64pow10), ("unicode/utf8.acceptRanges", Rows.laid_unicode_utf8_acceptRanges), ("unicode/utf8.first", Rows.laid_unicode_utf8_first)] W) : TabP W := by
  have h1 : laidMet Tryz.prog [("math/bits.deBruijn32tab", Rows.laid_math_bits_deBruijn32tab), ("math/bits.deBruijn64tab", Rows.laid_math_bits_deBruijn64tab), ("internal/strconv.uint64pow10", Rows.laid_internal_strconv_uint64pow10), ("unicode/utf8.acceptRanges", Rows.laid_unicode_utf8_acceptRanges), ("unicode/utf8.first", Rows.laid_unicode_utf8_first)] W := h
  have h2 := h1.tail.tail
  rw [pow_eq] at h2
  have ht := Lib.tabIs_of_head gPow gPowType Tryz.underlying166 Tryz.underlying133 cellsU64 cellsPow h2
  exact ⟨ht, lt_of_cell (ht.cell gPow 0 (by decide))⟩
end Go.Proofs.YtelckldddflmmaaGreatDoor
