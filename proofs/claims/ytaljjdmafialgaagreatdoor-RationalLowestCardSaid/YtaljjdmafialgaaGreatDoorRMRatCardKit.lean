/- What the cards of layer 4 share: the library's tables, a world for the witnesses. -/
import Derived.Test.YtaljjdmafialgaaGreatDoorCards
import Derived.Test.YtaljjdmafialgaaGreatDoorTie
import Derived.Lay
import Derived.Stop.LaidErr
import Derived.Test.YtaljjdmafialgaaGreatDoorRM4
namespace Go.Proofs.YtaljjdmafialgaaGreatDoor
open Go.ChangeShapes Go.WideShapes Go.ChangeAt Go.RowKit

theorem gPowType : (Tryz.prog.globals[1]?).map (·.type) = some 174 := by kernel_rfl
theorem cellsPow : Tryz.prog.cellsOf 174 = 20 := by kernel_rfl
theorem cellsU64 : Tryz.prog.cellsOf 141 = 1 := by kernel_rfl
theorem pow_eq {H : Type} : (Rows.laid_internal_strconv_uint64pow10 : DataW H) = Lib.tabData .u64 Lib.pow10Tab := rfl
theorem tab_of_laid {W : World} (h : laidMetH Tryz.prog [("math/bits.deBruijn32tab", Rows.laid_math_bits_deBruijn32tab), ("math/bits.deBruijn64tab", Rows.laid_math_bits_deBruijn64tab), ("internal/strconv.uint64pow10", Rows.laid_internal_strconv_uint64pow10), ("unicode/utf8.acceptRanges", Rows.laid_unicode_utf8_acceptRanges), ("unicode/utf8.first", Rows.laid_unicode_utf8_first)] W) : TabP W := by
  have h1 : laidMet Tryz.prog [("math/bits.deBruijn32tab", Rows.laid_math_bits_deBruijn32tab), ("math/bits.deBruijn64tab", Rows.laid_math_bits_deBruijn64tab), ("internal/strconv.uint64pow10", Rows.laid_internal_strconv_uint64pow10), ("unicode/utf8.acceptRanges", Rows.laid_unicode_utf8_acceptRanges), ("unicode/utf8.first", Rows.laid_unicode_utf8_first)] W := h
  have h2 := h1.tail.tail
  rw [pow_eq] at h2
  have ht := Lib.tabIs_of_head gPow gPowType Tryz.underlying174 Tryz.underlying141 cellsU64 cellsPow h2
  exact ⟨ht, lt_of_cell (ht.cell gPow 0 (by decide))⟩
end Go.Proofs.YtaljjdmafialgaaGreatDoor
