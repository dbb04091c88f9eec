/- From the rows' condition on the library's variables to what the walks take of them. -/
import Derived.Test.YtggkbeppfpgkaaaGreatDoorIntCardKit
import Derived.Test.YtggkbeppfpgkaaaGreatDoorIntInts
import Derived.Lay
import Derived.Stop.LaidErr
namespace Go.Proofs.YtggkbeppfpgkaaaGreatDoor
open Go.ChangeShapes Go.WideShapes Go.ChangeAt Go.RowKit

theorem gPowType : (Tryz.prog.globals[2]?).map (·.type) = some 127 := by kernel_rfl
theorem cellsPow : Tryz.prog.cellsOf 127 = 20 := by kernel_rfl
theorem cellsU64 : Tryz.prog.cellsOf 105 = 1 := by kernel_rfl
theorem pow_eq {H : Type} : (Rows.laid_internal_strconv_uint64pow10 : DataW H) = Lib.tabData .u64 Lib.pow10Tab := rfl
theorem gErrType : (Tryz.prog.globals[1]?).map (·.type) = some 67 := by kernel_rfl
theorem star_name : "*errors.errorString" = "*" ++ "errors.errorString" := by decide +kernel
theorem row_err (u : TypeId) (h : Tryz.prog.typeName? 3 u = some "*errors.errorString") : u = 123 :=
  typeName_ptr_named (nm := "errors.errorString") (by rw [← star_name]; kernel_rfl) (by kernel_rfl) (by decide) u (by rw [← star_name]; exact h)
theorem tabs_of_laid {W : World} (h : laidMetH Tryz.prog [("math/bits.deBruijn32tab", Rows.laid_math_bits_deBruijn32tab), ("math/bits.deBruijn64tab", Rows.laid_math_bits_deBruijn64tab), ("internal/strconv.uint64pow10", Rows.laid_internal_strconv_uint64pow10), ("unicode/utf8.acceptRanges", Rows.laid_unicode_utf8_acceptRanges), ("strconv.ErrRange", Rows.laid_strconv_ErrRange), ("strconv.ErrSyntax", Rows.laid_strconv_ErrSyntax), ("unicode/utf8.first", Rows.laid_unicode_utf8_first)] W) : Tabs W := by
  have h1 : laidMet Tryz.prog [("math/bits.deBruijn32tab", Rows.laid_math_bits_deBruijn32tab), ("math/bits.deBruijn64tab", Rows.laid_math_bits_deBruijn64tab), ("internal/strconv.uint64pow10", Rows.laid_internal_strconv_uint64pow10), ("unicode/utf8.acceptRanges", Rows.laid_unicode_utf8_acceptRanges), ("strconv.ErrRange", Rows.laid_strconv_ErrRange), ("strconv.ErrSyntax", Rows.laid_strconv_ErrSyntax), ("unicode/utf8.first", Rows.laid_unicode_utf8_first)] W := h
  have h2 := h1.tail.tail
  rw [pow_eq] at h2
  have ht := Lib.tabIs_of_head gPow gPowType Tryz.underlying127 Tryz.underlying105 cellsU64 cellsPow h2
  obtain ⟨a, s, hv, _⟩ := laid_sentinel h2.tail.tail gErr gErrType Tryz.underlying67 (tp := 123) (te := 125) row_err Tryz.underlying123 Tryz.underlying125 rfl rfl Tryz.underlying9 (by kernel_rfl) (by kernel_rfl)
  refine ⟨ht, ⟨_, _, hv⟩, ?_⟩
  have := lt_of_cell (ht.cell gPow 0 (by decide))
  omega
end Go.Proofs.YtggkbeppfpgkaaaGreatDoor
