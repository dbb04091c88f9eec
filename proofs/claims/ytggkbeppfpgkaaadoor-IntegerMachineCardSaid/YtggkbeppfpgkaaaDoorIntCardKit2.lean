/- From the rows' condition on the library's variables to what the walks take of them. -/
import Derived.Test.YtggkbeppfpgkaaaDoorIntCardKit
import Derived.Test.YtggkbeppfpgkaaaDoorIntInts
import Derived.Lay
import Derived.Stop.LaidErr
namespace Go.Proofs.YtggkbeppfpgkaaaDoor
open Go.ChangeShapes Go.WideShapes Go.ChangeAt Go.RowKit

theorem gPowType : (Tryd.prog.globals[2]?).map (·.type) = some 111 := by kernel_rfl
theorem cellsPow : Tryd.prog.cellsOf 111 = 20 := by kernel_rfl
theorem cellsU64 : Tryd.prog.cellsOf 90 = 1 := by kernel_rfl
theorem pow_eq {H : Type} : (Rows.laid_internal_strconv_uint64pow10 : DataW H) = Lib.tabData .u64 Lib.pow10Tab := rfl
theorem gErrType : (Tryd.prog.globals[1]?).map (·.type) = some 42 := by kernel_rfl
theorem star_name : "*errors.errorString" = "*" ++ "errors.errorString" := by decide +kernel
theorem row_err (u : TypeId) (h : Tryd.prog.typeName? 3 u = some "*errors.errorString") : u = 117 :=
  typeName_ptr_named (nm := "errors.errorString") (by rw [← star_name]; kernel_rfl) (by kernel_rfl) (by decide) u (by rw [← star_name]; exact h)
theorem tabs_of_laid {W : World} (h : laidMetH Tryd.prog [("math/bits.deBruijn32tab", Rows.laid_math_bits_deBruijn32tab), ("math/bits.deBruijn64tab", Rows.laid_math_bits_deBruijn64tab), ("internal/strconv.uint64pow10", Rows.laid_internal_strconv_uint64pow10), ("unicode/utf8.acceptRanges", Rows.laid_unicode_utf8_acceptRanges), ("strconv.ErrRange", Rows.laid_strconv_ErrRange), ("strconv.ErrSyntax", Rows.laid_strconv_ErrSyntax), ("unicode/utf8.first", Rows.laid_unicode_utf8_first)] W) : Tabs W := by
  have h1 : laidMet Tryd.prog [("math/bits.deBruijn32tab", Rows.laid_math_bits_deBruijn32tab), ("math/bits.deBruijn64tab", Rows.laid_math_bits_deBruijn64tab), ("internal/strconv.uint64pow10", Rows.laid_internal_strconv_uint64pow10), ("unicode/utf8.acceptRanges", Rows.laid_unicode_utf8_acceptRanges), ("strconv.ErrRange", Rows.laid_strconv_ErrRange), ("strconv.ErrSyntax", Rows.laid_strconv_ErrSyntax), ("unicode/utf8.first", Rows.laid_unicode_utf8_first)] W := h
  have h2 := h1.tail.tail
  rw [pow_eq] at h2
  have ht := Lib.tabIs_of_head gPow gPowType Tryd.underlying111 Tryd.underlying90 cellsU64 cellsPow h2
  obtain ⟨a, s, hv, _⟩ := laid_sentinel h2.tail.tail gErr gErrType Tryd.underlying42 (tp := 117) (te := 119) row_err Tryd.underlying117 Tryd.underlying119 rfl rfl Tryd.underlying9 (by kernel_rfl) (by kernel_rfl)
  refine ⟨ht, ⟨_, _, hv⟩, ?_⟩
  have := lt_of_cell (ht.cell gPow 0 (by decide))
  omega
end Go.Proofs.YtggkbeppfpgkaaaDoor
