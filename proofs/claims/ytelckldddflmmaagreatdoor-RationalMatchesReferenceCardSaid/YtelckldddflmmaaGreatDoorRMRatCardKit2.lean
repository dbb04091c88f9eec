/- Opening the arguments that are arrays of integers. -/
import Derived.Test.YtelckldddflmmaaGreatDoorRMRatCardKit
namespace Go.Proofs.YtelckldddflmmaaGreatDoor
open Go.ChangeShapes Go.WideShapes Go.ChangeAt Go.RowKit

theorem cellsI4 : Tryz.prog.cellsOf 24 = 4 := by kernel_rfl
theorem cellsI1 : Tryz.prog.cellsOf 3 = 1 := by kernel_rfl
set_option maxRecDepth 100000 in
theorem open_int4 {H : Type} {enc : TypeId × Value → H} {w : World} {b0 : Nat} {sp : Nat → Bool} {r : Reach} {base : Nat} {held : Bool} {v : Value} {d : DataW H} {ps : List MemPlace}
    (hval : Value.okWide Tryz.prog w r b0 24 v) (h : DataW.Trod enc Tryz.prog w base sp held 24 v d ps) :
    ∃ x0 x1 x2 x3 : Int, v = .agg #[.int .i64 x0, .int .i64 x1, .int .i64 x2, .int .i64 x3] ∧ (-9223372036854775808 ≤ x0 ∧ x0 ≤ 9223372036854775807) ∧ (-9223372036854775808 ≤ x1 ∧ x1 ≤ 9223372036854775807) ∧ (-9223372036854775808 ≤ x2 ∧ x2 ≤ 9223372036854775807) ∧ (-9223372036854775808 ≤ x3 ∧ x3 ≤ 9223372036854775807) := by
  unfold Value.okWide at hval
  rw [Tryz.underlying24] at hval
  obtain ⟨cs, rfl, hsz, _⟩ := hval
  rw [cellsI4] at hsz
  obtain ⟨fuel, hf⟩ := h
  obtain ⟨xs, m, _, _, _, hn, hel⟩ := DataW.trod_array Tryz.underlying24 hf
  rw [cellsI1] at hel
  obtain ⟨cs⟩ := cs
  match cs, hsz, xs, hn with
  | [c0, c1, c2, c3], _, [y0, y1, y2, y3], _ =>
    obtain ⟨a, ha, _, wa⟩ := DataW.trod_int Tryz.underlying3 (hel 0 (by decide))
    obtain ⟨b, hb, _, wb⟩ := DataW.trod_int Tryz.underlying3 (hel 1 (by decide))
    obtain ⟨c, hc, _, wc⟩ := DataW.trod_int Tryz.underlying3 (hel 2 (by decide))
    obtain ⟨e, he, _, we⟩ := DataW.trod_int Tryz.underlying3 (hel 3 (by decide))
    simp [Value.cells] at ha hb hc he
    exact ⟨a, b, c, e, by rw [ha, hb, hc, he], bounds_i64 wa, bounds_i64 wb, bounds_i64 wc, bounds_i64 we⟩
end Go.Proofs.YtelckldddflmmaaGreatDoor
