/- Opening an argument of two integers. -/
import Derived.Test.YtelckldddflmmaaGreatDoorRMRatCardKit2
namespace Go.Proofs.YtelckldddflmmaaGreatDoor
open Go.ChangeShapes Go.WideShapes Go.ChangeAt Go.RowKit

theorem cellsI2 : Tryz.prog.cellsOf 25 = 2 := by kernel_rfl
set_option maxRecDepth 100000 in
theorem open_int2 {H : Type} {enc : TypeId × Value → H} {w : World} {b0 : Nat} {sp : Nat → Bool} {r : Reach} {base : Nat} {held : Bool} {v : Value} {d : DataW H} {ps : List MemPlace}
    (hval : Value.okWide Tryz.prog w r b0 25 v) (h : DataW.Trod enc Tryz.prog w base sp held 25 v d ps) :
    ∃ x0 x1 : Int, v = .agg #[.int .i64 x0, .int .i64 x1] ∧ (-9223372036854775808 ≤ x0 ∧ x0 ≤ 9223372036854775807) ∧ (-9223372036854775808 ≤ x1 ∧ x1 ≤ 9223372036854775807) := by
  unfold Value.okWide at hval
  rw [Tryz.underlying25] at hval
  obtain ⟨cs, rfl, hsz, _⟩ := hval
  rw [cellsI2] at hsz
  obtain ⟨fuel, hf⟩ := h
  obtain ⟨xs, m, _, _, _, hn, hel⟩ := DataW.trod_array Tryz.underlying25 hf
  rw [cellsI1] at hel
  obtain ⟨cs⟩ := cs
  match cs, hsz, xs, hn with
  | [c0, c1], _, [y0, y1], _ =>
    obtain ⟨a, ha, _, wa⟩ := DataW.trod_int Tryz.underlying3 (hel 0 (by decide))
    obtain ⟨b, hb, _, wb⟩ := DataW.trod_int Tryz.underlying3 (hel 1 (by decide))
    simp [Value.cells] at ha hb
    exact ⟨a, b, by rw [ha, hb], bounds_i64 wa, bounds_i64 wb⟩
end Go.Proofs.YtelckldddflmmaaGreatDoor
