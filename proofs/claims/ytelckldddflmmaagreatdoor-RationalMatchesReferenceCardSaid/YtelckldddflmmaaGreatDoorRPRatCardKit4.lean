/- Opening an argument that is a fraction. -/
import Derived.Lib.SmallJoins
import Derived.Test.YtelckldddflmmaaGreatDoorRMRatCardKit3
namespace Go.Proofs.YtelckldddflmmaaGreatDoor
open Go.ChangeShapes Go.WideShapes Go.ChangeAt Go.RowKit

theorem cellsQ : Tryz.prog.cellsOf 23 = 2 := by kernel_rfl
theorem sized_max {s : ByteArray} (h : s.size ≤ maxLen) : Sized s := by unfold maxLen at h; unfold Sized; omega
set_option maxRecDepth 100000 in
theorem open_ratio {H : Type} {enc : TypeId × Value → H} {w : World} {b0 : Nat} {sp : Nat → Bool} {r : Reach} {base : Nat} {held : Bool} {v : Value} {d : DataW H} {ps : List MemPlace}
    (hval : Value.okWide Tryz.prog w r b0 23 v) (h : DataW.Trod enc Tryz.prog w base sp held 23 v d ps) :
    ∃ x y : ByteArray, v = .agg #[.string x, .string y] ∧ Sized x ∧ Sized y := by
  obtain ⟨v0, v1, y0, y1, n, rfl, _, _, h0, h1⟩ := Go.Joins.open_agg2 Tryz.underlying23 (by kernel_rfl) cellsQ hval h
  obtain ⟨a, ha, _, wa⟩ := DataW.trod_string Tryz.underlying9 h0
  obtain ⟨b, hb, _, wb⟩ := DataW.trod_string Tryz.underlying9 h1
  simp at ha hb
  exact ⟨a, b, by rw [ha, hb], sized_max wa, sized_max wb⟩
end Go.Proofs.YtelckldddflmmaaGreatDoor
