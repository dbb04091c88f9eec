/- What the cards of layer 1 share: the table, a world for the witnesses, arrays of two strings. -/
import Derived.Test.YtlnbipldbbdnmaaDoorCards
import Derived.Test.YtlnbipldbbdnmaaDoorTie
import Derived.Test.YtlnbipldbbdnmaaDoorLawKit
import Derived.Test.YtlnbipldbbdnmaaDoorWireSum
namespace Go.Proofs.YtlnbipldbbdnmaaDoor
open Go.ChangeShapes Go.WideShapes Go.ChangeAt Go.RowKit

theorem gSums : Tryd.prog.globalNamed "putlog/wire.sums" = some 0 := by kernel_rfl
theorem gSumsType : (Tryd.prog.globals[0]?).map (·.type) = some 55 := by kernel_rfl
theorem cellsTab : Tryd.prog.cellsOf 55 = 16 := by kernel_rfl
theorem cellsU32 : Tryd.prog.cellsOf 43 = 1 := by kernel_rfl
theorem laid_eq {H : Type} : (Rows.laid_putlog_wire_sums : DataW H) = Lib.tabData .u32 (Putlog.crcTab.map fun n : Nat => (n : Int)) := rfl
theorem tabAt_of_laid {W : World} (h : laidMetH Tryd.prog [("putlog/wire.sums", Rows.laid_putlog_wire_sums)] W) : TabAt W := by
  have ht : Lib.TabIs Tryd.prog W "putlog/wire.sums" .u32 (Putlog.crcTab.map fun n : Nat => (n : Int)) :=
    Lib.tabIs_of_head (rest := []) gSums gSumsType Tryd.underlying55 Tryd.underlying43 cellsU32 cellsTab h
  intro i hi
  have := ht.cell gSums i (by simpa [Putlog.crcTab] using hi)
  rw [this]
  match i, hi with
  | 0, _ | 1, _ | 2, _ | 3, _ | 4, _ | 5, _ | 6, _ | 7, _ | 8, _ | 9, _ | 10, _ | 11, _ | 12, _ | 13, _ | 14, _ | 15, _ => rfl
  | n + 16, h => omega

/-- A world for the witnesses: the settled one, with the table. -/
noncomputable def laidWorld (os : Os) (args : Array Value) : World :=
  { World.holding Tryd.prog os ⟨#[], args, []⟩ with heap := (World.holding Tryd.prog os ⟨#[], args, []⟩).heap.modify 0 fun
      | .cells _ t frozen => .cells (Putlog.crcTab.map fun n : Nat => Value.int .u32 (n : Int)).toArray t frozen
      | o => o }

end Go.Proofs.YtlnbipldbbdnmaaDoor
