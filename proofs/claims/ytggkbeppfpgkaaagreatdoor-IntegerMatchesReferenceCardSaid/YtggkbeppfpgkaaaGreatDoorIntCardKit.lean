/- What the cards of layer 3 share: a world for the witnesses, with the library's variables as the row lists them. -/
import Derived.Test.YtggkbeppfpgkaaaGreatDoorCards
import Derived.Test.YtggkbeppfpgkaaaGreatDoorTie
import Derived.Test.YtggkbeppfpgkaaaGreatDoorLawKit
import Derived.Test.YtggkbeppfpgkaaaGreatDoorIntSane
namespace Go.Proofs.YtggkbeppfpgkaaaGreatDoor
open Go.ChangeShapes Go.WideShapes Go.ChangeAt Go.RowKit

set_option maxRecDepth 100000 in
theorem szI {s : ByteArray} (h : s.size ≤ maxLen) : (s.size : Int) ≤ 9223372036854775807 := by unfold maxLen at h; omega
def putCells (cs : List Value) : Obj → Obj
  | .cells _ t f => .cells cs.toArray t f
  | o => o
def u8s (l : List Nat) : List Value := l.map fun n : Nat => .int .u8 (n : Int)
def acceptZ : List Nat := [128, 191, 160, 191, 128, 159, 144, 191, 128, 143, 0, 0, 0, 0, 0, 0, 0, 0, 0, 0, 0, 0, 0, 0, 0, 0, 0, 0, 0, 0, 0, 0]
/-- A world for the witnesses: the settled one, with the two tables of utf8. -/
noncomputable def laidWorld (os : Os) (args : Array Value) : World :=
  { World.holding Tryz.prog os ⟨#[], args, []⟩ with heap := ((World.holding Tryz.prog os ⟨#[], args, []⟩).heap.modify 3 (putCells (u8s Go.Pinned.utf8FirstZ))).modify 4 (putCells (u8s acceptZ)) }
end Go.Proofs.YtggkbeppfpgkaaaGreatDoor
