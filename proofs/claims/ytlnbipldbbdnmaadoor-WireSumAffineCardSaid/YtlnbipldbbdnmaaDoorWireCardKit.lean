/- What the cards of layer 1 share: the table, a world for the witnesses, arrays of two strings. -/
import Derived.Test.YtlnbipldbbdnmaaDoorCards
import Derived.Test.YtlnbipldbbdnmaaDoorTie
import Derived.Test.YtlnbipldbbdnmaaDoorLawKit
import Derived.Test.YtlnbipldbbdnmaaDoorWireSum
namespace Go.Proofs.YtlnbipldbbdnmaaDoor
open Go.ChangeShapes Go.WideShapes Go.ChangeAt Go.RowKit

theorem gSums : Tryd.prog.globalNamed "putlog/wire.sums" = some 0 := by kernel_rfl
theorem gSumsType : (Tryd.prog.globals[0]?).map (·.type) = some 55 := by kernel_rfl
theorem cellsTab : Tryd.prog.cellsOf 55 = 16 := by kernel_rfl
theorem cellsU32 : Tryd.prog.cellsOf 43 = 1 := by kernel_rfl
theorem laid_eq {H : Type} : (Rows.laid_putlog_wire_sums : DataW H) = Lib.tabData .u32 (Putlog.crcTab.map fun n : Nat => (n : Int)) := rfl
theorem tabAt_of_laid {W : World} (h : laidMetH Tryd.prog [("putlog/wire.sums", Rows.laid_putlog_wire_sums)] W) : TabAt W := by
  have ht : Lib.TabIs Tryd.prog W "putlog/wire.sums" .u32 (Putlog.crcTab.map fun n : Nat => (n : Int)) :=
    Lib.tabIs_of_head (rest := []) gSums gSumsType Tryd.underlying55 Tryd.underlying43 cellsU32 cellsTab h
  intro i hi
  have := ht.cell gSums i (by simpa [Putlog.crcTab] using hi)
  rw [this]
  match i, hi with
  | 0, _ | 1, _ | 2, _ | 3, _ | 4, _ | 5, _ | 6, _ | 7, _ | 8, _ | 9, _ | 10, _ | 11, _ | 12, _ | 13, _ | 14, _ | 15, _ => rfl
  | n + 16, h => omega

/-- A world for the witnesses: the settled one, with the table. -/
noncomputable def laidWorld (os : Os) (args : Array Value) : World :=
  { World.holding Tryd.prog os ⟨#[], args, []⟩ with heap := (World.holding Tryd.prog os ⟨#[], args, []⟩).heap.modify 0 fun
      | .cells _ t frozen => .cells (Putlog.crcTab.map fun n : Nat => Value.int .u32 (n : Int)).toArray t frozen
      | o => o }

theorem cells2 : Tryd.prog.cellsOf 36 = 2 := by kernel_rfl
theorem cells1 : Tryd.prog.cellsOf 9 = 1 := by kernel_rfl
theorem open_str2 {H : Type} {enc : TypeId × Value → H} {w : World} {b0 : Nat} {sp : Nat → Bool} {r : Reach} {base : Nat} {held : Bool} {v : Value} {d : DataW H} {ps : List MemPlace}
    (hval : Value.okWide Tryd.prog w r b0 36 v) (h : DataW.Trod enc Tryd.prog w base sp held 36 v d ps) :
    ∃ a b : ByteArray, v = .agg #[.string a, .string b] ∧ a.size ≤ maxLen ∧ b.size ≤ maxLen := by
  unfold Value.okWide at hval
  rw [Tryd.underlying36] at hval
  obtain ⟨cs, rfl, hsz, _⟩ := hval
  rw [cells2] at hsz
  obtain ⟨fuel, hf⟩ := h
  obtain ⟨xs, m, _, _, _, hn, hel⟩ := DataW.trod_array Tryd.underlying36 hf
  rw [cells1] at hel
  obtain ⟨cs⟩ := cs
  match cs, hsz, xs, hn with
  | [c0, c1], _, [x0, x1], _ =>
    obtain ⟨a, ha, _, hwa⟩ := DataW.trod_string Tryd.underlying9 (hel 0 (by decide))
    obtain ⟨b, hb, _, hwb⟩ := DataW.trod_string Tryd.underlying9 (hel 1 (by decide))
    simp [Value.cells] at ha hb
    exact ⟨a, b, by rw [ha, hb], hwa, hwb⟩

end Go.Proofs.YtlnbipldbbdnmaaDoor
