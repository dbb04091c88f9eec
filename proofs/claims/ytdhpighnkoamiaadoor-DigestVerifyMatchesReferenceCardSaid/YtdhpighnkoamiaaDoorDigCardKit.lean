/- What the cards of layer 2 share: the table, a world for the witnesses, slices of strings among the arguments. -/
import Derived.Test.YtdhpighnkoamiaaDoorCards
import Derived.Test.YtdhpighnkoamiaaDoorTie
import Derived.Test.YtdhpighnkoamiaaDoorLawKit
import Derived.Test.YtdhpighnkoamiaaDoorDigApi
namespace Go.Proofs.YtdhpighnkoamiaaDoor
open Go.ChangeShapes Go.WideShapes Go.ChangeAt Go.RowKit

theorem gTab : Tryd.prog.globalNamed "putlog/digest.constants" = some 0 := by kernel_rfl
theorem gTabType : (Tryd.prog.globals[0]?).map (·.type) = some 72 := by kernel_rfl
theorem cellsTab : Tryd.prog.cellsOf 72 = 64 := by kernel_rfl
theorem cellsU32 : Tryd.prog.cellsOf 48 = 1 := by kernel_rfl
theorem laid_eq {H : Type} : (Rows.laid_putlog_digest_constants : DataW H) = Lib.tabData .u32 (Putlog.shaK.map fun n : Nat => (n : Int)) := rfl
theorem tabAt_of_laid {W : World} (h : laidMetH Tryd.prog [("putlog/digest.constants", Rows.laid_putlog_digest_constants)] W) : TabAt W := by
  have ht : Lib.TabIs Tryd.prog W "putlog/digest.constants" .u32 (Putlog.shaK.map fun n : Nat => (n : Int)) :=
    Lib.tabIs_of_head (rest := []) gTab gTabType Tryd.underlying72 Tryd.underlying48 cellsU32 cellsTab h
  intro i hi
  have hl : i < Putlog.shaK.length := hi
  have := ht.cell gTab i (by rw [List.length_map]; exact hl)
  rw [this]
  simp [List.getD_eq_getElem?_getD, hl]

/-- A world for the witnesses: the settled one, with the table. -/
noncomputable def laidWorld (os : Os) (args : Array Value) : World :=
  { World.holding Tryd.prog os ⟨#[], args, []⟩ with heap := (World.holding Tryd.prog os ⟨#[], args, []⟩).heap.modify 0 fun
      | .cells _ t frozen => .cells (Putlog.shaK.map fun n : Nat => Value.int .u32 (n : Int)).toArray t frozen
      | o => o }
theorem cells1 : Tryd.prog.cellsOf 9 = 1 := by kernel_rfl
theorem plain_addr {w : World} {a : Addr} {v : Value} (h : w.cell? (a.add 0) = some v) : ∃ b o, a = ⟨b, o, none⟩ := by
  have h1 := World.cell?_spot h
  obtain ⟨b, o, s⟩ := a
  simp [Addr.add] at h1
  subst h1
  exact ⟨b, o, rfl⟩
theorem plain_add (b o i : Nat) : (⟨b, o, none⟩ : Addr).add i = ⟨b, o + i, none⟩ := by unfold Addr.add; split <;> simp_all
theorem open_list {H : Type} {enc : TypeId × Value → H} {w : World} {b0 : Nat} {r : Reach} {base : Nat} {held : Bool} {v : Value} {d : DataW H} {ps : List MemPlace}
    (hval : Value.okWide Tryd.prog w r b0 26 v) (h : DataW.Trod enc Tryd.prog w base (fun _ => true) held 26 v d ps) :
    ∃ (a : Option Addr) (n c : Nat) (f : Nat → ByteArray), v = .slice a n c ∧ (n : Int) ≤ 9223372036854775807 ∧ (∀ j, j < n → (f j).size ≤ 9223372036854775807) ∧ SliceAt w a f n := by
  obtain ⟨x1, len1, cap1, rfl⟩ := okWide_slice Tryd.underlying26 hval
  rcases Nat.eq_zero_or_pos len1 with rfl | h0
  · exact ⟨x1, 0, cap1, fun _ => ByteArray.empty, rfl, by omega, fun j hj => by omega, SliceAt.zero _ _ _⟩
  obtain ⟨fuel1, f1⟩ := h
  rcases open_strings Tryd.underlying26 Tryd.underlying9 cells1 f1 with ⟨hcs2, _⟩ | ⟨b, l2, c2, ss, hcs2, _, hl2, hm2, hzl2, _, hcell2, hws⟩
  · simp [Value.cells] at hcs2; omega
  simp [Value.cells] at hcs2
  obtain ⟨rfl, rfl, rfl⟩ := hcs2
  rw [if_pos rfl] at hzl2
  unfold maxLen at hm2
  obtain ⟨b2, o2, rfl⟩ := plain_addr (hcell2 0 (by omega))
  refine ⟨_, len1, cap1, fun j => ss.getD j ByteArray.empty, rfl, by omega, fun j hj => ?_, fun _ => ⟨b2, o2, rfl, fun j hj => ?_⟩⟩
  · have := hws (ss.getD j ByteArray.empty) (by rw [List.getD_eq_getElem?_getD, List.getElem?_eq_getElem (by omega)]; exact List.getElem_mem _)
    unfold maxLen at this
    omega
  · have h := hcell2 j (by omega)
    rw [plain_add] at h
    exact h
end Go.Proofs.YtdhpighnkoamiaaDoor
