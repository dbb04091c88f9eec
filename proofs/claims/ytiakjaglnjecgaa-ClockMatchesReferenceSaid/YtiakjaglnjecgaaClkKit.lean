/- What the walks of layer 5 share: readings, spells and numbers that lie in blocks. -/
import Derived.Test.YtiakjaglnjecgaaRows
import Derived.WalkKit
import Derived.WalkSpells
import Derived.WalkLawsBesides
import Derived.Lib.Hide
import Derived.Laws.Rows
import Derived.IntWalk
import Derived.BigQuiet
import Derived.RegionTactic
import Derived.ChangeAlike
import Derived.Deep.QuietTactic
import Derived.Deep.RegionHeld3
import Derived.Test.YtiakjaglnjecgaaClkPure
import Derived.Test.YtiakjaglnjecgaaClkAgreeP
namespace Go.Proofs.Ytiakjaglnjecgaa
open Go.RowKit Putlog

theorem lt_of_cell {W : World} {B i : Nat} {v : Value} (h : W.cell? ⟨B, i, none⟩ = some v) : B < W.heap.size := by
  rcases Nat.lt_or_ge B W.heap.size with h' | h'
  · exact h'
  · simp [World.cell?, Array.getElem?_eq_none h'] at h
theorem keptBelow {w w' : World} {b i : Nat} {v : Value} (h : Below w.heap.size w w') (hc : w.cell? ⟨b, i, none⟩ = some v) : w'.cell? ⟨b, i, none⟩ = some v := (h.cell (p := ⟨b, i, none⟩) (lt_of_cell hc)).trans hc
theorem frozenBelow {w w' : World} {b i : Nat} {v : Value} {f : Bool} (h : Below w.heap.size w w') (hc : w.cell? ⟨b, i, none⟩ = some v) (hf : w.frozen? ⟨b, i, none⟩ = f) : w'.frozen? ⟨b, i, none⟩ = f := (h.frozen (p := ⟨b, i, none⟩) (lt_of_cell hc)).trans hf
theorem alloc_below (w : World) (o : Obj) : Below w.heap.size w (w.alloc o) := (Below.refl _ _).alloc (Nat.le_refl _) _
theorem cellA {W : World} {b i : Nat} {v : Value} (o : Obj) (h : W.cell? ⟨b, i, none⟩ = some v) : (W.alloc o).cell? ⟨b, i, none⟩ = some v := keptBelow (alloc_below _ _) h
theorem belowVia {a b c : World} (k : Below b.heap.size b c) (h : Below a.heap.size a b) : Below a.heap.size a c := h.trans (k.mono h.size)
theorem below_drewN {B : Nat} {a w : World} (h : Below B a w) (n : Nat) : Below B a (w.drewN n) := ⟨h.os, h.tape, h.output, h.size, h.block⟩
theorem heap_below {w w' : World} {b : Nat} {o : Obj} (h : Below w.heap.size w w') (hb : w.heap[b]? = some o) : w'.heap[b]? = some o := (h.block b (Array.getElem?_eq_some_iff.1 hb).1).trans hb
theorem cell_rowN (w : World) (cs : Array Value) (t : TypeId) (i : Nat) {v : Value} (h : cs[i]? = some v) : (w.alloc (.cells cs t)).cell? ⟨w.heap.size, i, none⟩ = some v := (cell_of_row _ w.heap.size i _ _ _ (heap_alloc_new w _)).trans h
theorem ret_bool {a b : Bool} (h : a = b) : Ending.returned (.bool a) = Ending.returned (.bool b) := by rw [h]
theorem ret_int {a b : Int} (h : a = b) : Ending.returned (.int .i64 a) = Ending.returned (.int .i64 b) := by rw [h]
theorem ret_ii {a b c d : Int} (h1 : a = c) (h2 : b = d) : Ending.returned (.tuple #[.int .i64 a, .int .i64 b]) = Ending.returned (.tuple #[.int .i64 c, .int .i64 d]) := by rw [h1, h2]
def I64 (x : Int) : Prop := -9223372036854775808 ≤ x ∧ x ≤ 9223372036854775807

/-- Numbers in memory, from an address on. -/
def NumsIn (w : World) (a : Option Addr) (l : List Int) : Prop := l = [] ∨ ∃ g o, a = some ⟨g, o, none⟩ ∧ ∀ j, j < l.length → w.cell? ⟨g, o + j, none⟩ = some (.int .i64 (l.getD j 0))
theorem NumsIn.via {w w' : World} {a : Option Addr} {l : List Int} (h : NumsIn w a l) (hB : Below w.heap.size w w') : NumsIn w' a l := by
  rcases h with h | ⟨g, o, h1, h2⟩
  · exact .inl h
  · exact .inr ⟨g, o, h1, fun j hj => keptBelow hB (h2 j hj)⟩
theorem NumsIn.get {w : World} {a : Option Addr} {l : List Int} (h : NumsIn w a l) {k : Nat} (hk : k < l.length) : ∃ g o, a = some ⟨g, o, none⟩ ∧ w.cell? ⟨g, o + k, none⟩ = some (.int .i64 (l.getD k 0)) := by
  rcases h with h | ⟨g, o, h1, h2⟩
  · subst h; simp at hk
  · exact ⟨g, o, h1, h2 k hk⟩
/-- A slice of numbers. -/
def NumsAt (w : World) (v : Value) (l : List Int) : Prop := ∃ a c, v = .slice a l.length c ∧ l.length ≤ c ∧ (c : Int) ≤ 9223372036854775807 ∧ NumsIn w a l
theorem NumsAt.via {w w' : World} {v : Value} {l : List Int} (h : NumsAt w v l) (hB : Below w.heap.size w w') : NumsAt w' v l := by
  obtain ⟨a, c, h1, h2, h3, h4⟩ := h
  exact ⟨a, c, h1, h2, h3, h4.via hB⟩
/-- Readings in memory. -/
def RdsIn (w : World) (a : Option Addr) (l : List Rd) : Prop := l = [] ∨ ∃ g o, a = some ⟨g, o, none⟩ ∧ ∀ j, j < l.length →
  w.cell? ⟨g, o + j * 3, none⟩ = some (.int .i64 (l.getD j default).1) ∧ w.cell? ⟨g, o + j * 3 + 1, none⟩ = some (.int .i64 (l.getD j default).2.1) ∧ w.cell? ⟨g, o + j * 3 + 2, none⟩ = some (.int .i64 (l.getD j default).2.2)
theorem RdsIn.via {w w' : World} {a : Option Addr} {l : List Rd} (h : RdsIn w a l) (hB : Below w.heap.size w w') : RdsIn w' a l := by
  rcases h with h | ⟨g, o, h1, h2⟩
  · exact .inl h
  · exact .inr ⟨g, o, h1, fun j hj => ⟨keptBelow hB (h2 j hj).1, keptBelow hB (h2 j hj).2.1, keptBelow hB (h2 j hj).2.2⟩⟩
theorem RdsIn.get {w : World} {a : Option Addr} {l : List Rd} (h : RdsIn w a l) {k : Nat} (hk : k < l.length) : ∃ g o, a = some ⟨g, o, none⟩ ∧ 
    w.cell? ⟨g, o + k * 3, none⟩ = some (.int .i64 (l.getD k default).1) ∧ w.cell? ⟨g, o + k * 3 + 1, none⟩ = some (.int .i64 (l.getD k default).2.1) ∧ w.cell? ⟨g, o + k * 3 + 2, none⟩ = some (.int .i64 (l.getD k default).2.2) := by
  rcases h with h | ⟨g, o, h1, h2⟩
  · subst h; simp at hk
  · exact ⟨g, o, h1, h2 k hk⟩
/-- Readings whose numbers fit the machine's. -/
def RdsOk (l : List Rd) : Prop := ∀ r ∈ l, I64 r.1 ∧ I64 r.2.1 ∧ I64 r.2.2
/-- A slice of readings. -/
structure RdsAt (w : World) (v : Value) (l : List Rd) : Prop where
  at_ : ∃ a c, v = .slice a l.length c ∧ l.length ≤ c ∧ (c : Int) ≤ 9223372036854775807 ∧ RdsIn w a l
  ok : RdsOk l
theorem RdsAt.via {w w' : World} {v : Value} {l : List Rd} (h : RdsAt w v l) (hB : Below w.heap.size w w') : RdsAt w' v l := by
  obtain ⟨⟨a, c, h1, h2, h3, h4⟩, h5⟩ := h
  exact ⟨⟨a, c, h1, h2, h3, h4.via hB⟩, h5⟩
theorem rds_take {l : List Rd} {k : Nat} (h : k < l.length) : l.take (k + 1) = l.take k ++ [l.getD k default] := by
  rw [List.take_succ_eq_append_getElem h, List.getD_eq_getElem?_getD, List.getElem?_eq_getElem h]; rfl
theorem rds_mem {l : List Rd} {k : Nat} (h : k < l.length) : l.getD k default ∈ l := by
  rw [List.getD_eq_getElem?_getD, List.getElem?_eq_getElem h]; exact List.getElem_mem h
/-- Spells in memory. -/
def SpsIn (w : World) (a : Option Addr) (l : List Sp) : Prop := l = [] ∨ ∃ g o, a = some ⟨g, o, none⟩ ∧ ∀ j, j < l.length →
  w.cell? ⟨g, o + j * 2, none⟩ = some (.int .i64 (l.getD j default).1) ∧ w.cell? ⟨g, o + j * 2 + 1, none⟩ = some (.int .i64 (l.getD j default).2)
theorem SpsIn.via {w w' : World} {a : Option Addr} {l : List Sp} (h : SpsIn w a l) (hB : Below w.heap.size w w') : SpsIn w' a l := by
  rcases h with h | ⟨g, o, h1, h2⟩
  · exact .inl h
  · exact .inr ⟨g, o, h1, fun j hj => ⟨keptBelow hB (h2 j hj).1, keptBelow hB (h2 j hj).2⟩⟩
theorem SpsIn.get {w : World} {a : Option Addr} {l : List Sp} (h : SpsIn w a l) {k : Nat} (hk : k < l.length) : ∃ g o, a = some ⟨g, o, none⟩ ∧
    w.cell? ⟨g, o + k * 2, none⟩ = some (.int .i64 (l.getD k default).1) ∧ w.cell? ⟨g, o + k * 2 + 1, none⟩ = some (.int .i64 (l.getD k default).2) := by
  rcases h with h | ⟨g, o, h1, h2⟩
  · subst h; simp at hk
  · exact ⟨g, o, h1, h2 k hk⟩
def SpsOk (l : List Sp) : Prop := ∀ r ∈ l, I64 r.1 ∧ I64 r.2
structure SpsAt (w : World) (v : Value) (l : List Sp) : Prop where
  at_ : ∃ a c, v = .slice a l.length c ∧ l.length ≤ c ∧ (c : Int) ≤ 9223372036854775807 ∧ SpsIn w a l
  ok : SpsOk l
theorem SpsAt.via {w w' : World} {v : Value} {l : List Sp} (h : SpsAt w v l) (hB : Below w.heap.size w w') : SpsAt w' v l := by
  obtain ⟨⟨a, c, h1, h2, h3, h4⟩, h5⟩ := h
  exact ⟨⟨a, c, h1, h2, h3, h4.via hB⟩, h5⟩
theorem sps_take {l : List Sp} {k : Nat} (h : k < l.length) : l.take (k + 1) = l.take k ++ [l.getD k default] := by
  rw [List.take_succ_eq_append_getElem h, List.getD_eq_getElem?_getD, List.getElem?_eq_getElem h]; rfl
theorem sps_mem {l : List Sp} {k : Nat} (h : k < l.length) : l.getD k default ∈ l := by
  rw [List.getD_eq_getElem?_getD, List.getElem?_eq_getElem h]; exact List.getElem_mem h
end Go.Proofs.Ytiakjaglnjecgaa
