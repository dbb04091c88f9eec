/- What the walks of layer 7 share: lists of places that lie in memory. -/
import Derived.Test.YtliligehofjegaaRows
import Derived.WalkKit
import Derived.WalkSpells
import Derived.WalkLawsBesides
import Derived.Lib.Hide
import Derived.Laws.Rows
import Derived.IntWalk
import Derived.BigQuiet
import Derived.RegionTactic
import Derived.ChangeAlike
import Derived.Deep.QuietTactic
import Derived.Deep.RegionHeld3
import Derived.Test.YtliligehofjegaaPlnHull
namespace Go.Proofs.Ytliligehofjegaa
open Go.RowKit Pln

theorem lt_of_cell {W : World} {B i : Nat} {v : Value} (h : W.cell? ⟨B, i, none⟩ = some v) : B < W.heap.size := by
  rcases Nat.lt_or_ge B W.heap.size with h' | h'
  · exact h'
  · simp [World.cell?, Array.getElem?_eq_none h'] at h
theorem keptBelow {w w' : World} {b i : Nat} {v : Value} (h : Below w.heap.size w w') (hc : w.cell? ⟨b, i, none⟩ = some v) : w'.cell? ⟨b, i, none⟩ = some v := (h.cell (p := ⟨b, i, none⟩) (lt_of_cell hc)).trans hc
theorem frozenBelow {w w' : World} {b i : Nat} {v : Value} {f : Bool} (h : Below w.heap.size w w') (hc : w.cell? ⟨b, i, none⟩ = some v) (hf : w.frozen? ⟨b, i, none⟩ = f) : w'.frozen? ⟨b, i, none⟩ = f := (h.frozen (p := ⟨b, i, none⟩) (lt_of_cell hc)).trans hf
theorem alloc_below (w : World) (o : Obj) : Below w.heap.size w (w.alloc o) := (Below.refl _ _).alloc (Nat.le_refl _) _
theorem cellA {W : World} {b i : Nat} {v : Value} (o : Obj) (h : W.cell? ⟨b, i, none⟩ = some v) : (W.alloc o).cell? ⟨b, i, none⟩ = some v := keptBelow (alloc_below _ _) h
theorem belowVia {a b c : World} (k : Below b.heap.size b c) (h : Below a.heap.size a b) : Below a.heap.size a c := h.trans (k.mono h.size)
theorem belowStep {a b c : World} (h : Below a.heap.size a b) (k : Below b.heap.size b c) : Below a.heap.size a c := h.trans (k.mono h.size)
theorem below_drewN {B : Nat} {a w : World} (h : Below B a w) (n : Nat) : Below B a (w.drewN n) := ⟨h.os, h.tape, h.output, h.size, h.block⟩
theorem heap_below {w w' : World} {b : Nat} {o : Obj} (h : Below w.heap.size w w') (hb : w.heap[b]? = some o) : w'.heap[b]? = some o := (h.block b (Array.getElem?_eq_some_iff.1 hb).1).trans hb
theorem cell_rowN (w : World) (cs : Array Value) (t : TypeId) (i : Nat) {v : Value} (h : cs[i]? = some v) : (w.alloc (.cells cs t)).cell? ⟨w.heap.size, i, none⟩ = some v := (cell_of_row _ w.heap.size i _ _ _ (heap_alloc_new w _)).trans h
theorem ret_bool {a b : Bool} (h : a = b) : Ending.returned (.bool a) = Ending.returned (.bool b) := by rw [h]
theorem ret_int {a b : Int} (h : a = b) : Ending.returned (.int .i64 a) = Ending.returned (.int .i64 b) := by rw [h]
theorem ret_ii {a b c d : Int} (h1 : a = c) (h2 : b = d) : Ending.returned (.tuple #[.int .i64 a, .int .i64 b]) = Ending.returned (.tuple #[.int .i64 c, .int .i64 d]) := by rw [h1, h2]
def I64 (x : Int) : Prop := -9223372036854775808 ≤ x ∧ x ≤ 9223372036854775807

/-- Places in memory, from an address on. -/
def PtsIn (w : World) (a : Option Addr) (l : List Pt) : Prop := l = [] ∨ ∃ g o, a = some ⟨g, o, none⟩ ∧ ∀ j, j < l.length →
  w.cell? ⟨g, o + j * 2, none⟩ = some (.int .i64 (vx l j).1) ∧ w.cell? ⟨g, o + j * 2 + 1, none⟩ = some (.int .i64 (vx l j).2)
theorem PtsIn.via {w w' : World} {a : Option Addr} {l : List Pt} (h : PtsIn w a l) (hB : Below w.heap.size w w') : PtsIn w' a l := by
  rcases h with h | ⟨g, o, h1, h2⟩
  · exact .inl h
  · exact .inr ⟨g, o, h1, fun j hj => ⟨keptBelow hB (h2 j hj).1, keptBelow hB (h2 j hj).2⟩⟩
theorem PtsIn.get {w : World} {a : Option Addr} {l : List Pt} (h : PtsIn w a l) {k : Nat} (hk : k < l.length) : ∃ g o, a = some ⟨g, o, none⟩ ∧
    w.cell? ⟨g, o + k * 2, none⟩ = some (.int .i64 (vx l k).1) ∧ w.cell? ⟨g, o + k * 2 + 1, none⟩ = some (.int .i64 (vx l k).2) := by
  rcases h with h | ⟨g, o, h1, h2⟩
  · subst h; simp at hk
  · exact ⟨g, o, h1, h2 k hk⟩
def I64P (p : Pt) : Prop := I64 p.1 ∧ I64 p.2
def PtsOk (l : List Pt) : Prop := ∀ r ∈ l, I64P r
/-- A slice of places. -/
structure PtsAt (w : World) (v : Value) (l : List Pt) : Prop where
  at_ : ∃ a c, v = .slice a l.length c ∧ l.length ≤ c ∧ (c : Int) ≤ 9223372036854775807 ∧ PtsIn w a l
  ok : PtsOk l
theorem PtsAt.via {w w' : World} {v : Value} {l : List Pt} (h : PtsAt w v l) (hB : Below w.heap.size w w') : PtsAt w' v l := by
  obtain ⟨⟨a, c, h1, h2, h3, h4⟩, h5⟩ := h
  exact ⟨⟨a, c, h1, h2, h3, h4.via hB⟩, h5⟩
theorem pt_ok {l : List Pt} (h : PtsOk l) {k : Nat} (hk : k < l.length) : I64P (vx l k) := h _ (vx_mem hk)
theorem on_i64 {p : Pt} (h : On p) : I64P p := by
  have := h.x0; have := h.x1; have := h.y0; have := h.y1
  exact ⟨⟨by omega, by omega⟩, by omega, by omega⟩
theorem val_ok {l : List Pt} (v : Val l) : PtsOk l := fun r hr => by obtain ⟨i, hi, rfl⟩ := mem_vx hr; exact on_i64 (v.on i hi)
/-- A place as a value. -/
def pv (p : Pt) : Value := .agg #[.int .i64 p.1, .int .i64 p.2]
/-- An edge as a value. -/
def ev (a b : Pt) : Value := .agg #[.int .i64 a.1, .int .i64 a.2, .int .i64 b.1, .int .i64 b.2]
end Go.Proofs.Ytliligehofjegaa
