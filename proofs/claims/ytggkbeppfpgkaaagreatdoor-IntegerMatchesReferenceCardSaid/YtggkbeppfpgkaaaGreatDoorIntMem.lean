/- Magnitudes in memory: slices of groups that are read, rows of numbers that are written. -/
import Derived.Test.YtggkbeppfpgkaaaGreatDoorIntKit
import Derived.Test.YtggkbeppfpgkaaaGreatDoorIntRef
import Derived.Test.YtggkbeppfpgkaaaGreatDoorIntMag
namespace Go.Proofs.YtggkbeppfpgkaaaGreatDoor
open Go.RowKit Putlog

/-- A list of numbers as values. -/
def vals (l : List Int) : List Value := l.map fun x => .int .i64 x
theorem vals_get {l : List Int} {j : Nat} (h : j < l.length) : (vals l)[j]? = some (.int .i64 (l.getD j 0)) := by simp [vals, List.getD_eq_getElem?_getD, h]
theorem vals_len (l : List Int) : (vals l).length = l.length := by simp [vals]
/-- The numbers of a list of natural ones. -/
def ofN (l : List Nat) : List Int := l.map fun x : Nat => (x : Int)
theorem ofN_len (l : List Nat) : (ofN l).length = l.length := by simp [ofN]
theorem ofN_get (l : List Nat) (j : Nat) : (ofN l).getD j 0 = (l.getD j 0 : Nat) := by
  simp only [ofN, List.getD_eq_getElem?_getD, List.getElem?_map]
  cases l[j]? <;> rfl
theorem vals_ofN (l : List Nat) : vals (ofN l) = i64l l := by simp [vals, ofN, i64l]
/-- The cells of an address hold these numbers. -/
def CellsAt (w : World) (a : Option Addr) (l : List Int) : Prop := l = [] ∨ ∃ g o, a = some ⟨g, o, none⟩ ∧ ∀ j, j < l.length → w.cell? ⟨g, o + j, none⟩ = some (.int .i64 (l.getD j 0))
theorem CellsAt.via {w w' : World} {a : Option Addr} {l : List Int} (hB : Below w.heap.size w w') (h : CellsAt w a l) : CellsAt w' a l := by
  rcases h with h | ⟨g, o, h1, h2⟩
  · exact .inl h
  · exact .inr ⟨g, o, h1, fun j hj => keptBelow hB (h2 j hj)⟩
/-- From a world whose first blocks are those of an earlier one. -/
theorem CellsAt.old {w0 w : World} {a : Option Addr} {l : List Int} (h : CellsAt w0 a l) (hB : Below w0.heap.size w0 w) : CellsAt w a l := h.via hB
/-- A slice that holds these numbers: of the length, with room. -/
def Room (n c : Nat) : Prop := n ≤ c ∧ (c : Int) ≤ 9223372036854775807
theorem Room.zero : Room 0 0 := ⟨Nat.le_refl _, by omega⟩
/-- A magnitude: a slice of groups. -/
def MagAt (w : World) (v : Value) (l : List Nat) : Prop := ∃ a c, v = .slice a l.length c ∧ Room l.length c ∧ CellsAt w a (ofN l)
theorem MagAt.via {w w' : World} {v : Value} {l : List Nat} (hB : Below w.heap.size w w') (h : MagAt w v l) : MagAt w' v l := by
  obtain ⟨a, c, h1, h2, h3⟩ := h
  exact ⟨a, c, h1, h2, h3.via hB⟩
/-- A magnitude in memory that lies behind the first blocks, at the head of a block. -/
def MagNew (w : World) (base : Nat) (v : Value) (l : List Nat) : Prop := ∃ g c, v = .slice (some ⟨g, 0, none⟩) l.length c ∧ base ≤ g ∧ Room l.length c ∧ ∀ j, j < l.length → w.cell? ⟨g, j, none⟩ = some (.int .i64 (l.getD j 0 : Nat))
theorem MagNew.mag {w : World} {base : Nat} {v : Value} {l : List Nat} (h : MagNew w base v l) : MagAt w v l := by
  obtain ⟨g, c, h1, _, h2, h3⟩ := h
  refine ⟨_, c, h1, h2, ?_⟩
  rcases Nat.eq_zero_or_pos l.length with h0 | h0
  · exact .inl (List.length_eq_zero_iff.1 (by rw [ofN_len]; exact h0))
  · exact .inr ⟨g, 0, rfl, fun j hj => by rw [Nat.zero_add, ofN_get]; rw [ofN_len] at hj; exact h3 j hj⟩
theorem MagNew.mono {w : World} {b b' : Nat} {v : Value} {l : List Nat} (h : MagNew w b v l) (hb : b' ≤ b) : MagNew w b' v l := by
  obtain ⟨g, c, h1, h2, h3⟩ := h
  exact ⟨g, c, h1, by omega, h3⟩
/-- A row that may be written. -/
def RowAt (w : World) (g : Nat) (C : List Int) : Prop := ∀ j, j < C.length → w.cell? ⟨g, j, none⟩ = some (.int .i64 (C.getD j 0)) ∧ w.frozen? ⟨g, j, none⟩ = false
theorem RowAt.cells {w : World} {g : Nat} {C : List Int} (h : RowAt w g C) : CellsAt w (some ⟨g, 0, none⟩) C := .inr ⟨g, 0, rfl, fun j hj => by rw [Nat.zero_add]; exact (h j hj).1⟩
theorem RowAt.via {w w' : World} {g : Nat} {C : List Int} (h : RowAt w g C) (hB : Below w.heap.size w w') : RowAt w' g C := fun j hj => by
  obtain ⟨h1, h2⟩ := h j hj
  refine ⟨keptBelow hB h1, ?_⟩
  have hlt := lt_of_cell h1
  have h3 := hB.block g hlt
  rw [← h2]
  simp only [World.frozen?, h3]
theorem getD_set (C : List Int) (i j : Nat) (x : Int) (hi : i < C.length) : (C.set i x).getD j 0 = if j = i then x else C.getD j 0 := by
  simp only [List.getD_eq_getElem?_getD, List.getElem?_set]
  by_cases h : i = j
  · subst h; simp [hi]
  · rw [if_neg h, if_neg (fun e => h e.symm)]
theorem RowAt.set {w : World} {g : Nat} {C : List Int} (h : RowAt w g C) (i : Nat) (hi : i < C.length) (x : Int) : RowAt (w.setCell ⟨g, i, none⟩ (.int .i64 x)) g (C.set i x) := fun j hj => by
  rw [List.length_set] at hj
  refine ⟨?_, by rw [World.frozen?_setCell]; exact (h j hj).2⟩
  rw [getD_set C i j x hi]
  by_cases e : j = i
  · subst e
    rw [if_pos rfl]
    exact World.cell?_setCell_same' _ _ _ (by rw [(h j hj).1]; rfl)
  · rw [if_neg e, World.cell?_setCell_other _ _ _ _ (fun h => e (by have := congrArg Addr.off h; simp at this; omega))]
    exact (h j hj).1
theorem below_set {B : Nat} {a w : World} (h : Below B a w) {g i : Nat} (hg : B ≤ g) (x : Value) : Below B a (w.setCell ⟨g, i, none⟩ x) := h.setCell (p := ⟨g, i, none⟩) hg x
/-- What an owned slice of numbers is. -/
theorem owns_row {w : World} {B : Nat} {t : TypeId} {v : Value} {C : List Int} (h : w.ownsRow B t 1 v C.length (vals C)) :
    (C = [] ∧ ∃ a c, v = .slice a 0 c ∧ Room 0 c) ∨ (0 < C.length ∧ ∃ g c, v = .slice (some ⟨g, 0, none⟩) C.length c ∧ Room C.length c ∧ B ≤ g ∧ RowAt w g C) := by
  rcases Nat.eq_zero_or_pos C.length with h0 | h0
  · obtain ⟨a, c, h1, h2, h3, _⟩ := ownsRow_form h
    rw [h0] at h1 h2
    exact .inl ⟨List.length_eq_zero_iff.1 h0, a, c, h1, h2, h3⟩
  · obtain ⟨e0, hv | ⟨g, cap, cur, hv, hg, hh, h1, h2, h3, h4⟩⟩ := h
    · obtain ⟨h1, h2⟩ := hv; omega
    · refine .inr ⟨h0, g, cap, hv, ⟨h1, by unfold maxLen at h2; omega⟩, hg, fun j hj => ⟨?_, by simp [World.frozen?, hh]⟩⟩
      rw [cell_of_row w g j cur _ (0, 0) hh]
      rw [Nat.mul_one] at h4 e0
      have h5 : (cur.toList.take C.length)[j]? = (vals C)[j]? := by rw [h4]
      rw [List.getElem?_take_of_lt hj, Array.getElem?_toList] at h5
      rw [h5, vals_get hj]
theorem bnd_set {M : Int} {C : List Int} (h : Bnd M C) (i : Nat) {x : Int} (h1 : -M ≤ x) (h2 : x ≤ M) : Bnd M (C.set i x) := fun y hy => by
  rcases List.mem_or_eq_of_mem_set hy with hy | hy
  · exact h y hy
  · subst hy; exact ⟨h1, h2⟩
theorem bnd_get {M : Int} {C : List Int} (h : Bnd M C) {j : Nat} (hj : j < C.length) : -M ≤ C.getD j 0 ∧ C.getD j 0 ≤ M := by
  rw [List.getD_eq_getElem?_getD, List.getElem?_eq_getElem hj, Option.getD_some]
  exact h _ (List.getElem_mem _)
theorem bnd_ofN {l : List Nat} (h : DigB 10000 l) : Bnd 9999 (ofN l) := fun x hx => by
  obtain ⟨n, hn, rfl⟩ := List.mem_map.1 hx
  have := h n hn; omega
theorem Bnd.mono {M N : Int} {C : List Int} (h : Bnd M C) (k : M ≤ N) : Bnd N C := fun x hx => by have := h x hx; omega
theorem digB_get {B : Nat} {l : List Nat} (h : DigB B l) {j : Nat} (hj : j < l.length) : l.getD j 0 < B := by
  rw [List.getD_eq_getElem?_getD, List.getElem?_eq_getElem hj, Option.getD_some]
  exact h _ (List.getElem_mem _)
end Go.Proofs.YtggkbeppfpgkaaaGreatDoor
