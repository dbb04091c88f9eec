/- The contracts of package plane at the examples of the chapter. -/
import Derived.Test.YtliligehofjegaaPlnSame
import Derived.Test.YtliligehofjegaaPlnSeamW
import Derived.Test.YtliligehofjegaaPlnCut
import Derived.Test.YtliligehofjegaaPlnCell
import Derived.Test.YtliligehofjegaaPlnMove
import Derived.Test.YtliligehofjegaaPlnInside
namespace Go.Proofs.Ytliligehofjegaa
open Go.RowKit Go.Shelf Pln

def exT : List Pt := [(0, 0), (6, 0), (0, 4)]
def exS : List Pt := [(0, 0), (4, 0), (4, 4), (0, 4)]
def exU : List Pt := [(4, 2), (8, 2), (8, 6), (4, 6)]
def exV : List Pt := [(3, 3), (7, 3), (3, 7)]
theorem lenT : Len exT := by unfold Len exT; simp
theorem lenS : Len exS := by unfold Len exS; simp
theorem lenU : Len exU := by unfold Len exU; simp
theorem lenV : Len exV := by unfold Len exV; simp
theorem e_area : areaP exT = 24 := by decide +kernel
theorem e_mx : mxP exT = 144 := by decide +kernel
theorem e_my : myP exT = 96 := by decide +kernel
theorem e_inn : innP exT = 7 := by decide +kernel
theorem e_bnd : bndP exT = 12 := by decide +kernel
theorem e_cut : cutP exS 0 2 = some ([(0, 0), (4, 0), (4, 4)], [(4, 4), (0, 4), (0, 0)]) := by decide +kernel
theorem e_cut2 : cutP exS 0 1 = none := by decide +kernel
theorem e_move : moveP exT 1 2 = some [(1, 2), (7, 2), (1, 6)] := by decide +kernel
theorem e_seam : seamP exS exU = some ((4, 2), (4, 4)) := by decide +kernel
theorem e_seam2 : seamP exU exS = some ((4, 4), (4, 2)) := by decide +kernel
theorem e_side : sideP exS exU = some (0, 1) := by decide +kernel
theorem e_side2 : sideP exS exV = none := by decide +kernel
theorem e_in1 : insP exS (2, 2) = 1 := by decide +kernel
theorem e_in2 : insP exS (4, 4) = 0 := by decide +kernel
theorem e_in3 : insP exS (5, 5) = -1 := by decide +kernel
theorem e_cell1 : cellP exT 1 2 = 1 := by decide +kernel
theorem e_cell2 : cellP exT 2 2 = -1 := by decide +kernel
theorem e_valid : valB exT = true := by decide +kernel
theorem e_valid2 : valB (exT.take 2) = false := by decide +kernel
theorem e_over : overP exS exU = false := by decide +kernel
theorem e_over2 : overP exS exV = true := by decide +kernel

section
variable (va vb : Value) (w : World)
theorem sn_at (x y : Int) : Calls Try.prog 17 #[.int .i64 x, .int .i64 y] w fun e w' => e = .returned (.agg #[.int .i64 x, .int .i64 y]) ∧ Below w.heap.size w w' := at_w x y w
theorem sn_area (hv : PtsAt w va exT) : Calls Try.prog 19 #[va] w fun e w' => e = .returned (.int .i64 24) ∧ Below w.heap.size w w' := by
  have := area_w exT lenT va w hv; rwa [e_area] at this
theorem sn_mom (hv : PtsAt w va exT) : Calls Try.prog 24 #[va] w fun e w' => e = .returned (.tuple #[.int .i64 144, .int .i64 96]) ∧ Below w.heap.size w w' := by
  have := moments_w exT lenT va w hv; rwa [e_mx, e_my] at this
theorem sn_lat (hv : PtsAt w va exT) : Calls Try.prog 15 #[va] w fun e w' => e = .returned (.tuple #[.int .i64 7, .int .i64 12]) ∧ Below w.heap.size w w' := by
  have := lattice_w exT lenT va w hv; rwa [e_inn, e_bnd] at this
theorem sn_cut (hv : PtsAt w va exS) : Calls Try.prog 21 #[va, .int .i64 0, .int .i64 2] w fun e w' => ∃ r s, e = .returned (.tuple #[r, s, .int .i64 0]) ∧ PtsAt w' r [(0, 0), (4, 0), (4, 4)] ∧ PtsAt w' s [(4, 4), (0, 4), (0, 0)] ∧ Below w.heap.size w w' := by
  refine (cut_w exS lenS 0 2 ⟨by omega, by omega⟩ ⟨by omega, by omega⟩ va w hv).mono ?_
  rintro e w' (⟨a, b, r, s, h, he, h1, h2, h3⟩ | ⟨h, _⟩)
  · rw [e_cut] at h
    cases h
    exact ⟨r, s, he, h1, h2, h3⟩
  · rw [e_cut] at h; cases h
theorem sn_cut2 (hv : PtsAt w va exS) : Calls Try.prog 21 #[va, .int .i64 0, .int .i64 1] w fun e w' => e = .returned (.tuple #[.slice none 0 0, .slice none 0 0, .int .i64 70]) ∧ Below w.heap.size w w' := by
  refine (cut_w exS lenS 0 1 ⟨by omega, by omega⟩ ⟨by omega, by omega⟩ va w hv).mono ?_
  rintro e w' (⟨a, b, r, s, h, _⟩ | ⟨_, he, h1⟩)
  · rw [e_cut2] at h; cases h
  · exact ⟨he, h1⟩
theorem sn_move (hv : PtsAt w va exT) : Calls Try.prog 29 #[va, .int .i64 1, .int .i64 2] w fun e w' => ∃ r, e = .returned (.tuple #[r, .int .i64 0]) ∧ PtsAt w' r [(1, 2), (7, 2), (1, 6)] ∧ Below w.heap.size w w' := by
  refine (move_w exT lenT 1 2 ⟨by omega, by omega⟩ ⟨by omega, by omega⟩ va w hv).mono ?_
  rintro e w' (⟨l, r, h, he, h1, h2⟩ | ⟨h, _⟩)
  · rw [e_move] at h
    cases h
    exact ⟨r, he, h1, h2⟩
  · rw [e_move] at h; cases h
theorem sn_seam (ha : PtsAt w va exS) (hb : PtsAt w vb exU) : Calls Try.prog 22 #[va, vb] w fun e w' => e = .returned (.tuple #[.agg #[.int .i64 4, .int .i64 2, .int .i64 4, .int .i64 4], .bool true]) ∧ Below w.heap.size w w' := by
  have := seam_w exS exU lenS lenU va vb w ha hb; rwa [e_seam] at this
theorem sn_seam2 (ha : PtsAt w va exU) (hb : PtsAt w vb exS) : Calls Try.prog 22 #[va, vb] w fun e w' => e = .returned (.tuple #[.agg #[.int .i64 4, .int .i64 4, .int .i64 4, .int .i64 2], .bool true]) ∧ Below w.heap.size w w' := by
  have := seam_w exU exS lenU lenS va vb w ha hb; rwa [e_seam2] at this
theorem sn_side (ha : PtsAt w va exS) (hb : PtsAt w vb exU) : Calls Try.prog 25 #[va, vb] w fun e w' => e = .returned (.tuple #[.int .i64 0, .int .i64 1, .bool true]) ∧ Below w.heap.size w w' := by
  have := side_w exS exU lenS lenU va vb w ha hb; rwa [e_side] at this
theorem sn_side2 (ha : PtsAt w va exS) (hb : PtsAt w vb exV) : Calls Try.prog 25 #[va, vb] w fun e w' => e = .returned (.tuple #[.int .i64 0, .int .i64 0, .bool false]) ∧ Below w.heap.size w w' := by
  have := side_w exS exV lenS lenV va vb w ha hb; rwa [e_side2] at this
theorem sn_in1 (hv : PtsAt w va exS) : Calls Try.prog 16 #[va, .agg #[.int .i64 2, .int .i64 2]] w fun e w' => e = .returned (.int .i64 1) ∧ Below w.heap.size w w' := by
  have := inside_w exS lenS (2, 2) ⟨⟨by simp, by simp⟩, by simp, by simp⟩ va w hv; rwa [e_in1] at this
theorem sn_in2 (hv : PtsAt w va exS) : Calls Try.prog 16 #[va, .agg #[.int .i64 4, .int .i64 4]] w fun e w' => e = .returned (.int .i64 0) ∧ Below w.heap.size w w' := by
  have := inside_w exS lenS (4, 4) ⟨⟨by simp, by simp⟩, by simp, by simp⟩ va w hv; rwa [e_in2] at this
theorem sn_in3 (hv : PtsAt w va exS) : Calls Try.prog 16 #[va, .agg #[.int .i64 5, .int .i64 5]] w fun e w' => e = .returned (.int .i64 (-1)) ∧ Below w.heap.size w w' := by
  have := inside_w exS lenS (5, 5) ⟨⟨by simp, by simp⟩, by simp, by simp⟩ va w hv; rwa [e_in3] at this
theorem sn_cell1 (hv : PtsAt w va exT) : Calls Try.prog 26 #[va, .int .i64 1, .int .i64 2] w fun e w' => e = .returned (.int .i64 1) ∧ Below w.heap.size w w' := by
  have := cell_w exT lenT 1 2 ⟨by omega, by omega⟩ ⟨by omega, by omega⟩ va w hv; rwa [e_cell1] at this
theorem sn_cell2 (hv : PtsAt w va exT) : Calls Try.prog 26 #[va, .int .i64 2, .int .i64 2] w fun e w' => e = .returned (.int .i64 (-1)) ∧ Below w.heap.size w w' := by
  have := cell_w exT lenT 2 2 ⟨by omega, by omega⟩ ⟨by omega, by omega⟩ va w hv; rwa [e_cell2] at this
theorem sn_valid (hv : PtsAt w va exT) : Calls Try.prog 18 #[va] w fun e w' => e = .returned (.bool true) ∧ Below w.heap.size w w' := by
  have := valid_w exT lenT va w hv; rwa [e_valid] at this
theorem sn_valid2 (hv : PtsAt w va (exT.take 2)) : Calls Try.prog 18 #[va] w fun e w' => e = .returned (.bool false) ∧ Below w.heap.size w w' := by
  have := valid_w (exT.take 2) (by unfold exT; simp) va w hv; rwa [e_valid2] at this
theorem sn_over (ha : PtsAt w va exS) (hb : PtsAt w vb exU) : Calls Try.prog 23 #[va, vb] w fun e w' => e = .returned (.bool false) ∧ Below w.heap.size w w' := by
  have := overlap_w exS exU lenS lenU va vb w ha hb; rwa [e_over] at this
theorem sn_over2 (ha : PtsAt w va exS) (hb : PtsAt w vb exV) : Calls Try.prog 23 #[va, vb] w fun e w' => e = .returned (.bool true) ∧ Below w.heap.size w w' := by
  have := overlap_w exS exV lenS lenV va vb w ha hb; rwa [e_over2] at this
theorem sn_same {a : List Pt} (hl : (a.length : Int) ≤ 4611686018427387904) (ha : PtsAt w va a) (hb : PtsAt w vb a) : Calls Try.prog 31 #[va, vb] w fun e w' => e = .returned (.bool true) ∧ Below w.heap.size w w' := by
  have := same_w a a hl va vb w ha hb; rwa [show sameB a a = true from decide_eq_true rfl] at this
end
/-- A list of places as it is built. -/
theorem built3 (w : World) {a b c d e f : Int} (h : PtsOk [(a, b), (c, d), (e, f)]) : PtsAt (w.alloc (.cells #[.int .i64 a, .int .i64 b, .int .i64 c, .int .i64 d, .int .i64 e, .int .i64 f] 26)) (.slice (some ⟨w.heap.size, 0, none⟩) 3 3) [(a, b), (c, d), (e, f)] := by
  refine ⟨⟨_, 3, rfl, Nat.le_refl _, by omega, .inr ⟨w.heap.size, 0, rfl, fun j hj => ?_⟩⟩, h⟩
  have hj' : j = 0 ∨ j = 1 ∨ j = 2 := by simp at hj; omega
  rcases hj' with rfl | rfl | rfl
  · exact ⟨cell_rowN w _ _ 0 rfl, cell_rowN w _ _ 1 rfl⟩
  · exact ⟨cell_rowN w _ _ 2 rfl, cell_rowN w _ _ 3 rfl⟩
  · exact ⟨cell_rowN w _ _ 4 rfl, cell_rowN w _ _ 5 rfl⟩
theorem built4 (w : World) {a b c d e f g h : Int} (hh : PtsOk [(a, b), (c, d), (e, f), (g, h)]) : PtsAt (w.alloc (.cells #[.int .i64 a, .int .i64 b, .int .i64 c, .int .i64 d, .int .i64 e, .int .i64 f, .int .i64 g, .int .i64 h] 26)) (.slice (some ⟨w.heap.size, 0, none⟩) 4 4) [(a, b), (c, d), (e, f), (g, h)] := by
  refine ⟨⟨_, 4, rfl, Nat.le_refl _, by omega, .inr ⟨w.heap.size, 0, rfl, fun j hj => ?_⟩⟩, hh⟩
  have hj' : j = 0 ∨ j = 1 ∨ j = 2 ∨ j = 3 := by simp at hj; omega
  rcases hj' with rfl | rfl | rfl | rfl
  · exact ⟨cell_rowN w _ _ 0 rfl, cell_rowN w _ _ 1 rfl⟩
  · exact ⟨cell_rowN w _ _ 2 rfl, cell_rowN w _ _ 3 rfl⟩
  · exact ⟨cell_rowN w _ _ 4 rfl, cell_rowN w _ _ 5 rfl⟩
  · exact ⟨cell_rowN w _ _ 6 rfl, cell_rowN w _ _ 7 rfl⟩
def okP (p : Pt) : Bool := decide (-100 ≤ p.1) && decide (p.1 ≤ 100) && decide (-100 ≤ p.2) && decide (p.2 ≤ 100)
theorem ok_of {l : List Pt} (h : l.all okP = true) : PtsOk l := fun r hr => by
  have := List.all_eq_true.1 h r hr
  unfold okP at this
  simp only [Bool.and_eq_true, decide_eq_true_eq] at this
  obtain ⟨⟨⟨a, b⟩, c⟩, d⟩ := this
  exact ⟨⟨by omega, by omega⟩, by omega, by omega⟩
/-- The first places of a list. -/
theorem at_first {w : World} {g o n c k : Nat} {l : List Pt} (h : PtsAt w (.slice (some ⟨g, o, none⟩) n c) l) (hk : k ≤ n) : PtsAt w (.slice (some ⟨g, o, none⟩) k c) (l.take k) := by
  obtain ⟨h1, h2, h3, h4⟩ := at_cells h
  have hl : (l.take k).length = k := by rw [List.length_take]; omega
  refine ⟨⟨_, c, by rw [hl], by rw [hl]; omega, h3, .inr ⟨g, o, rfl, fun j hj => ?_⟩⟩, fun r hr => h.ok r (List.mem_of_mem_take hr)⟩
  rw [hl] at hj
  rw [vx_take hj]
  exact h4 j (by omega)
end Go.Proofs.Ytliligehofjegaa
