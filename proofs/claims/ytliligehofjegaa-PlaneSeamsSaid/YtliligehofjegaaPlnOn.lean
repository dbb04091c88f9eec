/- The contract of the law's on: a place on a segment. -/
import Derived.Test.YtliligehofjegaaPlnPoly
import Derived.Test.YtliligehofjegaaPlnSeamP
import Derived.Test.YtliligehofjegaaPlnSeam
namespace Go.Proofs.Ytliligehofjegaa
open Go.RowKit Go.Shelf Pln

set_option maxRecDepth 100000 in
set_option maxHeartbeats 1000000 in
theorem on_w (P1 P2 Q1 Q2 p1 p2 : Int) (hP : On (P1, P2)) (hQ : On (Q1, Q2)) (hp : On (p1, p2)) (w : World) :
    Calls Try.prog 28 #[.agg #[.int .i64 P1, .int .i64 P2, .int .i64 Q1, .int .i64 Q2], .agg #[.int .i64 p1, .int .i64 p2]] w fun e w' => e = .returned (.bool (segB (P1, P2) (Q1, Q2) (p1, p2))) ∧ Below w.heap.size w w' := by
  have HT := Lib.hid (fun w1 => turnR_w (P1, P2) (Q1, Q2) (p1, p2) (on_sml hP) (on_sml hQ) (on_sml hp) w1)
  have HSB : Hid (segB (P1, P2) (Q1, Q2) (p1, p2) = (decide (turn (P1, P2) (Q1, Q2) (p1, p2) = 0) && decide (min P1 Q1 ≤ p1) && decide (p1 ≤ max P1 Q1) && decide (min P2 Q2 ≤ p2) && decide (p2 ≤ max P2 Q2))) := Lib.hid rfl
  unfold pv at HT
  dsimp only at HT
  generalize turn (P1, P2) (Q1, Q2) (p1, p2) = t at *
  generalize segB (P1, P2) (Q1, Q2) (p1, p2) = r at *
  obtain ⟨W1, hW1⟩ : ∃ W1, W1 = w.alloc (.cells #[.int .i64 P1, .int .i64 P2, .int .i64 Q1, .int .i64 Q2] 48) := ⟨_, rfl⟩
  have hb1 : Below w.heap.size w W1 := by rw [hW1]; exact alloc_below w _
  have x0 : W1.cell? ⟨w.heap.size, 0, none⟩ = some (.int .i64 P1) := by rw [hW1]; exact cell_rowN w #[.int .i64 P1, .int .i64 P2, .int .i64 Q1, .int .i64 Q2] _ 0 rfl
  have x1 : W1.cell? ⟨w.heap.size, 1, none⟩ = some (.int .i64 P2) := by rw [hW1]; exact cell_rowN w #[.int .i64 P1, .int .i64 P2, .int .i64 Q1, .int .i64 Q2] _ 1 rfl
  have x2 : W1.cell? ⟨w.heap.size, 2, none⟩ = some (.int .i64 Q1) := by rw [hW1]; exact cell_rowN w #[.int .i64 P1, .int .i64 P2, .int .i64 Q1, .int .i64 Q2] _ 2 rfl
  have x3 : W1.cell? ⟨w.heap.size, 3, none⟩ = some (.int .i64 Q2) := by rw [hW1]; exact cell_rowN w #[.int .i64 P1, .int .i64 P2, .int .i64 Q1, .int .i64 Q2] _ 3 rfl
  obtain ⟨W, hW⟩ : ∃ W, W = W1.alloc (.cells #[.int .i64 p1, .int .i64 p2] 26) := ⟨_, rfl⟩
  have hb2 : Below W1.heap.size W1 W := by rw [hW]; exact alloc_below W1 _
  have y0 : W.cell? ⟨w.heap.size + 1, 0, none⟩ = some (.int .i64 p1) := by have := cell_rowN W1 #[.int .i64 p1, .int .i64 p2] 26 0 rfl; rw [← hW, hW1] at this; simpa using this
  have y1 : W.cell? ⟨w.heap.size + 1, 1, none⟩ = some (.int .i64 p2) := by have := cell_rowN W1 #[.int .i64 p1, .int .i64 p2] 26 1 rfl; rw [← hW, hW1] at this; simpa using this
  have x0 := keptBelow hb2 x0
  have x1 := keptBelow hb2 x1
  have x2 := keptBelow hb2 x2
  have x3 := keptBelow hb2 x3
  have HB := Lib.hid (belowStep hb1 hb2)
  go_enter Try.func28, Try.ntmps28
  go_upto_region 1 with fail
  rw [← hW1, ← hW]
  clear hW1 hW hb1 hb2
  go_wp2_with fail
  refine (HT.out _).mono ?_
  rintro e u ⟨rfl, hB⟩
  have x0 := keptBelow hB x0
  have x1 := keptBelow hB x1
  have x2 := keptBelow hB x2
  have x3 := keptBelow hB x3
  have y0 := keptBelow hB y0
  have y1 := keptBelow hB y1
  have HB := Lib.hid (belowStep HB.out hB)
  clear hB
  by_cases h0 : t = 0
  · subst h0
    go_wp2_with fail
    all_goals go_ret
    all_goals refine ⟨ret_bool ?_, HB.out⟩
    all_goals rw [HSB.out, Bool.eq_iff_iff]
    all_goals simp only [Bool.and_eq_true, decide_eq_true_eq, Bool.false_eq_true, false_iff, true_iff, true_and]
    all_goals omega
  · have d1 : decide (t = 0) = false := decide_eq_false h0
    have d2 : (t == 0) = false := by simp [h0]
    go_wp2_with fail
    go_ret
    exact ⟨by rw [HSB.out]; simp [h0], HB.out⟩
end Go.Proofs.Ytliligehofjegaa
