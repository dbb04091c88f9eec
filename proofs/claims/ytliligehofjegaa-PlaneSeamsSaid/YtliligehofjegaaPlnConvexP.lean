/- Plain mathematics of layer 7: what PlaneConvex asks. Nothing of the program. -/
import Derived.Test.YtliligehofjegaaPlnMadeP
namespace Pln

/-- To the left of the first k edges. -/
def lefB (l : List Pt) (p : Pt) : Nat → Bool
  | 0 => true
  | k + 1 => lefB l p k && decide (0 < turn (vx l k) (nx l k) p)
theorem lefB_iff (l : List Pt) (p : Pt) : ∀ k, lefB l p k = true ↔ ∀ i, i < k → 0 < turn (vx l i) (nx l i) p
  | 0 => ⟨fun _ i hi => by omega, fun _ => rfl⟩
  | k + 1 => by
    rw [lefB, Bool.and_eq_true, lefB_iff l p k, decide_eq_true_eq]
    refine ⟨fun ⟨h1, h2⟩ i hi => ?_, fun h => ⟨fun i hi => h i (by omega), h k (by omega)⟩⟩
    by_cases e : i = k
    · rw [e]; exact h2
    · exact h1 i (by omega)
theorem insP_eq {l : List Pt} {p : Pt} (v : Val l) (h : On p) : insP l p = posP l p := by
  unfold insP; rw [if_pos ⟨(valB_iff l).2 v, (onB_iff p).2 h⟩]
theorem insP_ge {l : List Pt} {p : Pt} (h : 0 ≤ insP l p) : 0 ≤ posP l p ∧ On p := by
  unfold insP at h
  split at h
  · rename_i hc; exact ⟨h, (onB_iff p).1 hc.2⟩
  · omega
theorem insP_cases (l : List Pt) (p : Pt) : insP l p = 1 ∨ insP l p = 0 ∨ insP l p = -1 := by
  unfold insP; split
  · exact pos_cases l p
  · exact .inr (.inr rfl)
theorem left_in {l : List Pt} {p : Pt} (v : Val l) (h : On p) : lefB l p l.length = decide (insP l p = 1) := by
  rw [insP_eq v h]
  rcases e : lefB l p l.length with _ | _
  · refine (decide_eq_false (fun h2 => ?_)).symm
    rw [pos_one] at h2
    rw [(lefB_iff l p l.length).2 h2] at e
    exact Bool.noConfusion e
  · exact (decide_eq_true (pos_one.2 ((lefB_iff l p l.length).1 e))).symm
/-- Halfway between two places that are not outside. -/
theorem half_ok {l : List Pt} {p1 p2 q1 q2 : Int} (v : Val l) (hp : On (p1, p2)) (hq : On (q1, q2)) (h1 : (p1 + q1) % 2 = 0) (h2 : (p2 + q2) % 2 = 0) (a : 0 ≤ insP l (p1, p2)) (b : 0 ≤ insP l (q1, q2)) :
    0 ≤ insP l ((p1 + q1) / 2, (p2 + q2) / 2) ∧ max (insP l (p1, p2)) (insP l (q1, q2)) ≤ insP l ((p1 + q1) / 2, (p2 + q2) / 2) := by
  have hp1 := hp.x0; have hp2 := hp.x1; have hp3 := hp.y0; have hp4 := hp.y1
  have hq1 := hq.x0; have hq2 := hq.x1; have hq3 := hq.y0; have hq4 := hq.y1
  dsimp only at hp1 hp2 hp3 hp4 hq1 hq2 hq3 hq4
  rw [insP_eq v hp] at a ⊢
  rw [insP_eq v hq] at b ⊢
  rw [insP_eq v ⟨by dsimp only; omega, by dsimp only; omega, by dsimp only; omega, by dsimp only; omega⟩]
  exact half_in (by omega) (by omega) a b
/-- The corners of the cell so far. -/
def whB (l : List Pt) (p1 p2 : Int) : Nat → Bool
  | 0 => true
  | k + 1 => whB l p1 p2 k && decide (0 ≤ insP l (p1 + (k : Int) % 2, p2 + (k : Int) / 2))
theorem wh_cell {l : List Pt} {p1 p2 : Int} (v : Val l) (hp : On (p1, p2)) (h : whB l p1 p2 4 = true) : cellP l p1 p2 = 1 := by
  simp only [whB, Bool.and_eq_true, decide_eq_true_eq, Bool.true_and] at h
  obtain ⟨⟨⟨h0, h1⟩, h2⟩, h3⟩ := h
  have e0 : (p1 + ((0 : Nat) : Int) % 2, p2 + ((0 : Nat) : Int) / 2) = (p1, p2) := by simp
  have e1 : (p1 + ((1 : Nat) : Int) % 2, p2 + ((1 : Nat) : Int) / 2) = (p1 + 1, p2) := by
    have a : ((1 : Nat) : Int) % 2 = 1 := by decide
    have b : ((1 : Nat) : Int) / 2 = 0 := by decide
    rw [a, b, Int.add_zero]
  have e2 : (p1 + ((2 : Nat) : Int) % 2, p2 + ((2 : Nat) : Int) / 2) = (p1, p2 + 1) := by
    have a : ((2 : Nat) : Int) % 2 = 0 := by decide
    have b : ((2 : Nat) : Int) / 2 = 1 := by decide
    rw [a, b, Int.add_zero]
  have e3 : (p1 + ((3 : Nat) : Int) % 2, p2 + ((3 : Nat) : Int) / 2) = (p1 + 1, p2 + 1) := by
    have a : ((3 : Nat) : Int) % 2 = 1 := by decide
    have b : ((3 : Nat) : Int) / 2 = 1 := by decide
    rw [a, b]
  rw [e0] at h0; rw [e1] at h1; rw [e2] at h2; rw [e3] at h3
  unfold cellP
  rw [if_pos ⟨(valB_iff l).2 v, (onB_iff _).2 hp⟩]
  exact cell_in v (insP_ge h0).1 (insP_ge h1).1 (insP_ge h2).1 (insP_ge h3).1
end Pln
