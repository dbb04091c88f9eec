/- Plain mathematics of layer 7: the parts of a valid polygon that is cut are valid. Nothing of the program. -/
import Derived.Test.YtliligehofjegaaPlnHull
namespace Pln

theorem take_vx {l : List Pt} {i j : Nat} (h : j < i) : vx (l.take i) j = vx l j := by
  unfold vx; rw [List.getD_eq_getElem?_getD, List.getD_eq_getElem?_getD, List.getElem?_take_of_lt h]
/-- The first corners of a valid polygon. -/
theorem take_val {l : List Pt} (v : Val l) {k : Nat} (h2 : 2 ≤ k) (hk : k < l.length) : Val (l.take (k + 1)) := by
  have hl : (l.take (k + 1)).length = k + 1 := by rw [List.length_take]; omega
  have := v.hi
  refine ⟨by rw [hl]; omega, by rw [hl]; omega, fun i hi => ?_, fun i hi j hj h1 h3 => ?_⟩
  · rw [hl] at hi; rw [take_vx hi]; exact v.on i (by omega)
  · rw [hl] at hi hj h3
    have e : nx (l.take (k + 1)) i = vx l ((i + 1) % (k + 1)) := by
      unfold nx; rw [hl, take_vx (Nat.mod_lt _ (by omega))]
    rw [e, take_vx hi, take_vx hj]
    rcases Nat.lt_or_ge i k with h | h
    · have e1 : (i + 1) % (k + 1) = i + 1 := Nat.mod_eq_of_lt (by omega)
      rw [e1] at h3 ⊢
      have e2 : (i + 1) % l.length = i + 1 := Nat.mod_eq_of_lt (by omega)
      have := v.left i (by omega) j (by omega) h1 (by rw [e2]; exact h3)
      unfold nx at this; rw [e2] at this; exact this
    · obtain rfl : i = k := by omega
      rw [Nat.mod_self] at h3 ⊢
      rw [turn_rot']
      rw [← turn_rot]
      rw [turn_rot']
      have := v.ordered (i := 0) (j := j) (by omega) (k := i) (by omega) hk
      first
      | exact this
      | (rw [turn_rot]; exact this)
      | (rw [turn_rot']; exact this)
      | (rw [← turn_rot]; exact this)
theorem run_rot {l : List Pt} {i k : Nat} (hi : i < l.length) (hk : k < l.length) : ∃ d, d < l.length ∧ runP l i k = (rot l i).take (d + 1) := by
  have hd : (l.drop i).length = l.length - i := List.length_drop
  unfold runP rot
  by_cases h : i ≤ k
  · refine ⟨k - i, by omega, ?_⟩
    rw [if_pos h, List.take_append_of_le_length (by rw [hd]; omega), List.drop_take, show k + 1 - i = k - i + 1 by omega]
  · refine ⟨k + l.length - i, by omega, ?_⟩
    rw [if_neg h, List.take_append, List.take_of_length_le (l := l.drop i) (by rw [hd]; omega), hd, List.take_take, show min (k + l.length - i + 1 - (l.length - i)) i = k + 1 by omega]
/-- The parts of a cut. -/
theorem run_val {l : List Pt} (v : Val l) {i k : Nat} (hi : i < l.length) (hk : k < l.length) (h : 3 ≤ (runP l i k).length) : Val (runP l i k) := by
  obtain ⟨d, hd, e⟩ := run_rot hi hk
  have hr : (rot l i).length = l.length := rot_len (by omega)
  rw [e, List.length_take, hr] at h
  rw [e]
  exact take_val (rot_val v (by omega)) (by omega) (by rw [hr]; exact hd)
theorem cut_val {l a b : List Pt} {i k : Int} (h : cutP l i k = some (a, b)) : Val a ∧ Val b := by
  unfold cutP at h
  split at h
  · rename_i hc
    obtain ⟨h1, h2, h3⟩ := hc
    split at h
    · cases h
    · rename_i hm
      cases h
      have v := (valB_iff l).1 h1
      exact ⟨run_val v (by omega) (by omega) (by omega), run_val v (by omega) (by omega) (by omega)⟩
  · cases h
end Pln
