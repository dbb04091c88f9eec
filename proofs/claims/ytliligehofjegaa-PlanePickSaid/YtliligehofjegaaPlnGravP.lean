/- Plain mathematics of layer 7: a polygon as a fan of triangles; its area and its moment; corners on a line. Nothing of the program. -/
import Derived.Test.YtliligehofjegaaPlnCutsI
import Derived.Test.YtliligehofjegaaPlnShfP
namespace Pln

theorem sm_nonneg {f : Nat → Int} : ∀ {n : Nat}, (∀ i, i < n → 0 ≤ f i) → 0 ≤ sm f n
  | 0, _ => Int.le_refl _
  | n + 1, h => by have := sm_nonneg (f := f) (n := n) (fun i hi => h i (by omega)); have := h n (by omega); rw [sm]; omega
theorem sm_pos {f : Nat → Int} : ∀ {n k : Nat}, (∀ i, i < n → 0 ≤ f i) → k < n → 0 < f k → 0 < sm f n
  | n + 1, k, h, hk, hp => by
    rw [sm]
    have h1 := sm_nonneg (f := f) (n := n) (fun i hi => h i (by omega))
    have h2 := h n (by omega)
    by_cases e : k = n
    · subst e; omega
    · have := sm_pos (f := f) (n := n) (k := k) (fun i hi => h i (by omega)) (by omega) hp; omega
/-- A sum over edges as one over a fan. -/
theorem area_fan (l : List Pt) (o : Pt) : sumE l crs l.length = sumE l (fun a b => turn o a b) l.length := by
  have e : ∀ a b : Pt, crs a b = turn o a b + (crs o b - crs o a) := fun a b => by unfold crs turn; grind
  rw [sumE_congr e, sumE_add, sumE_tele l (fun p => crs o p), Int.add_zero]
theorem mx_fan (l : List Pt) (o : Pt) : sumE l (fun a b => (a.1 + b.1) * crs a b) l.length = sumE l (fun a b => (o.1 + a.1 + b.1) * turn o a b) l.length := by
  have e : ∀ a b : Pt, (a.1 + b.1) * crs a b = (o.1 + a.1 + b.1) * turn o a b + ((o.1 * b.1 * b.2 + o.1 * o.1 * b.2 - o.1 * o.2 * b.1 - o.2 * b.1 * b.1) - (o.1 * a.1 * a.2 + o.1 * o.1 * a.2 - o.1 * o.2 * a.1 - o.2 * a.1 * a.1)) := fun a b => by unfold crs turn; grind
  rw [sumE_congr e, sumE_add, sumE_tele l (fun p => o.1 * p.1 * p.2 + o.1 * o.1 * p.2 - o.1 * o.2 * p.1 - o.2 * p.1 * p.1), Int.add_zero]
theorem fan_nonneg {l : List Pt} (v : Val l) {i : Nat} (hi : i < l.length) : 0 ≤ turn (vx l 0) (vx l i) (nx l i) := by
  have := v.nonneg hi (show 0 < l.length by have := v.lo; omega)
  rwa [← turn_rot (vx l 0) (vx l i) (nx l i)]
theorem fan_pos {l : List Pt} (v : Val l) : 0 < turn (vx l 0) (vx l 1) (nx l 1) := by
  have h3 := v.lo
  rw [nx_in (by omega)]
  exact v.ordered (by omega) (by omega) (by omega)
theorem area_pos {l : List Pt} (v : Val l) : 0 < sumE l crs l.length := by
  rw [area_fan l (vx l 0)]
  exact sm_pos (k := 1) (fun i hi => fan_nonneg v hi) (by have := v.lo; omega) (fan_pos v)
/-- The center of gravity lies between the leftmost and the rightmost corner. -/
theorem grav_left {l : List Pt} (v : Val l) {c : Int} (hc : ∀ i, i < l.length → c ≤ (vx l i).1) : 3 * c * sumE l crs l.length < sumE l (fun a b => (a.1 + b.1) * crs a b) l.length := by
  have h3 := v.lo
  have e : sumE l (fun a b => ((vx l 0).1 + a.1 + b.1) * turn (vx l 0) a b) l.length = 3 * c * sumE l (fun a b => turn (vx l 0) a b) l.length + sumE l (fun a b => ((vx l 0).1 + a.1 + b.1 - 3 * c) * turn (vx l 0) a b) l.length := by
    rw [← sumE_mul, ← sumE_add]; exact sumE_congr (fun a b => by grind) _
  rw [mx_fan l (vx l 0), area_fan l (vx l 0), e]
  have : 0 < sumE l (fun a b => ((vx l 0).1 + a.1 + b.1 - 3 * c) * turn (vx l 0) a b) l.length := by
    refine sm_pos (k := 1) (fun i hi => ?_) (by omega) ?_
    · have := hc 0 (by omega); have := hc i hi; have := hc _ (v.nxl hi)
      exact Int.mul_nonneg (by show 0 ≤ (vx l 0).1 + (vx l i).1 + (vx l ((i + 1) % l.length)).1 - 3 * c; omega) (fan_nonneg v hi)
    · have a := hc 0 (by omega); have b := hc 1 (by omega); have d := hc (1 + 1) (by omega)
      have fp := fan_pos v
      rw [nx_in (by omega)] at fp ⊢
      refine Int.mul_pos ?_ fp
      rcases Int.lt_or_le 0 ((vx l 0).1 + (vx l 1).1 + (vx l (1 + 1)).1 - 3 * c) with x | x
      · exact x
      · exfalso
        have e0 : (vx l 0).1 = c := by omega
        have e1 : (vx l 1).1 = c := by omega
        have e2 : (vx l (1 + 1)).1 = c := by omega
        unfold turn at fp
        rw [e0, e1, e2, Int.sub_self, Int.zero_mul, Int.mul_zero] at fp
        omega
  omega
theorem grav_right {l : List Pt} (v : Val l) {c : Int} (hc : ∀ i, i < l.length → (vx l i).1 ≤ c) : sumE l (fun a b => (a.1 + b.1) * crs a b) l.length < 3 * c * sumE l crs l.length := by
  have h3 := v.lo
  have e : 3 * c * sumE l (fun a b => turn (vx l 0) a b) l.length = sumE l (fun a b => ((vx l 0).1 + a.1 + b.1) * turn (vx l 0) a b) l.length + sumE l (fun a b => (3 * c - ((vx l 0).1 + a.1 + b.1)) * turn (vx l 0) a b) l.length := by
    rw [← sumE_mul, ← sumE_add]; exact sumE_congr (fun a b => by grind) _
  rw [mx_fan l (vx l 0), area_fan l (vx l 0), e]
  have : 0 < sumE l (fun a b => (3 * c - ((vx l 0).1 + a.1 + b.1)) * turn (vx l 0) a b) l.length := by
    refine sm_pos (k := 1) (fun i hi => ?_) (by omega) ?_
    · have := hc 0 (by omega); have := hc i hi; have := hc _ (v.nxl hi)
      exact Int.mul_nonneg (by show 0 ≤ 3 * c - ((vx l 0).1 + (vx l i).1 + (vx l ((i + 1) % l.length)).1); omega) (fan_nonneg v hi)
    · have a := hc 0 (by omega); have b := hc 1 (by omega); have d := hc (1 + 1) (by omega)
      have fp := fan_pos v
      rw [nx_in (by omega)] at fp ⊢
      refine Int.mul_pos ?_ fp
      rcases Int.lt_or_le 0 (3 * c - ((vx l 0).1 + (vx l 1).1 + (vx l (1 + 1)).1)) with x | x
      · exact x
      · exfalso
        have e0 : (vx l 0).1 = c := by omega
        have e1 : (vx l 1).1 = c := by omega
        have e2 : (vx l (1 + 1)).1 = c := by omega
        unfold turn at fp
        rw [e0, e1, e2, Int.sub_self, Int.zero_mul, Int.mul_zero] at fp
        omega
  omega
/-- No three corners have the same height. -/
theorem no_three {l : List Pt} (v : Val l) {i j k : Nat} (h1 : i < j) (h2 : j < k) (h3 : k < l.length) (y : Int) (a : (vx l i).2 = y) (b : (vx l j).2 = y) (c : (vx l k).2 = y) : False := by
  have := v.ordered h1 h2 h3
  unfold turn at this
  rw [a, b, c, Int.sub_self, Int.zero_mul, Int.mul_zero] at this
  omega
end Pln
