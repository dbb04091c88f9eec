/- Plain mathematics of layer 7: the parts of a cut do not overlap, touch along the diagonal, and fill the whole. Nothing of the program. -/
import Derived.Test.YtliligehofjegaaPlnCutsP
import Derived.Test.YtliligehofjegaaPlnConvexP
namespace Pln

/-- A cut of a valid polygon, begun at its first corner. -/
structure CutG (r : List Pt) (d : Nat) : Prop where
  v : Val r
  d2 : 2 ≤ d
  dn : d + 2 ≤ r.length
namespace CutG
variable {r : List Pt} {d : Nat}
theorem dl (h : CutG r d) : d < r.length := by have := h.dn; omega
theorem pos (h : CutG r d) {j : Nat} (h1 : 0 < j) (h2 : j < d) : 0 < turn (vx r d) (vx r 0) (vx r j) := by
  have := h.v.ordered h1 h2 h.dl
  have := h.v.ordered (i := 0) h1 (k := d) h2 h.dl
  rwa [turn_rot'] 
theorem neg (h : CutG r d) {j : Nat} (h1 : d < j) (h2 : j < r.length) : turn (vx r d) (vx r 0) (vx r j) < 0 := by
  have := h.d2
  have := h.v.ordered (i := 0) (j := d) (by omega) h1 h2
  rw [turn_swap] ; omega
theorem val1 (h : CutG r d) : Val (fpt r d) := take_val h.v h.d2 h.dl
theorem len1 (h : CutG r d) : (fpt r d).length = d + 1 := fpt_len h.dl
theorem len2 (h : CutG r d) : (spt r d).length = r.length - d + 1 := spt_len h.dl
theorem mem1 (h : CutG r d) {c : Pt} (hc : c ∈ fpt r d) : ∃ j, j ≤ d ∧ c = vx r j := by
  obtain ⟨j, hj, rfl⟩ := mem_vx hc
  rw [h.len1] at hj
  exact ⟨j, by omega, fpt_vx (by omega)⟩
theorem mem2 (h : CutG r d) {c : Pt} (hc : c ∈ spt r d) : ∃ j, j < r.length ∧ (d ≤ j ∨ j = 0) ∧ c = vx r j := by
  obtain ⟨j, hj, rfl⟩ := mem_vx hc
  rw [h.len2] at hj
  have := h.dl
  rw [spt_vx h.dl (by omega)]
  by_cases e : j = r.length - d
  · exact ⟨0, by omega, .inr rfl, by rw [show d + j = r.length by omega, Nat.mod_self]⟩
  · exact ⟨d + j, by omega, .inl (by omega), by rw [Nat.mod_eq_of_lt (by omega)]⟩
/-- The diagonal as an edge of the first part, and of the second one. -/
theorem e1 (h : CutG r d) : vx (fpt r d) d = vx r d ∧ nx (fpt r d) d = vx r 0 := ⟨fpt_vx (Nat.le_refl _), fpt_nx_last h.dl⟩
theorem e2 (h : CutG r d) : vx (spt r d) (r.length - d) = vx r 0 ∧ nx (spt r d) (r.length - d) = vx r d :=
  ⟨by rw [spt_vx h.dl (Nat.le_refl _), show d + (r.length - d) = r.length by have := h.dl; omega, Nat.mod_self], spt_nx_last h.dl⟩
theorem le2 (h : CutG r d) {c : Pt} (hc : c ∈ spt r d) : turn (vx r d) (vx r 0) c ≤ 0 := by
  obtain ⟨j, hj, hj2, rfl⟩ := h.mem2 hc
  rcases hj2 with hj2 | rfl
  · by_cases e : j = d
    · rw [e, turn_l]; omega
    · exact Int.le_of_lt (h.neg (by omega) hj)
  · rw [turn_r]; omega
theorem apart (h : CutG r d) : sepB (fpt r d) (spt r d) d = true := by
  rw [sepB_iff]; intro c hc; rw [h.e1.1, h.e1.2]; exact h.le2 hc
theorem side (h : CutG r d) (v2 : Val (spt r d)) : (sideP (fpt r d) (spt r d)).isSome = true := by
  rcases e : sideP (fpt r d) (spt r d) with _ | x
  · have := ((side_none ((valB_iff _).2 h.val1) ((valB_iff _).2 v2)).1 e).1 d (by rw [h.len1]; omega)
    rw [h.apart] at this; cases this
  · rfl
theorem over (h : CutG r d) (v2 : Val (spt r d)) : overP (fpt r d) (spt r d) = false := by
  unfold overP
  have := h.side v2
  rw [Option.isNone_eq_false_iff.2 this]; simp
theorem out1 (h : CutG r d) {j : Nat} (h1 : d < j) (h2 : j < r.length) : ¬ 0 ≤ posP (fpt r d) (vx r j) := fun hp => by
  have := pos_ge.1 hp d (by rw [h.len1]; omega)
  rw [h.e1.1, h.e1.2] at this
  have := h.neg h1 h2; omega
theorem out2 (h : CutG r d) {j : Nat} (h1 : 0 < j) (h2 : j < d) : ¬ 0 ≤ posP (spt r d) (vx r j) := fun hp => by
  have := pos_ge.1 hp (r.length - d) (by rw [h.len2]; omega)
  rw [h.e2.1, h.e2.2, turn_swap] at this
  have := h.pos h1 h2; omega
theorem at_corner {l : List Pt} (v : Val l) {j : Nat} (hj : j < l.length) : 0 ≤ posP l (vx l j) := pos_ge.2 fun _ hi => v.nonneg hi hj
theorem in1 (h : CutG r d) {j : Nat} (hj : j ≤ d) : 0 ≤ posP (fpt r d) (vx r j) := by
  have := at_corner h.val1 (j := j) (by rw [h.len1]; omega)
  rwa [fpt_vx hj] at this
theorem in2 (h : CutG r d) (v2 : Val (spt r d)) {j : Nat} (h1 : d ≤ j) (hj : j < r.length) : 0 ≤ posP (spt r d) (vx r j) := by
  have := at_corner v2 (j := j - d) (by rw [h.len2]; omega)
  rwa [spt_vx h.dl (by omega), show d + (j - d) = j by omega, Nat.mod_eq_of_lt hj] at this
theorem in20 (h : CutG r d) (v2 : Val (spt r d)) : 0 ≤ posP (spt r d) (vx r 0) := by
  have := at_corner v2 (j := r.length - d) (by rw [h.len2]; omega)
  rwa [h.e2.1] at this
/-- What both parts have in common: the ends of the diagonal. -/
theorem com (h : CutG r d) (v2 : Val (spt r d)) : comP (fpt r d) (spt r d) = [vx r 0, vx r d, vx r d, vx r 0] := by
  have d2 := h.d2
  have dn := h.dn
  have K : ∀ c, (decide (0 ≤ posP (fpt r d) c) && decide (0 ≤ posP (spt r d) c)) = true ↔ 0 ≤ posP (fpt r d) c ∧ 0 ≤ posP (spt r d) c := fun c => by simp
  have k0 := (K (vx r 0)).2 ⟨h.in1 (by omega), h.in20 v2⟩
  have kd := (K (vx r d)).2 ⟨h.in1 (by omega), h.in2 v2 (Nat.le_refl _) h.dl⟩
  have q1 : fpt r d = vx r 0 :: ((r.take d).drop 1 ++ [vx r d]) := by
    refine ext_vx (by rw [h.len1]; simp [List.length_take]; omega) fun i hi => ?_
    rw [h.len1] at hi
    rw [fpt_vx (by omega)]
    rcases i with _ | i
    · rfl
    · show _ = vx ((r.take d).drop 1 ++ [vx r d]) i
      by_cases e : i + 1 = d
      · have := vx_app_r (a := (r.take d).drop 1) (b := [vx r d]) 0
        rw [show ((r.take d).drop 1).length + 0 = i by simp [List.length_take]; omega] at this
        rw [this, e]; rfl
      · rw [vx_app_l (by simp [List.length_take]; omega)]
        unfold vx
        rw [List.getD_eq_getElem?_getD, List.getD_eq_getElem?_getD, List.getElem?_drop, List.getElem?_take_of_lt (by omega), Nat.add_comm]
  have q2 : spt r d = vx r d :: (r.drop (d + 1) ++ [vx r 0]) := by
    unfold spt
    rw [List.drop_eq_getElem_cons h.dl, ← vx_eq h.dl]; rfl
  have z1 : ((r.take d).drop 1).filter (fun c => decide (0 ≤ posP (fpt r d) c) && decide (0 ≤ posP (spt r d) c)) = [] := by
    rw [List.filter_eq_nil_iff]
    intro c hc
    obtain ⟨j, hj, rfl⟩ := mem_vx hc
    simp only [List.length_drop, List.length_take] at hj
    have e : vx ((r.take d).drop 1) j = vx r (j + 1) := by
      unfold vx
      rw [List.getD_eq_getElem?_getD, List.getD_eq_getElem?_getD, List.getElem?_drop, List.getElem?_take_of_lt (by omega), Nat.add_comm]
    rw [e, K]
    exact fun x => h.out2 (by omega) (by omega) x.2
  have z2 : (r.drop (d + 1)).filter (fun c => decide (0 ≤ posP (fpt r d) c) && decide (0 ≤ posP (spt r d) c)) = [] := by
    rw [List.filter_eq_nil_iff]
    intro c hc
    obtain ⟨j, hj, rfl⟩ := mem_vx hc
    simp only [List.length_drop] at hj
    have e : vx (r.drop (d + 1)) j = vx r (d + 1 + j) := by
      unfold vx
      rw [List.getD_eq_getElem?_getD, List.getD_eq_getElem?_getD, List.getElem?_drop]
    rw [e, K]
    exact fun x => h.out1 (by omega) (by omega) x.1
  unfold comP
  generalize hp : (fun c => decide (0 ≤ posP (fpt r d) c) && decide (0 ≤ posP (spt r d) c)) = p at *
  have k0' : p (vx r 0) = true := by rw [← hp]; exact k0
  have kd' : p (vx r d) = true := by rw [← hp]; exact kd
  rw [q1, q2]
  simp only [List.cons_append, List.filter_cons, List.filter_append, z1, z2, k0', kd', if_true, List.filter_nil, List.nil_append, List.append_assoc]
theorem seam (h : CutG r d) (v2 : Val (spt r d)) : seamP (fpt r d) (spt r d) = some (vx r d, vx r 0) := by
  have d2 := h.d2
  have hne : vx r 0 ≠ vx r d := h.v.ne (by have := h.dn; omega) h.dl (by omega)
  have hno : (fpt r d).any (fun c => decide (0 < turn (vx r 0) (vx r d) c)) = false := by
    rw [List.any_eq_false]
    intro c hc
    obtain ⟨j, hj, rfl⟩ := h.mem1 hc
    rw [turn_swap]
    by_cases e0 : j = 0
    · rw [e0, turn_r]; decide
    · by_cases ed : j = d
      · rw [ed, turn_l]; decide
      · have := h.pos (j := j) (by omega) (by omega)
        simp; omega
  unfold seamP
  rw [if_pos (h.side v2), h.com v2]
  simp only [List.find?_cons, ne_eq, not_true_eq_false, decide_false, hne, not_false_eq_true, decide_true]
  unfold dirP
  rw [hno]; simp
/-- Two lines through a place. -/
theorem meet_at {o b c p : Pt} (h : turn o b c ≠ 0) (h1 : turn o b p = 0) (h2 : turn o c p = 0) : p = o := by
  have e1 : turn o b c * (p.1 - o.1) = (c.1 - o.1) * turn o b p - (b.1 - o.1) * turn o c p := by unfold turn; grind
  have e2 : turn o b c * (p.2 - o.2) = (c.2 - o.2) * turn o b p - (b.2 - o.2) * turn o c p := by unfold turn; grind
  rw [h1, h2, Int.mul_zero, Int.mul_zero, Int.sub_zero] at e1 e2
  rcases Int.mul_eq_zero.1 e1 with e | e1
  · exact absurd e h
  · rcases Int.mul_eq_zero.1 e2 with e | e2
    · exact absurd e h
    · exact Prod.ext (by omega) (by omega)
/-- On a line, an affine function is told by two of its values. -/
theorem on_line {f k : Pt → Int} (hf : Aff f) (hk : Aff k) {a b p : Pt} (h : turn a b p = 0) : k p * (f b - f a) = k a * (f b - f p) + k b * (f p - f a) := by
  obtain ⟨A, B, C, e⟩ := hf
  obtain ⟨D, E, F, e'⟩ := hk
  rw [e, e, e, e', e', e']
  unfold turn at h
  grind
theorem support_strict {l : List Pt} (v : Val l) {g : Pt → Int} (hg : Aff g) {p : Pt} (hp : ∀ i, i < l.length → 0 < turn (vx l i) (nx l i) p) {j m : Nat} (hj : j < l.length) (hm : m < l.length) (hjm : g (vx l j) ≠ g (vx l m)) : ∃ i, i < l.length ∧ g p < g (vx l i) := by
  obtain ⟨i, hi, hmx⟩ := v.top g
  refine ⟨i, hi, ?_⟩
  have hT := v.corner hi
  have h1 := hp i hi
  have h2 := hp (Val.pre l i) (v.pre_lt i)
  rw [v.nx_pre hi] at h2
  have g1 := hmx ((i + 1) % l.length) (v.nxl hi)
  have g2 := hmx (Val.pre l i) (v.pre_lt i)
  have g3 := hmx j hj
  have g4 := hmx m hm
  have pj := v.nonneg hi hj
  have pm := v.nonneg hi hm
  have pj' := v.nonneg (v.pre_lt i) hj
  have pm' := v.nonneg (v.pre_lt i) hm
  rw [v.nx_pre hi] at pj' pm'
  change g (nx l i) ≤ _ at g1
  generalize vx l (Val.pre l i) = a at *
  generalize nx l i = b at *
  generalize vx l i = o at *
  generalize vx l j = s at *
  generalize vx l m = t at *
  have key : ∀ q, turn a o b * (g q - g o) = turn a o q * (g b - g o) + turn o b q * (g a - g o) := fun q => by
    obtain ⟨A, B, C, e⟩ := hg
    rw [e, e, e, e]; unfold turn; grind
  by_cases hb : g b = g o
  · by_cases ha : g a = g o
    · exfalso
      have k1 := key s
      have k2 := key t
      rw [hb, ha, Int.sub_self, Int.mul_zero, Int.mul_zero] at k1 k2
      rcases Int.mul_eq_zero.1 k1 with k1 | k1
      · omega
      · rcases Int.mul_eq_zero.1 k2 with k2 | k2
        · omega
        · omega
    · have k := key p
      have m1 : turn a o p * (g b - g o) = 0 := by rw [hb, Int.sub_self, Int.mul_zero]
      have m2 : 0 < turn o b p * (g o - g a) := Int.mul_pos h1 (by omega)
      have m3 : turn o b p * (g o - g a) = -(turn o b p * (g a - g o)) := by grind
      have m4 : turn a o b * (g o - g p) = -(turn a o b * (g p - g o)) := by grind
      have := pos_of_mul hT (by omega : 0 < turn a o b * (g o - g p))
      omega
  · have k := key p
    have m1 : 0 < turn a o p * (g o - g b) := Int.mul_pos h2 (by omega)
    have m2 : 0 ≤ turn o b p * (g o - g a) := Int.mul_nonneg (Int.le_of_lt h1) (by omega)
    have m3 : turn o b p * (g o - g a) = -(turn o b p * (g a - g o)) := by grind
    have m5 : turn a o p * (g o - g b) = -(turn a o p * (g b - g o)) := by grind
    have m4 : turn a o b * (g o - g p) = -(turn a o b * (g p - g o)) := by grind
    have := pos_of_mul hT (by omega : 0 < turn a o b * (g o - g p))
    omega
end CutG
end Pln
