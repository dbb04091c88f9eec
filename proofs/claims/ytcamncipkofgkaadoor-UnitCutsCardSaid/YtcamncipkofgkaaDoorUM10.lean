/- Several texts of layers 7 and 8, one behind the other: PlnCutsG, PlnCutsI, PlnGravP, UntLawP, PlnLawKit, PlnCardKit, UntCardKit. -/
import Derived.WalkKit
import Derived.ProofKit
import Derived.OpenShut
import Derived.Carry
import Derived.Deep.DeepHandedRow
import Derived.Lib.LaidTab
import Derived.Lay
import Derived.Deep.Slices
import Derived.Deep.Fields
import Derived.ChangeSame
import Derived.ChangeSlices
import Derived.Lib.SmallJoins
import Derived.Test.YtcamncipkofgkaaDoorRows
import Derived.Test.YtcamncipkofgkaaDoorCards
import Derived.Test.YtcamncipkofgkaaDoorTie
import Derived.Test.YtcamncipkofgkaaDoorUM9
/- PlnCutsG: Plain mathematics of layer 7: the parts of a cut do not overlap, touch along the diagonal, and fill the whole. Nothing of the program. -/
namespace Pln

/-- A cut of a valid polygon, begun at its first corner. -/
structure CutG (r : List Pt) (d : Nat) : Prop where
  v : Val r
  d2 : 2 ≤ d
  dn : d + 2 ≤ r.length
namespace CutG
variable {r : List Pt} {d : Nat}
theorem dl (h : CutG r d) : d < r.length := by have := h.dn; omega
theorem pos (h : CutG r d) {j : Nat} (h1 : 0 < j) (h2 : j < d) : 0 < turn (vx r d) (vx r 0) (vx r j) := by
  have := h.v.ordered h1 h2 h.dl
  have := h.v.ordered (i := 0) h1 (k := d) h2 h.dl
  rwa [turn_rot'] 
theorem neg (h : CutG r d) {j : Nat} (h1 : d < j) (h2 : j < r.length) : turn (vx r d) (vx r 0) (vx r j) < 0 := by
  have := h.d2
  have := h.v.ordered (i := 0) (j := d) (by omega) h1 h2
  rw [turn_swap] ; omega
theorem val1 (h : CutG r d) : Val (fpt r d) := take_val h.v h.d2 h.dl
theorem len1 (h : CutG r d) : (fpt r d).length = d + 1 := fpt_len h.dl
theorem len2 (h : CutG r d) : (spt r d).length = r.length - d + 1 := spt_len h.dl
theorem mem1 (h : CutG r d) {c : Pt} (hc : c ∈ fpt r d) : ∃ j, j ≤ d ∧ c = vx r j := by
  obtain ⟨j, hj, rfl⟩ := mem_vx hc
  rw [h.len1] at hj
  exact ⟨j, by omega, fpt_vx (by omega)⟩
theorem mem2 (h : CutG r d) {c : Pt} (hc : c ∈ spt r d) : ∃ j, j < r.length ∧ (d ≤ j ∨ j = 0) ∧ c = vx r j := by
  obtain ⟨j, hj, rfl⟩ := mem_vx hc
  rw [h.len2] at hj
  have := h.dl
  rw [spt_vx h.dl (by omega)]
  by_cases e : j = r.length - d
  · exact ⟨0, by omega, .inr rfl, by rw [show d + j = r.length by omega, Nat.mod_self]⟩
  · exact ⟨d + j, by omega, .inl (by omega), by rw [Nat.mod_eq_of_lt (by omega)]⟩
/-- The diagonal as an edge of the first part, and of the second one. -/
theorem e1 (h : CutG r d) : vx (fpt r d) d = vx r d ∧ nx (fpt r d) d = vx r 0 := ⟨fpt_vx (Nat.le_refl _), fpt_nx_last h.dl⟩
theorem e2 (h : CutG r d) : vx (spt r d) (r.length - d) = vx r 0 ∧ nx (spt r d) (r.length - d) = vx r d :=
  ⟨by rw [spt_vx h.dl (Nat.le_refl _), show d + (r.length - d) = r.length by have := h.dl; omega, Nat.mod_self], spt_nx_last h.dl⟩
theorem le2 (h : CutG r d) {c : Pt} (hc : c ∈ spt r d) : turn (vx r d) (vx r 0) c ≤ 0 := by
  obtain ⟨j, hj, hj2, rfl⟩ := h.mem2 hc
  rcases hj2 with hj2 | rfl
  · by_cases e : j = d
    · rw [e, turn_l]; omega
    · exact Int.le_of_lt (h.neg (by omega) hj)
  · rw [turn_r]; omega
theorem apart (h : CutG r d) : sepB (fpt r d) (spt r d) d = true := by
  rw [sepB_iff]; intro c hc; rw [h.e1.1, h.e1.2]; exact h.le2 hc
theorem side (h : CutG r d) (v2 : Val (spt r d)) : (sideP (fpt r d) (spt r d)).isSome = true := by
  rcases e : sideP (fpt r d) (spt r d) with _ | x
  · have := ((side_none ((valB_iff _).2 h.val1) ((valB_iff _).2 v2)).1 e).1 d (by rw [h.len1]; omega)
    rw [h.apart] at this; cases this
  · rfl
theorem over (h : CutG r d) (v2 : Val (spt r d)) : overP (fpt r d) (spt r d) = false := by
  unfold overP
  have := h.side v2
  rw [Option.isNone_eq_false_iff.2 this]; simp
theorem out1 (h : CutG r d) {j : Nat} (h1 : d < j) (h2 : j < r.length) : ¬ 0 ≤ posP (fpt r d) (vx r j) := fun hp => by
  have := pos_ge.1 hp d (by rw [h.len1]; omega)
  rw [h.e1.1, h.e1.2] at this
  have := h.neg h1 h2; omega
theorem out2 (h : CutG r d) {j : Nat} (h1 : 0 < j) (h2 : j < d) : ¬ 0 ≤ posP (spt r d) (vx r j) := fun hp => by
  have := pos_ge.1 hp (r.length - d) (by rw [h.len2]; omega)
  rw [h.e2.1, h.e2.2, turn_swap] at this
  have := h.pos h1 h2; omega
theorem at_corner {l : List Pt} (v : Val l) {j : Nat} (hj : j < l.length) : 0 ≤ posP l (vx l j) := pos_ge.2 fun _ hi => v.nonneg hi hj
theorem in1 (h : CutG r d) {j : Nat} (hj : j ≤ d) : 0 ≤ posP (fpt r d) (vx r j) := by
  have := at_corner h.val1 (j := j) (by rw [h.len1]; omega)
  rwa [fpt_vx hj] at this
theorem in2 (h : CutG r d) (v2 : Val (spt r d)) {j : Nat} (h1 : d ≤ j) (hj : j < r.length) : 0 ≤ posP (spt r d) (vx r j) := by
  have := at_corner v2 (j := j - d) (by rw [h.len2]; omega)
  rwa [spt_vx h.dl (by omega), show d + (j - d) = j by omega, Nat.mod_eq_of_lt hj] at this
theorem in20 (h : CutG r d) (v2 : Val (spt r d)) : 0 ≤ posP (spt r d) (vx r 0) := by
  have := at_corner v2 (j := r.length - d) (by rw [h.len2]; omega)
  rwa [h.e2.1] at this
/-- What both parts have in common: the ends of the diagonal. -/
theorem com (h : CutG r d) (v2 : Val (spt r d)) : comP (fpt r d) (spt r d) = [vx r 0, vx r d, vx r d, vx r 0] := by
  have d2 := h.d2
  have dn := h.dn
  have K : ∀ c, (decide (0 ≤ posP (fpt r d) c) && decide (0 ≤ posP (spt r d) c)) = true ↔ 0 ≤ posP (fpt r d) c ∧ 0 ≤ posP (spt r d) c := fun c => by simp
  have k0 := (K (vx r 0)).2 ⟨h.in1 (by omega), h.in20 v2⟩
  have kd := (K (vx r d)).2 ⟨h.in1 (by omega), h.in2 v2 (Nat.le_refl _) h.dl⟩
  have q1 : fpt r d = vx r 0 :: ((r.take d).drop 1 ++ [vx r d]) := by
    refine ext_vx (by rw [h.len1]; simp [List.length_take]; omega) fun i hi => ?_
    rw [h.len1] at hi
    rw [fpt_vx (by omega)]
    rcases i with _ | i
    · rfl
    · show _ = vx ((r.take d).drop 1 ++ [vx r d]) i
      by_cases e : i + 1 = d
      · have := vx_app_r (a := (r.take d).drop 1) (b := [vx r d]) 0
        rw [show ((r.take d).drop 1).length + 0 = i by simp [List.length_take]; omega] at this
        rw [this, e]; rfl
      · rw [vx_app_l (by simp [List.length_take]; omega)]
        unfold vx
        rw [List.getD_eq_getElem?_getD, List.getD_eq_getElem?_getD, List.getElem?_drop, List.getElem?_take_of_lt (by omega), Nat.add_comm]
  have q2 : spt r d = vx r d :: (r.drop (d + 1) ++ [vx r 0]) := by
    unfold spt
    rw [List.drop_eq_getElem_cons h.dl, ← vx_eq h.dl]; rfl
  have z1 : ((r.take d).drop 1).filter (fun c => decide (0 ≤ posP (fpt r d) c) && decide (0 ≤ posP (spt r d) c)) = [] := by
    rw [List.filter_eq_nil_iff]
    intro c hc
    obtain ⟨j, hj, rfl⟩ := mem_vx hc
    simp only [List.length_drop, List.length_take] at hj
    have e : vx ((r.take d).drop 1) j = vx r (j + 1) := by
      unfold vx
      rw [List.getD_eq_getElem?_getD, List.getD_eq_getElem?_getD, List.getElem?_drop, List.getElem?_take_of_lt (by omega), Nat.add_comm]
    rw [e, K]
    exact fun x => h.out2 (by omega) (by omega) x.2
  have z2 : (r.drop (d + 1)).filter (fun c => decide (0 ≤ posP (fpt r d) c) && decide (0 ≤ posP (spt r d) c)) = [] := by
    rw [List.filter_eq_nil_iff]
    intro c hc
    obtain ⟨j, hj, rfl⟩ := mem_vx hc
    simp only [List.length_drop] at hj
    have e : vx (r.drop (d + 1)) j = vx r (d + 1 + j) := by
      unfold vx
      rw [List.getD_eq_getElem?_getD, List.getD_eq_getElem?_getD, List.getElem?_drop]
    rw [e, K]
    exact fun x => h.out1 (by omega) (by omega) x.1
  unfold comP
  generalize hp : (fun c => decide (0 ≤ posP (fpt r d) c) && decide (0 ≤ posP (spt r d) c)) = p at *
  have k0' : p (vx r 0) = true := by rw [← hp]; exact k0
  have kd' : p (vx r d) = true := by rw [← hp]; exact kd
  rw [q1, q2]
  simp only [List.cons_append, List.filter_cons, List.filter_append, z1, z2, k0', kd', if_true, List.filter_nil, List.nil_append, List.append_assoc]
theorem seam (h : CutG r d) (v2 : Val (spt r d)) : seamP (fpt r d) (spt r d) = some (vx r d, vx r 0) := by
  have d2 := h.d2
  have hne : vx r 0 ≠ vx r d := h.v.ne (by have := h.dn; omega) h.dl (by omega)
  have hno : (fpt r d).any (fun c => decide (0 < turn (vx r 0) (vx r d) c)) = false := by
    rw [List.any_eq_false]
    intro c hc
    obtain ⟨j, hj, rfl⟩ := h.mem1 hc
    rw [turn_swap]
    by_cases e0 : j = 0
    · rw [e0, turn_r]; decide
    · by_cases ed : j = d
      · rw [ed, turn_l]; decide
      · have := h.pos (j := j) (by omega) (by omega)
        simp; omega
  unfold seamP
  rw [if_pos (h.side v2), h.com v2]
  simp only [List.find?_cons, ne_eq, not_true_eq_false, decide_false, hne, not_false_eq_true, decide_true]
  unfold dirP
  rw [hno]; simp
/-- Two lines through a place. -/
theorem meet_at {o b c p : Pt} (h : turn o b c ≠ 0) (h1 : turn o b p = 0) (h2 : turn o c p = 0) : p = o := by
  have e1 : turn o b c * (p.1 - o.1) = (c.1 - o.1) * turn o b p - (b.1 - o.1) * turn o c p := by unfold turn; grind
  have e2 : turn o b c * (p.2 - o.2) = (c.2 - o.2) * turn o b p - (b.2 - o.2) * turn o c p := by unfold turn; grind
  rw [h1, h2, Int.mul_zero, Int.mul_zero, Int.sub_zero] at e1 e2
  rcases Int.mul_eq_zero.1 e1 with e | e1
  · exact absurd e h
  · rcases Int.mul_eq_zero.1 e2 with e | e2
    · exact absurd e h
    · exact Prod.ext (by omega) (by omega)
/-- On a line, an affine function is told by two of its values. -/
theorem on_line {f k : Pt → Int} (hf : Aff f) (hk : Aff k) {a b p : Pt} (h : turn a b p = 0) : k p * (f b - f a) = k a * (f b - f p) + k b * (f p - f a) := by
  obtain ⟨A, B, C, e⟩ := hf
  obtain ⟨D, E, F, e'⟩ := hk
  rw [e, e, e, e', e', e']
  unfold turn at h
  grind
theorem support_strict {l : List Pt} (v : Val l) {g : Pt → Int} (hg : Aff g) {p : Pt} (hp : ∀ i, i < l.length → 0 < turn (vx l i) (nx l i) p) {j m : Nat} (hj : j < l.length) (hm : m < l.length) (hjm : g (vx l j) ≠ g (vx l m)) : ∃ i, i < l.length ∧ g p < g (vx l i) := by
  obtain ⟨i, hi, hmx⟩ := v.top g
  refine ⟨i, hi, ?_⟩
  have hT := v.corner hi
  have h1 := hp i hi
  have h2 := hp (Val.pre l i) (v.pre_lt i)
  rw [v.nx_pre hi] at h2
  have g1 := hmx ((i + 1) % l.length) (v.nxl hi)
  have g2 := hmx (Val.pre l i) (v.pre_lt i)
  have g3 := hmx j hj
  have g4 := hmx m hm
  have pj := v.nonneg hi hj
  have pm := v.nonneg hi hm
  have pj' := v.nonneg (v.pre_lt i) hj
  have pm' := v.nonneg (v.pre_lt i) hm
  rw [v.nx_pre hi] at pj' pm'
  change g (nx l i) ≤ _ at g1
  generalize vx l (Val.pre l i) = a at *
  generalize nx l i = b at *
  generalize vx l i = o at *
  generalize vx l j = s at *
  generalize vx l m = t at *
  have key : ∀ q, turn a o b * (g q - g o) = turn a o q * (g b - g o) + turn o b q * (g a - g o) := fun q => by
    obtain ⟨A, B, C, e⟩ := hg
    rw [e, e, e, e]; unfold turn; grind
  by_cases hb : g b = g o
  · by_cases ha : g a = g o
    · exfalso
      have k1 := key s
      have k2 := key t
      rw [hb, ha, Int.sub_self, Int.mul_zero, Int.mul_zero] at k1 k2
      rcases Int.mul_eq_zero.1 k1 with k1 | k1
      · omega
      · rcases Int.mul_eq_zero.1 k2 with k2 | k2
        · omega
        · omega
    · have k := key p
      have m1 : turn a o p * (g b - g o) = 0 := by rw [hb, Int.sub_self, Int.mul_zero]
      have m2 : 0 < turn o b p * (g o - g a) := Int.mul_pos h1 (by omega)
      have m3 : turn o b p * (g o - g a) = -(turn o b p * (g a - g o)) := by grind
      have m4 : turn a o b * (g o - g p) = -(turn a o b * (g p - g o)) := by grind
      have := pos_of_mul hT (by omega : 0 < turn a o b * (g o - g p))
      omega
  · have k := key p
    have m1 : 0 < turn a o p * (g o - g b) := Int.mul_pos h2 (by omega)
    have m2 : 0 ≤ turn o b p * (g o - g a) := Int.mul_nonneg (Int.le_of_lt h1) (by omega)
    have m3 : turn o b p * (g o - g a) = -(turn o b p * (g a - g o)) := by grind
    have m5 : turn a o p * (g o - g b) = -(turn a o p * (g b - g o)) := by grind
    have m4 : turn a o b * (g o - g p) = -(turn a o b * (g p - g o)) := by grind
    have := pos_of_mul hT (by omega : 0 < turn a o b * (g o - g p))
    omega
end CutG
end Pln
/- PlnCutsI: Plain mathematics of layer 7: the interiors of the parts of a cut. Nothing of the program. -/
namespace Pln
namespace CutG
variable {r : List Pt} {d : Nat}
def T (r : List Pt) (j : Nat) (p : Pt) : Int := turn (vx r j) (nx r j) p
def G (r : List Pt) (d : Nat) (p : Pt) : Int := turn (vx r d) (vx r 0) p
theorem all1 (h : CutG r d) (p : Pt) (c : Int) : (∀ i, i < (fpt r d).length → c ≤ turn (vx (fpt r d) i) (nx (fpt r d) i) p) ↔ (∀ j, j < d → c ≤ T r j p) ∧ c ≤ G r d p := by
  have dl := h.dl
  rw [h.len1]
  have e : ∀ j, j < d → turn (vx (fpt r d) j) (nx (fpt r d) j) p = T r j p := fun j hj => by
    unfold T; rw [fpt_vx (by omega), fpt_nx h.dl hj, nx_in (by omega)]
  have e' : turn (vx (fpt r d) d) (nx (fpt r d) d) p = G r d p := by rw [h.e1.1, h.e1.2]; rfl
  constructor
  · intro H
    exact ⟨fun j hj => by rw [← e j hj]; exact H j (by omega), by rw [← e']; exact H d (by omega)⟩
  · intro ⟨H1, H2⟩ i hi
    by_cases x : i = d
    · rw [x, e']; exact H2
    · rw [e i (by omega)]; exact H1 i (by omega)
theorem all2 (h : CutG r d) (p : Pt) (c : Int) : (∀ i, i < (spt r d).length → c ≤ turn (vx (spt r d) i) (nx (spt r d) i) p) ↔ (∀ j, d ≤ j → j < r.length → c ≤ T r j p) ∧ c ≤ -G r d p := by
  have dl := h.dl
  rw [h.len2]
  have e : ∀ j, j < r.length - d → turn (vx (spt r d) j) (nx (spt r d) j) p = T r (d + j) p := fun j hj => by
    unfold T; rw [spt_vx h.dl (by omega), spt_nx h.dl hj, Nat.mod_eq_of_lt (by omega)]
  have e' : turn (vx (spt r d) (r.length - d)) (nx (spt r d) (r.length - d)) p = -G r d p := by rw [h.e2.1, h.e2.2]; unfold G; rw [turn_swap]
  constructor
  · intro H
    refine ⟨fun j h1 h2 => ?_, by rw [← e']; exact H (r.length - d) (by omega)⟩
    have := H (j - d) (by omega)
    rwa [e (j - d) (by omega), show d + (j - d) = j by omega] at this
  · intro ⟨H1, H2⟩ i hi
    by_cases x : i = r.length - d
    · rw [x, e']; exact H2
    · rw [e i (by omega)]; exact H1 (d + i) (by omega) (by omega)
theorem ge1 (h : CutG r d) {p : Pt} : 0 ≤ posP (fpt r d) p ↔ (∀ j, j < d → 0 ≤ T r j p) ∧ 0 ≤ G r d p := by rw [pos_ge]; exact h.all1 p 0
theorem one1 (h : CutG r d) {p : Pt} : posP (fpt r d) p = 1 ↔ (∀ j, j < d → 0 < T r j p) ∧ 0 < G r d p := by rw [pos_one]; exact h.all1 p 1
theorem ge2 (h : CutG r d) {p : Pt} : 0 ≤ posP (spt r d) p ↔ (∀ j, d ≤ j → j < r.length → 0 ≤ T r j p) ∧ G r d p ≤ 0 := by
  rw [pos_ge]; have := h.all2 p 0; rw [this]
  exact ⟨fun x => ⟨x.1, by omega⟩, fun x => ⟨x.1, by omega⟩⟩
theorem one2 (h : CutG r d) {p : Pt} : posP (spt r d) p = 1 ↔ (∀ j, d ≤ j → j < r.length → 0 < T r j p) ∧ G r d p < 0 := by
  rw [pos_one]; have := h.all2 p 1
  refine Iff.trans this ?_
  exact ⟨fun x => ⟨fun j a b => x.1 j a b, by omega⟩, fun x => ⟨fun j a b => x.1 j a b, by omega⟩⟩
theorem oneR {p : Pt} : posP r p = 1 ↔ ∀ j, j < r.length → 0 < T r j p := pos_one
theorem split1 (h : CutG r d) {p : Pt} : ¬ (posP (fpt r d) p = 1 ∧ 0 ≤ posP (spt r d) p) := fun ⟨a, b⟩ => by
  have := (h.one1.1 a).2; have := (h.ge2.1 b).2; omega
theorem split2 (h : CutG r d) {p : Pt} : ¬ (posP (spt r d) p = 1 ∧ 0 ≤ posP (fpt r d) p) := fun ⟨a, b⟩ => by
  have := (h.one2.1 a).2; have := (h.ge1.1 b).2; omega
theorem T_corner (h : CutG r d) {j k : Nat} (hj : j < r.length) (hk : k < r.length) : 0 ≤ T r j (vx r k) := h.v.nonneg hj hk
/-- What is in the interior of a polygon whose corners are corners of r is in the interior of r. -/
theorem inner_of {q : List Pt} (v : Val r) (vq : Val q) (hs : ∀ c ∈ q, ∃ k, k < r.length ∧ c = vx r k) {p : Pt} (hp : posP q p = 1) : posP r p = 1 := by
  rw [oneR]
  intro j hj
  -- two corners of q with different values
  have key : ∃ a b, a < q.length ∧ b < q.length ∧ -(T r j (vx q a)) ≠ -(T r j (vx q b)) := by
    rcases Classical.em (∃ a b, a < q.length ∧ b < q.length ∧ -(T r j (vx q a)) ≠ -(T r j (vx q b))) with h | h
    · exact h
    · exfalso
      have q3 := vq.lo
      have same : ∀ a b, a < q.length → b < q.length → T r j (vx q a) = T r j (vx q b) := fun a b ha hb => by
        rcases Decidable.em (T r j (vx q a) = T r j (vx q b)) with e | e
        · exact e
        · exact absurd ⟨a, b, ha, hb, by omega⟩ h
      have o := vq.ordered (i := 0) (j := 1) (by omega) (k := 2) (by omega) (by omega)
      have s1 := same 1 0 (by omega) (by omega)
      have s2 := same 2 0 (by omega) (by omega)
      have hn := v.ne hj (v.nxl hj) (fun e => v.nx_ne hj e.symm)
      change vx r j ≠ nx r j at hn
      unfold T at s1 s2
      generalize vx q 0 = a at *
      generalize vx q 1 = b at *
      generalize vx q 2 = c at *
      generalize vx r j = s at *
      generalize nx r j = e at *
      -- b - a and c - a are both along s e
      have z1 : turn a b c * (e.1 - s.1) = (b.1 - a.1) * (turn s e c - turn s e a) - (c.1 - a.1) * (turn s e b - turn s e a) := by unfold turn; grind
      have z2 : turn a b c * (e.2 - s.2) = (b.2 - a.2) * (turn s e c - turn s e a) - (c.2 - a.2) * (turn s e b - turn s e a) := by unfold turn; grind
      rw [s1, s2, Int.sub_self, Int.mul_zero, Int.mul_zero, Int.sub_zero] at z1 z2
      rcases Int.mul_eq_zero.1 z1 with z1 | z1
      · omega
      · rcases Int.mul_eq_zero.1 z2 with z2 | z2
        · omega
        · exact hn (Prod.ext (by omega) (by omega))
  obtain ⟨a, b, ha, hb, hab⟩ := key
  obtain ⟨i, hi, hlt⟩ := support_strict vq (aff_neg (aff_turn (vx r j) (nx r j))) (pos_one.1 hp) ha hb hab
  obtain ⟨k, hk, e⟩ := hs _ (vx_mem hi)
  have := v.nonneg hj hk
  rw [← e] at this
  unfold T; omega
theorem sub1 (h : CutG r d) : ∀ c ∈ fpt r d, ∃ k, k < r.length ∧ c = vx r k := fun c hc => by
  obtain ⟨j, hj, e⟩ := h.mem1 hc; exact ⟨j, by have := h.dl; omega, e⟩
theorem sub2 (h : CutG r d) : ∀ c ∈ spt r d, ∃ k, k < r.length ∧ c = vx r k := fun c hc => by
  obtain ⟨j, hj, _, e⟩ := h.mem2 hc; exact ⟨j, hj, e⟩
/-- A corner that is no end of an edge, strictly. -/
theorem T_pos (h : CutG r d) {j k : Nat} (hj : j < r.length) (hk : k < r.length) (h1 : k ≠ j) (h2 : k ≠ (j + 1) % r.length) : 0 < T r j (vx r k) := h.v.left j hj k hk h1 h2
theorem diag_in (h : CutG r d) {p : Pt} (a : 0 ≤ posP (fpt r d) p) (b : 0 ≤ posP (spt r d) p) (n0 : p ≠ vx r 0) (nd : p ≠ vx r d) : posP r p = 1 := by
  have d2 := h.d2
  have dn := h.dn
  obtain ⟨a1, a2⟩ := h.ge1.1 a
  obtain ⟨b1, b2⟩ := h.ge2.1 b
  have hg : G r d p = 0 := by omega
  have hg' : turn (vx r 0) (vx r d) p = 0 := by rw [turn_swap]; unfold G at hg; omega
  -- the first edge
  have f0 : T r 0 (vx r 0) = 0 := turn_l _ _
  have fd : 0 < T r 0 (vx r d) := h.T_pos (by omega) (by omega) (by omega) (by rw [Nat.mod_eq_of_lt (by omega)]; omega)
  have fp : 0 < T r 0 p := by
    rcases Int.lt_or_eq_of_le (a1 0 (by omega)) with x | x
    · exact x
    · exfalso
      refine n0 (meet_at (o := vx r 0) (b := nx r 0) (c := vx r d) (fun e => ?_) x.symm hg')
      have : T r 0 (vx r d) = 0 := e
      omega
  have kd : T r (d - 1) (vx r d) = 0 := by
    have : nx r (d - 1) = vx r d := by rw [nx_in (by omega), show d - 1 + 1 = d by omega]
    unfold T; rw [this, turn_r]
  have k0 : 0 < T r (d - 1) (vx r 0) := h.T_pos (by omega) (by omega) (by omega) (by rw [Nat.mod_eq_of_lt (by omega)]; omega)
  have L := on_line (f := T r 0) (k := T r (d - 1)) (aff_turn _ _) (aff_turn _ _) hg'
  rw [kd, f0] at L
  have kp : 0 < T r (d - 1) p := by
    rcases Int.lt_or_eq_of_le (a1 (d - 1) (by omega)) with x | x
    · exact x
    · exfalso
      have hnx : nx r (d - 1) = vx r d := by rw [nx_in (by omega), show d - 1 + 1 = d by omega]
      refine nd (meet_at (o := vx r d) (b := vx r (d - 1)) (c := vx r 0) (fun e => ?_) ?_ ?_)
      · unfold T at k0; rw [hnx, turn_swap, e] at k0; omega
      · have := x; unfold T at this; rw [hnx, turn_swap] at this; omega
      · exact hg
  have up : 0 < T r 0 (vx r d) - T r 0 p := by
    have m : 0 < T r (d - 1) p * (T r 0 (vx r d) - 0) := Int.mul_pos kp (by omega)
    have : 0 < T r (d - 1) (vx r 0) * (T r 0 (vx r d) - T r 0 p) := by rw [Int.zero_mul, Int.add_zero] at L; omega
    exact pos_of_mul k0 this
  rw [oneR]
  intro j hj
  have L2 := on_line (f := T r 0) (k := T r j) (aff_turn _ _) (aff_turn _ _) hg'
  rw [f0] at L2
  have c0 := h.T_corner hj (k := 0) (by omega)
  have cd := h.T_corner hj (k := d) (by omega)
  have some : 0 < T r j (vx r 0) ∨ 0 < T r j (vx r d) := by
    by_cases x0 : 0 = j ∨ 0 = (j + 1) % r.length
    · right
      refine h.T_pos hj (by omega) ?_ ?_
      · rcases x0 with x0 | x0
        · omega
        · intro e; rw [← e, Nat.mod_eq_of_lt (by omega)] at x0; omega
      · rcases x0 with x0 | x0
        · rw [← x0, Nat.mod_eq_of_lt (by omega)]; omega
        · omega
    · left; exact h.T_pos hj (by omega) (fun e => x0 (.inl e)) (fun e => x0 (.inr e))
  have m1 := Int.mul_nonneg c0 (Int.le_of_lt up)
  have m2 := Int.mul_nonneg cd (by omega : 0 ≤ T r 0 p - 0)
  have m3 : 0 < T r j p * (T r 0 (vx r d) - 0) := by
    rcases some with x | x
    · have := Int.mul_pos x up; omega
    · have := Int.mul_pos x (by omega : 0 < T r 0 p - 0); omega
  rw [Int.mul_comm] at m3
  exact pos_of_mul (by omega) m3
theorem inner (h : CutG r d) (v2 : Val (spt r d)) {p : Pt} : posP r p = 1 ↔ posP (fpt r d) p = 1 ∨ posP (spt r d) p = 1 ∨ (posP (fpt r d) p = 0 ∧ posP (spt r d) p = 0 ∧ p ≠ vx r 0 ∧ p ≠ vx r d) := by
  have d2 := h.d2
  have dn := h.dn
  constructor
  · intro H
    have H' := oneR.1 H
    rcases Int.lt_trichotomy (G r d p) 0 with g | g | g
    · exact .inr (.inl (h.one2.2 ⟨fun j _ hj => H' j hj, g⟩))
    · refine .inr (.inr ⟨?_, ?_, ?_, ?_⟩)
      · have x := h.ge1.2 ⟨fun j hj => Int.le_of_lt (H' j (by omega)), by omega⟩
        have y : posP (fpt r d) p ≠ 1 := fun e => by have := (h.one1.1 e).2; omega
        have := pos_cases (fpt r d) p; omega
      · have x := h.ge2.2 ⟨fun j _ hj => Int.le_of_lt (H' j hj), by omega⟩
        have y : posP (spt r d) p ≠ 1 := fun e => by have := (h.one2.1 e).2; omega
        have := pos_cases (spt r d) p; omega
      · intro e; have := H' 0 (by omega); unfold T at this; rw [e, turn_l] at this; omega
      · intro e; have := H' d (by omega); unfold T at this; rw [e, turn_l] at this; omega
    · exact .inl (h.one1.2 ⟨fun j hj => H' j (by omega), g⟩)
  · rintro (H | H | ⟨a, b, n0, nd⟩)
    · exact inner_of h.v h.val1 h.sub1 H
    · exact inner_of h.v v2 h.sub2 H
    · exact h.diag_in (by omega) (by omega) n0 nd
/-- A polygon whose corners are corners of r overlaps r. -/
theorem meet_sub {q : List Pt} (v : Val r) (vq : Val q) (hs : ∀ c ∈ q, ∃ k, k < r.length ∧ c = vx r k) : Meet q r := by
  constructor
  · intro j hj
    obtain ⟨k, hk, h1, h2⟩ := vq.third j ((j + 1) % q.length)
    obtain ⟨m, hm, e⟩ := hs _ (vx_mem hk)
    exact sepB_no.2 ⟨vx r m, vx_mem hm, by rw [← e]; exact vq.left j hj k hk h1 h2⟩
  · intro j hj
    have q3 := vq.lo
    obtain ⟨m0, hm0, e0⟩ := hs _ (vx_mem (show 0 < q.length by omega))
    obtain ⟨m1, hm1, e1⟩ := hs _ (vx_mem (show 1 < q.length by omega))
    obtain ⟨m2, hm2, e2⟩ := hs _ (vx_mem (show 2 < q.length by omega))
    have n01 : m0 ≠ m1 := fun e => vq.ne (show 0 < q.length by omega) (show 1 < q.length by omega) (by omega) (by rw [e0, e1, e])
    have n02 : m0 ≠ m2 := fun e => vq.ne (show 0 < q.length by omega) (show 2 < q.length by omega) (by omega) (by rw [e0, e2, e])
    have n12 : m1 ≠ m2 := fun e => vq.ne (show 1 < q.length by omega) (show 2 < q.length by omega) (by omega) (by rw [e1, e2, e])
    by_cases x0 : m0 ≠ j ∧ m0 ≠ (j + 1) % r.length
    · exact sepB_no.2 ⟨vx q 0, vx_mem (by omega), by rw [e0]; exact v.left j hj m0 hm0 x0.1 x0.2⟩
    · by_cases x1 : m1 ≠ j ∧ m1 ≠ (j + 1) % r.length
      · exact sepB_no.2 ⟨vx q 1, vx_mem (by omega), by rw [e1]; exact v.left j hj m1 hm1 x1.1 x1.2⟩
      · exact sepB_no.2 ⟨vx q 2, vx_mem (by omega), by rw [e2]; exact v.left j hj m2 hm2 (by omega) (by omega)⟩
end CutG
/-- Where a polygon begins plays no part. -/
theorem rot_pos {l : List Pt} {k : Nat} (h : k < l.length) (p : Pt) : posP (rot l k) p = posP l p := by
  have hr : (rot l k).length = l.length := rot_len (by omega)
  have back : ∀ j, j < l.length → ∃ i, i < l.length ∧ (i + k) % l.length = j := fun j hj =>
    ⟨(j + (l.length - k)) % l.length, Nat.mod_lt _ (by omega), by rw [Nat.mod_add_mod, show j + (l.length - k) + k = j + l.length by omega, Nat.add_mod_right, Nat.mod_eq_of_lt hj]⟩
  have K : ∀ c : Int, (∀ i, i < (rot l k).length → c ≤ turn (vx (rot l k) i) (nx (rot l k) i) p) ↔ ∀ i, i < l.length → c ≤ turn (vx l i) (nx l i) p := fun c => by
    rw [hr]
    constructor
    · intro H j hj
      obtain ⟨i, hi, e⟩ := back j hj
      have := H i hi
      rwa [rot_vx (by omega) hi, rot_nx (by omega) hi, e] at this
    · intro H i hi
      rw [rot_vx (by omega) hi, rot_nx (by omega) hi]
      exact H _ (Nat.mod_lt _ (by omega))
  have h0 : 0 ≤ posP (rot l k) p ↔ 0 ≤ posP l p := by rw [pos_ge, pos_ge]; exact K 0
  have h1 : posP (rot l k) p = 1 ↔ posP l p = 1 := by rw [pos_one, pos_one]; exact K 1
  have c1 := pos_cases (rot l k) p
  have c2 := pos_cases l p
  omega
theorem rot_mem {l : List Pt} {k : Nat} {c : Pt} : c ∈ rot l k ↔ c ∈ l := by
  unfold rot
  rw [List.mem_append, or_comm, ← List.mem_append, List.take_append_drop]
/-- All that is said of a cut. -/
structure CutAll (l : List Pt) (i k : Nat) (a b : List Pt) : Prop where
  va : Val a
  vb : Val b
  len : a.length + b.length = l.length + 2
  over : overP a b = false
  seam : seamP a b = some (vx l k, vx l i)
  sum : ∀ F : Pt → Pt → Int, (∀ p q, F p q + F q p = 0) → sumE a F a.length + sumE b F b.length = sumE l F l.length
  apart1 : ∀ p, ¬ (posP a p = 1 ∧ 0 ≤ posP b p)
  apart2 : ∀ p, ¬ (posP b p = 1 ∧ 0 ≤ posP a p)
  inner : ∀ p, posP l p = 1 ↔ posP a p = 1 ∨ posP b p = 1 ∨ (posP a p = 0 ∧ posP b p = 0 ∧ p ≠ vx l i ∧ p ≠ vx l k)
  over1 : overP a l = true
  over2 : overP l b = true
theorem cut_all {l : List Pt} (v : Val l) {i k : Nat} (hi : i < l.length) (hk : k < l.length) (h : ¬ AdjP l.length i k) : ∃ a b, cutP l i k = some (a, b) ∧ CutAll l i k a b := by
  rcases cut_parts v hi hk with ⟨x, _⟩ | ⟨_, d, d2, dn, hm, hc⟩
  · exact absurd x h
  · have hr : (rot l i).length = l.length := rot_len (by omega)
    have g : CutG (rot l i) d := ⟨rot_val v (by omega), d2, by rw [hr]; exact dn⟩
    have v2 := (cut_val hc).2
    have e0 : vx (rot l i) 0 = vx l i := by rw [rot_vx (by omega) (by omega), Nat.zero_add, Nat.mod_eq_of_lt hi]
    have ed : vx (rot l i) d = vx l k := by rw [rot_vx (by omega) (by omega), Nat.add_comm, hm]
    have s1 : ∀ c ∈ fpt (rot l i) d, ∃ k, k < l.length ∧ c = vx l k := fun c hc => by
      obtain ⟨j, hj, e⟩ := g.sub1 c hc
      have hx : c ∈ l := rot_mem.1 (by rw [e]; exact vx_mem hj)
      obtain ⟨m, hm, e⟩ := mem_vx hx; exact ⟨m, hm, e.symm⟩
    have s2 : ∀ c ∈ spt (rot l i) d, ∃ k, k < l.length ∧ c = vx l k := fun c hc => by
      obtain ⟨j, hj, e⟩ := g.sub2 c hc
      have hx : c ∈ l := rot_mem.1 (by rw [e]; exact vx_mem hj)
      obtain ⟨m, hm, e⟩ := mem_vx hx; exact ⟨m, hm, e.symm⟩
    refine ⟨_, _, hc, ⟨g.val1, v2, by rw [g.len1, g.len2, hr]; omega, g.over v2, by rw [g.seam v2, e0, ed], fun F hF => ?_, fun p => g.split1, fun p => g.split2, fun p => ?_, ?_, ?_⟩⟩
    · rw [g.len1, g.len2, sum_parts g.dl hF, hr, sum_rot l (by omega)]
    · rw [← rot_pos hi p, g.inner v2, e0, ed]
    · rw [over_iff ((valB_iff _).2 g.val1) ((valB_iff _).2 v)]; exact CutG.meet_sub v g.val1 s1
    · rw [over_comm ((valB_iff _).2 v) ((valB_iff _).2 v2), over_iff ((valB_iff _).2 v2) ((valB_iff _).2 v)]; exact CutG.meet_sub v v2 s2
end Pln
/- PlnGravP: Plain mathematics of layer 7: a polygon as a fan of triangles; its area and its moment; corners on a line. Nothing of the program. -/
namespace Pln

theorem sm_nonneg {f : Nat → Int} : ∀ {n : Nat}, (∀ i, i < n → 0 ≤ f i) → 0 ≤ sm f n
  | 0, _ => Int.le_refl _
  | n + 1, h => by have := sm_nonneg (f := f) (n := n) (fun i hi => h i (by omega)); have := h n (by omega); rw [sm]; omega
theorem sm_pos {f : Nat → Int} : ∀ {n k : Nat}, (∀ i, i < n → 0 ≤ f i) → k < n → 0 < f k → 0 < sm f n
  | n + 1, k, h, hk, hp => by
    rw [sm]
    have h1 := sm_nonneg (f := f) (n := n) (fun i hi => h i (by omega))
    have h2 := h n (by omega)
    by_cases e : k = n
    · subst e; omega
    · have := sm_pos (f := f) (n := n) (k := k) (fun i hi => h i (by omega)) (by omega) hp; omega
/-- A sum over edges as one over a fan. -/
theorem area_fan (l : List Pt) (o : Pt) : sumE l crs l.length = sumE l (fun a b => turn o a b) l.length := by
  have e : ∀ a b : Pt, crs a b = turn o a b + (crs o b - crs o a) := fun a b => by unfold crs turn; grind
  rw [sumE_congr e, sumE_add, sumE_tele l (fun p => crs o p), Int.add_zero]
theorem mx_fan (l : List Pt) (o : Pt) : sumE l (fun a b => (a.1 + b.1) * crs a b) l.length = sumE l (fun a b => (o.1 + a.1 + b.1) * turn o a b) l.length := by
  have e : ∀ a b : Pt, (a.1 + b.1) * crs a b = (o.1 + a.1 + b.1) * turn o a b + ((o.1 * b.1 * b.2 + o.1 * o.1 * b.2 - o.1 * o.2 * b.1 - o.2 * b.1 * b.1) - (o.1 * a.1 * a.2 + o.1 * o.1 * a.2 - o.1 * o.2 * a.1 - o.2 * a.1 * a.1)) := fun a b => by unfold crs turn; grind
  rw [sumE_congr e, sumE_add, sumE_tele l (fun p => o.1 * p.1 * p.2 + o.1 * o.1 * p.2 - o.1 * o.2 * p.1 - o.2 * p.1 * p.1), Int.add_zero]
theorem fan_nonneg {l : List Pt} (v : Val l) {i : Nat} (hi : i < l.length) : 0 ≤ turn (vx l 0) (vx l i) (nx l i) := by
  have := v.nonneg hi (show 0 < l.length by have := v.lo; omega)
  rwa [← turn_rot (vx l 0) (vx l i) (nx l i)]
theorem fan_pos {l : List Pt} (v : Val l) : 0 < turn (vx l 0) (vx l 1) (nx l 1) := by
  have h3 := v.lo
  rw [nx_in (by omega)]
  exact v.ordered (by omega) (by omega) (by omega)
theorem area_pos {l : List Pt} (v : Val l) : 0 < sumE l crs l.length := by
  rw [area_fan l (vx l 0)]
  exact sm_pos (k := 1) (fun i hi => fan_nonneg v hi) (by have := v.lo; omega) (fan_pos v)
/-- The center of gravity lies between the leftmost and the rightmost corner. -/
theorem grav_left {l : List Pt} (v : Val l) {c : Int} (hc : ∀ i, i < l.length → c ≤ (vx l i).1) : 3 * c * sumE l crs l.length < sumE l (fun a b => (a.1 + b.1) * crs a b) l.length := by
  have h3 := v.lo
  have e : sumE l (fun a b => ((vx l 0).1 + a.1 + b.1) * turn (vx l 0) a b) l.length = 3 * c * sumE l (fun a b => turn (vx l 0) a b) l.length + sumE l (fun a b => ((vx l 0).1 + a.1 + b.1 - 3 * c) * turn (vx l 0) a b) l.length := by
    rw [← sumE_mul, ← sumE_add]; exact sumE_congr (fun a b => by grind) _
  rw [mx_fan l (vx l 0), area_fan l (vx l 0), e]
  have : 0 < sumE l (fun a b => ((vx l 0).1 + a.1 + b.1 - 3 * c) * turn (vx l 0) a b) l.length := by
    refine sm_pos (k := 1) (fun i hi => ?_) (by omega) ?_
    · have := hc 0 (by omega); have := hc i hi; have := hc _ (v.nxl hi)
      exact Int.mul_nonneg (by show 0 ≤ (vx l 0).1 + (vx l i).1 + (vx l ((i + 1) % l.length)).1 - 3 * c; omega) (fan_nonneg v hi)
    · have a := hc 0 (by omega); have b := hc 1 (by omega); have d := hc (1 + 1) (by omega)
      have fp := fan_pos v
      rw [nx_in (by omega)] at fp ⊢
      refine Int.mul_pos ?_ fp
      rcases Int.lt_or_le 0 ((vx l 0).1 + (vx l 1).1 + (vx l (1 + 1)).1 - 3 * c) with x | x
      · exact x
      · exfalso
        have e0 : (vx l 0).1 = c := by omega
        have e1 : (vx l 1).1 = c := by omega
        have e2 : (vx l (1 + 1)).1 = c := by omega
        unfold turn at fp
        rw [e0, e1, e2, Int.sub_self, Int.zero_mul, Int.mul_zero] at fp
        omega
  omega
theorem grav_right {l : List Pt} (v : Val l) {c : Int} (hc : ∀ i, i < l.length → (vx l i).1 ≤ c) : sumE l (fun a b => (a.1 + b.1) * crs a b) l.length < 3 * c * sumE l crs l.length := by
  have h3 := v.lo
  have e : 3 * c * sumE l (fun a b => turn (vx l 0) a b) l.length = sumE l (fun a b => ((vx l 0).1 + a.1 + b.1) * turn (vx l 0) a b) l.length + sumE l (fun a b => (3 * c - ((vx l 0).1 + a.1 + b.1)) * turn (vx l 0) a b) l.length := by
    rw [← sumE_mul, ← sumE_add]; exact sumE_congr (fun a b => by grind) _
  rw [mx_fan l (vx l 0), area_fan l (vx l 0), e]
  have : 0 < sumE l (fun a b => (3 * c - ((vx l 0).1 + a.1 + b.1)) * turn (vx l 0) a b) l.length := by
    refine sm_pos (k := 1) (fun i hi => ?_) (by omega) ?_
    · have := hc 0 (by omega); have := hc i hi; have := hc _ (v.nxl hi)
      exact Int.mul_nonneg (by show 0 ≤ 3 * c - ((vx l 0).1 + (vx l i).1 + (vx l ((i + 1) % l.length)).1); omega) (fan_nonneg v hi)
    · have a := hc 0 (by omega); have b := hc 1 (by omega); have d := hc (1 + 1) (by omega)
      have fp := fan_pos v
      rw [nx_in (by omega)] at fp ⊢
      refine Int.mul_pos ?_ fp
      rcases Int.lt_or_le 0 (3 * c - ((vx l 0).1 + (vx l 1).1 + (vx l (1 + 1)).1)) with x | x
      · exact x
      · exfalso
        have e0 : (vx l 0).1 = c := by omega
        have e1 : (vx l 1).1 = c := by omega
        have e2 : (vx l (1 + 1)).1 = c := by omega
        unfold turn at fp
        rw [e0, e1, e2, Int.sub_self, Int.zero_mul, Int.mul_zero] at fp
        omega
  omega
/-- No three corners have the same height. -/
theorem no_three {l : List Pt} (v : Val l) {i j k : Nat} (h1 : i < j) (h2 : j < k) (h3 : k < l.length) (y : Int) (a : (vx l i).2 = y) (b : (vx l j).2 = y) (c : (vx l k).2 = y) : False := by
  have := v.ordered h1 h2 h3
  unfold turn at this
  rw [a, b, c, Int.sub_self, Int.zero_mul, Int.mul_zero] at this
  omega
end Pln
/- UntLawP: Plain mathematics of layer 8: where the center of gravity lies; units that are moved. -/
namespace Unt
open Pln
theorem area_val {l : List Pt} (v : Val l) : areaP l = sumE l crs l.length := if_pos ((valB_iff l).2 v)
theorem mx_val {l : List Pt} (v : Val l) : mxP l = sumE l (fun a b => (a.1 + b.1) * crs a b) l.length := if_pos ((valB_iff l).2 v)
theorem vol_eq {u : U} (v : ValU u) : volP u = sumE u.shape crs u.shape.length * (u.front - u.back) := by
  unfold volP; rw [if_pos ((valU_iff u).2 v), area_val v.v]
theorem wt_eq {u : U} (v : ValU u) : wtP u = 3 * (sumE u.shape crs u.shape.length * (u.front - u.back)) * dens u.mat := by
  unfold wtP; rw [if_pos ((valU_iff u).2 v), area_val v.v]
theorem mom_eq {u : U} (v : ValU u) : momP u = sumE u.shape (fun a b => (a.1 + b.1) * crs a b) u.shape.length * (u.front - u.back) * dens u.mat := by
  unfold momP; rw [if_pos ((valU_iff u).2 v), mx_val v.v]
theorem wt_pos {u : U} (v : ValU u) : 0 < wtP u := by
  rw [wt_eq v]
  have h1 := area_pos v.v
  have h2 := (dens_bd v.m0 v.m1).1
  have h3 := v.bf
  exact Int.mul_pos (Int.mul_pos (by omega) (Int.mul_pos h1 (by omega))) (by omega)
theorem mom_left {u : U} (v : ValU u) {c : Int} (hc : ∀ i, i < u.shape.length → c ≤ (vx u.shape i).1) : c * wtP u < momP u := by
  rw [wt_eq v, mom_eq v]
  have h1 := grav_left v.v hc
  have h2 := (dens_bd v.m0 v.m1).1
  have h3 := v.bf
  generalize sumE u.shape (fun a b => (a.1 + b.1) * crs a b) u.shape.length = M at *
  generalize sumE u.shape crs u.shape.length = A at *
  have h4 := Int.mul_lt_mul_of_pos_right h1 (show 0 < u.front - u.back by omega)
  have h5 := Int.mul_lt_mul_of_pos_right h4 (show 0 < dens u.mat by omega)
  have e : c * (3 * (A * (u.front - u.back)) * dens u.mat) = 3 * c * A * (u.front - u.back) * dens u.mat := by grind
  rw [e]; exact h5
theorem mom_right {u : U} (v : ValU u) {c : Int} (hc : ∀ i, i < u.shape.length → (vx u.shape i).1 ≤ c) : momP u < c * wtP u := by
  rw [wt_eq v, mom_eq v]
  have h1 := grav_right v.v hc
  have h2 := (dens_bd v.m0 v.m1).1
  have h3 := v.bf
  generalize sumE u.shape (fun a b => (a.1 + b.1) * crs a b) u.shape.length = M at *
  generalize sumE u.shape crs u.shape.length = A at *
  have h4 := Int.mul_lt_mul_of_pos_right h1 (show 0 < u.front - u.back by omega)
  have h5 := Int.mul_lt_mul_of_pos_right h4 (show 0 < dens u.mat by omega)
  have e : c * (3 * (A * (u.front - u.back)) * dens u.mat) = 3 * c * A * (u.front - u.back) * dens u.mat := by grind
  rw [e]; exact h5
/-- What a moved unit is. -/
def mvU (u : U) (dx dy : Int) : U := { u with shape := shf u.shape dx dy }
theorem mov_some {u t : U} {dx dy : Int} (v : ValU u) (h : movU u dx dy = some t) : t = mvU u dx dy ∧ ValU t := by
  unfold movU at h
  rw [if_pos ((valU_iff u).2 v)] at h
  unfold moveP at h
  rw [if_pos ((valB_iff _).2 v.v)] at h
  by_cases ho : (shf u.shape dx dy).all onB = true
  · rw [if_pos ho] at h
    have h : t = mvU u dx dy := by simpa [mvU, eq_comm] using h
    subst h
    refine ⟨rfl, ⟨v.id0, v.id1, v.k0, v.k1, v.m0, v.m1, v.b0, v.bf, v.f1, ?_⟩⟩
    exact val_shf v.v (fun p hp => (onB_iff p).1 (List.all_eq_true.1 ho p hp))
  · rw [if_neg ho] at h; cases h
theorem vol_mv {u : U} {dx dy : Int} (v : ValU u) (v' : ValU (mvU u dx dy)) : volP (mvU u dx dy) = volP u := by
  rw [vol_eq v, vol_eq v']
  show sumE (shf u.shape dx dy) crs (shf u.shape dx dy).length * _ = _
  rw [shf_len, area_shf]; rfl
theorem wt_mv {u : U} {dx dy : Int} (v : ValU u) (v' : ValU (mvU u dx dy)) : wtP (mvU u dx dy) = wtP u := by
  rw [wt_eq v, wt_eq v']
  show 3 * (sumE (shf u.shape dx dy) crs (shf u.shape dx dy).length * _) * _ = _
  rw [shf_len, area_shf]; rfl
theorem mom_mv {u : U} {dx dy : Int} (v : ValU u) (v' : ValU (mvU u dx dy)) : momP (mvU u dx dy) = momP u + dx * wtP u := by
  rw [wt_eq v, mom_eq v, mom_eq v']
  show sumE (shf u.shape dx dy) (fun a b => (a.1 + b.1) * crs a b) (shf u.shape dx dy).length * (u.front - u.back) * dens u.mat = _
  rw [shf_len, mx_shf]
  grind
theorem com_mv {u t : U} {dx dy : Int} (v : ValU u) (v' : ValU (mvU u dx dy)) (x : ValU t) (x' : ValU (mvU t dx dy)) : comU (mvU u dx dy) (mvU t dx dy) = comU u t := by
  unfold comU
  rw [(valU_iff _).2 v, (valU_iff _).2 v', (valU_iff _).2 x, (valU_iff _).2 x']; rfl
theorem over_mv {u t : U} {dx dy : Int} (v : ValU u) (v' : ValU (mvU u dx dy)) (x : ValU t) (x' : ValU (mvU t dx dy)) : overU (mvU u dx dy) (mvU t dx dy) = overU u t := by
  unfold overU
  rw [com_mv v v' x x']
  show (_ && overP (shf u.shape dx dy) (shf t.shape dx dy)) = _
  rw [over_shf v.v x.v v'.v x'.v]
theorem tou_mv {u t : U} {dx dy : Int} (v : ValU u) (v' : ValU (mvU u dx dy)) (x : ValU t) (x' : ValU (mvU t dx dy)) : touU (mvU u dx dy) (mvU t dx dy) = (touU u t).map fun s => (mv dx dy s.1, mv dx dy s.2) := by
  unfold touU
  rw [com_mv v v' x x']
  by_cases h : comU u t = true
  · rw [if_pos h, if_pos h]
    show seamP (shf u.shape dx dy) (shf t.shape dx dy) = _
    exact seam_shf v.v x.v v'.v x'.v
  · rw [if_neg h, if_neg h]; rfl
theorem mv_back (u : U) (dx dy : Int) : mvU (mvU u dx dy) (-dx) (-dy) = u := by
  unfold mvU; rw [shf_back]
end Unt
/- PlnLawKit: For every law of a seat without cards: what stands between the walk of its body and the statement about it. -/
namespace Go.Proofs.YtcamncipkofgkaaDoor
open Go.ChangeShapes Go.WideShapes Go.ChangeAt Go.RowKit

theorem laidOut : laidOutB Tryd.prog = true := by kernel_rfl
theorem ownKnobNone : ownKnob Tryd.prog.godebug = none := by kernel_rfl

/-- Arguments read behind the call as they read before, if nothing that lay has turned. -/
theorem all_below {H : Type} {enc : TypeId × Value → H} {W W' : World} (hb : Below W.heap.size W W') : ∀ {ts : List TypeId} {vs : List Value} {ds : List (DataW H)} {ps : List MemPlace},
    (∀ t ∈ ts, Tryd.prog.readableRec t = true ∧ t < Tryd.prog.types.size) → DataW.TrodAll enc Tryd.prog W 0 (fun _ => true) true ts vs ds ps → (∀ x ∈ ps, x.block < W.heap.size) →
    DataW.TrodAll enc Tryd.prog W' 0 (fun b => decide (b < W.heap.size)) true ts vs ds ps
  | [], _, _, _, _, h, _ => by obtain ⟨rfl, rfl, rfl⟩ := trodAll_nil h; exact trodAll_mk0
  | t :: ts, _, _, _, ht, h, hlt => by
    obtain ⟨v, vs', d, ds', p, q, rfl, rfl, rfl, hd, hrest⟩ := trodAll_cons h
    exact trodAll_cons_mk (Below.trod laidOut (ht t (by simp)).1 (ht t (by simp)).2 hd hb (fun x hx => hlt x (by simp [hx]))) (all_below hb (fun u hu => ht u (by simp [hu])) hrest (fun x hx => hlt x (by simp [hx])))

/-- A law that answers true and leaves alone what lay. -/
theorem law_post {H : Type} {enc : TypeId × Value → H} {f : Func} {s : ChangeSpec} {W W' : World} {args : Array Value} {ds gs : List (DataW H)} {before : List MemPlace}
    (hread : f.params.toList.all (fun t => Tryd.prog.readableRec t && decide (t < Tryd.prog.types.size)) = true) (hrt : f.resultTypes = #[4]) (hvars : s.vars = [])
    (hs : s.fn H ds = { results := [.lit (.bool true)], args := ds })
    (hW : DataW.Whole enc Tryd.prog f.params.toList s.vars false W args.toList ds gs before) (hb : Below W.heap.size W W') :
    s.post enc Tryd.prog f false true false false W args (.bool true) W' := by
  have hW0 := hW
  have hlt : ∀ p ∈ before, p.block < W.heap.size := fun p hp => hW.lt p hp
  obtain ⟨p, q, hA, hV, rfl, hz, hn⟩ := hW
  rw [hvars] at hV
  obtain ⟨rfl, rfl⟩ := trodVars_none hV
  have hr : ∀ t ∈ f.params.toList, Tryd.prog.readableRec t = true ∧ t < Tryd.prog.types.size := fun t ht => by
    have := List.all_eq_true.1 hread t ht
    simpa using this
  refine ⟨ds, [], p ++ [], [], p, [], hW0, ?_, ?_, ?_, ?_, fun h => by cases h⟩
  · rw [List.append_nil, hs, hrt]
    exact trodAll_mk1 (shut_bool Tryd.underlying4 _)
  · rw [List.append_nil, hs]
    exact all_below hb hr hA (fun x hx => hlt x (by simp [hx]))
  · rw [List.append_nil, hs, hvars]
    rfl
  · exact World.keptBut_mono (fun p hp => ⟨hp, .inr (.inl (by simpa using hp))⟩) (hb.frame _)

end Go.Proofs.YtcamncipkofgkaaDoor
/- PlnCardKit: Opening the arguments of layer 7: slices of pairs of integers. -/
namespace Go.Proofs.YtcamncipkofgkaaDoor
open Go.ChangeShapes Go.WideShapes Go.ChangeAt Go.RowKit Go.Deep Pln

theorem plain_addr {w : World} {a : Addr} {v : Value} (h : w.cell? (a.add 0) = some v) : ∃ b o, a = ⟨b, o, none⟩ := by
  have h1 := World.cell?_spot h
  obtain ⟨b, o, s⟩ := a
  simp [Addr.add] at h1
  subst h1
  exact ⟨b, o, rfl⟩
theorem plain_add (b o i : Nat) : (⟨b, o, none⟩ : Addr).add i = ⟨b, o + i, none⟩ := by unfold Addr.add; split <;> simp_all
theorem i64_of {n : Int} (h : (Lit.int .i64 n).wf = true) : I64 n := bounds_i64 h
theorem cellsI : Tryd.prog.cellsOf 3 = 1 := by kernel_rfl
set_option maxRecDepth 100000 in
/-- A slice of elements of two integers. -/
theorem open_pairs {H : Type} {enc : TypeId × Value → H} {w : World} {b0 : Nat} {r : Reach} {base : Nat} {held : Bool} {v : Value} {d : DataW H} {ps : List MemPlace} {t e : TypeId} (ht : Tryd.prog.underlying t = some (.slice e)) (hC : Tryd.prog.cellsOf e = 2)
    (hE : ∀ (n : Nat) (cs : List Value) (y : DataW H × List MemPlace), cs.length = 2 → DataW.trod enc Tryd.prog w base (fun _ => true) held n e cs = some y → ∃ q : Pt, cs = [.int .i64 q.1, .int .i64 q.2] ∧ I64 q.1 ∧ I64 q.2)
    (hval : Value.okWide Tryd.prog w r b0 t v) (h : DataW.Trod enc Tryd.prog w base (fun _ => true) held t v d ps) : ∃ l, PtsAt w v l := by
  obtain ⟨x1, len1, cap1, rfl⟩ := okWide_slice ht hval
  obtain ⟨fuel, hf⟩ := h
  rcases open_slice ht hf with ⟨hcs, _⟩ | ⟨a, len, cap, m, n, D, Pl, hcs, _, hl, hm, hmm, _, hi⟩
  · simp [Value.cells] at hcs
    obtain ⟨rfl, rfl, rfl⟩ := hcs
    exact ⟨[], ⟨⟨none, 0, rfl, Nat.le_refl _, by omega, .inl rfl⟩, fun x hx => by simp at hx⟩⟩
  · simp [Value.cells] at hcs
    obtain ⟨rfl, rfl, rfl⟩ := hcs
    rw [if_pos rfl] at hmm
    unfold maxLen at hm
    have hq : ∀ i, ∃ q : Pt, i < m → (w.cell? ((a.add (i * 2)).add 0) = some (.int .i64 q.1) ∧ w.cell? ((a.add (i * 2)).add 1) = some (.int .i64 q.2)) ∧ I64 q.1 ∧ I64 q.2 := fun i => by
      by_cases him : i < m
      · obtain ⟨cs', hc, htr⟩ := hi i him
        rw [hC] at hc
        obtain ⟨_, hl2x, hat⟩ := World.cells?_some hc
        obtain ⟨q, rfl, hok⟩ := hE n cs' _ hl2x htr
        exact ⟨q, fun _ => ⟨⟨hat 0 (by decide), hat 1 (by decide)⟩, hok⟩⟩
      · exact ⟨default, fun h => absurd h him⟩
    obtain ⟨f, hf2⟩ := Classical.axiomOfChoice hq
    have hlen : ((List.range len1).map f).length = len1 := by simp
    refine ⟨(List.range len1).map f, ⟨⟨some a, cap1, by rw [hlen], by omega, by omega, ?_⟩, fun q hq => ?_⟩⟩
    · rcases Nat.eq_zero_or_pos len1 with h0 | h0
      · left; exact List.eq_nil_of_length_eq_zero (by omega)
      · have h00 := (hf2 0 (by omega)).1.1
        rw [Nat.zero_mul] at h00
        obtain ⟨b, o, rfl⟩ : ∃ b o, a = ⟨b, o, none⟩ := by
          have h1 := World.cell?_spot h00
          obtain ⟨b, o, s⟩ := a
          simp [Addr.add] at h1
          subst h1
          exact ⟨b, o, rfl⟩
        refine .inr ⟨b, o, rfl, fun j hj => ?_⟩
        obtain ⟨h1, h2⟩ := (hf2 j (by omega)).1
        rw [plain_add, plain_add] at h1 h2
        have hg : vx ((List.range len1).map f) j = f j := by
          unfold vx; rw [List.getD_eq_getElem?_getD, List.getElem?_map, List.getElem?_range (by omega)]; rfl
        rw [hg]
        exact ⟨h1, h2⟩
    · obtain ⟨i, hi2, rfl⟩ := List.mem_map.1 hq
      exact (hf2 i (by have := List.mem_range.1 hi2; omega)).2
theorem cells2 : Tryd.prog.cellsOf 49 = 2 := by kernel_rfl
set_option maxRecDepth 100000 in
theorem open_xy {H : Type} {enc : TypeId × Value → H} {w : World} {b0 : Nat} {r : Reach} {base : Nat} {held : Bool} {v : Value} {d : DataW H} {ps : List MemPlace}
    (hval : Value.okWide Tryd.prog w r b0 22 v) (h : DataW.Trod enc Tryd.prog w base (fun _ => true) held 22 v d ps) : ∃ l, PtsAt w v l ∧ (l.length : Int) ≤ 9223372036854775807 := by
  suffices h : ∃ l, PtsAt w v l by
    obtain ⟨l, h⟩ := h
    obtain ⟨a, c, _, h1, h2, _⟩ := h.at_
    exact ⟨l, h, by omega⟩
  refine open_pairs Tryd.underlying22 cells2 (fun n cs y hl htr => ?_) hval h
  obtain ⟨xs, m, _, _, _, hn, hel⟩ := DataW.trod_array Tryd.underlying49 htr
  rw [cellsI] at hel
  match cs, hl, xs, hn with
  | [c0, c1], _, [y0, y1], _ =>
    obtain ⟨a, ha, _, wa⟩ := DataW.trod_int Tryd.underlying3 (hel 0 (by decide))
    obtain ⟨b, hb, _, wb⟩ := DataW.trod_int Tryd.underlying3 (hel 1 (by decide))
    simp at ha hb
    exact ⟨(a, b), by rw [ha, hb], i64_of wa, i64_of wb⟩
end Go.Proofs.YtcamncipkofgkaaDoor
/- UntCardKit: What the cards of layer 8 share: the table of materials; opening arrays of four numbers. -/
namespace Go.Proofs.YtcamncipkofgkaaDoor
open Go.ChangeShapes Go.WideShapes Go.ChangeAt Go.RowKit Go.Deep Pln Unt

theorem no_stand_in {fn : Func} (h : fn.params.all (fun t => !Tryd.prog.wantsStandIn t) = true) (j : Nat) (t : TypeId) (ht : fn.params[j]? = some t) : Tryd.prog.wantsStandIn t = false := by
  have := Array.all_eq_true'.1 h t (Array.mem_of_getElem? ht)
  simpa using this
theorem gMat : Tryd.prog.globalNamed "putlog/unit.materials" = some 0 := by kernel_rfl
theorem gMatType : (Tryd.prog.globals[0]?).map (·.type) = some 83 := by kernel_rfl
theorem cellsStuff : Tryd.prog.cellsOf 57 = 5 := by kernel_rfl
theorem cellsMat : Tryd.prog.cellsOf 83 = 40 := by kernel_rfl
set_option maxRecDepth 100000 in
/-- Five numbers that read as a struct of numbers are these. -/
theorem cells_of_stuff {H : Type} {enc : TypeId × Value → H} {w : World} {base : Nat} {sp : Nat → Bool} {held : Bool} {fuel : Nat} {cs : List Value} {p : List MemPlace} {z0 z1 z2 z3 z4 : Int}
    (h : DataW.trod enc Tryd.prog w base sp held fuel 57 cs = some (.agg [.lit (.int .i64 z0), .lit (.int .i64 z1), .lit (.int .i64 z2), .lit (.int .i64 z3), .lit (.int .i64 z4)], p)) : cs = [.int .i64 z0, .int .i64 z1, .int .i64 z2, .int .i64 z3, .int .i64 z4] := by
  obtain ⟨xs, m, _, hx, hl, hn, hel⟩ := DataW.trod_struct Tryd.underlying57 h
  rw [cellsStuff] at hl
  match cs, hl, xs, hn, hel, hx with
  | [c0, c1, c2, c3, c4], _, [y0, y1, y2, y3, y4], _, hel, hx =>
    have e0 : DataW.trod enc Tryd.prog w base sp held m 3 (([c0, c1, c2, c3, c4].drop 0).take (Tryd.prog.cellsOf 3)) = some y0 := hel 0 _ rfl
    have e1 : DataW.trod enc Tryd.prog w base sp held m 3 (([c0, c1, c2, c3, c4].drop 1).take (Tryd.prog.cellsOf 3)) = some y1 := hel 1 _ rfl
    have e2 : DataW.trod enc Tryd.prog w base sp held m 3 (([c0, c1, c2, c3, c4].drop 2).take (Tryd.prog.cellsOf 3)) = some y2 := hel 2 _ rfl
    have e3 : DataW.trod enc Tryd.prog w base sp held m 3 (([c0, c1, c2, c3, c4].drop 3).take (Tryd.prog.cellsOf 3)) = some y3 := hel 3 _ rfl
    have e4 : DataW.trod enc Tryd.prog w base sp held m 3 (([c0, c1, c2, c3, c4].drop 4).take (Tryd.prog.cellsOf 3)) = some y4 := hel 4 _ rfl
    rw [cellsI] at e0 e1 e2 e3 e4
    obtain ⟨n0, h0, rfl, _⟩ := DataW.trod_int Tryd.underlying3 e0
    obtain ⟨n1, h1, rfl, _⟩ := DataW.trod_int Tryd.underlying3 e1
    obtain ⟨n2, h2, rfl, _⟩ := DataW.trod_int Tryd.underlying3 e2
    obtain ⟨n3, h3, rfl, _⟩ := DataW.trod_int Tryd.underlying3 e3
    obtain ⟨n4, h4, rfl, _⟩ := DataW.trod_int Tryd.underlying3 e4
    simp at h0 h1 h2 h3 h4 hx
    obtain ⟨⟨rfl, rfl, rfl, rfl, rfl⟩, _⟩ := hx
    subst h0; subst h1; subst h2; subst h3; subst h4
    rfl
def matR (i : Nat) : List Value := [.int .i64 (matT.getD (i * 5) 0), .int .i64 (matT.getD (i * 5 + 1) 0), .int .i64 (matT.getD (i * 5 + 2) 0), .int .i64 (matT.getD (i * 5 + 3) 0), .int .i64 (matT.getD (i * 5 + 4) 0)]
set_option maxRecDepth 100000 in
theorem cells_of_mat {enc : TypeId × Value → Unit} {w : World} {base : Nat} {sp : Nat → Bool} {held : Bool} {fuel : Nat} {cs : List Value} {p : List MemPlace}
    (h : DataW.trod enc Tryd.prog w base sp held fuel 83 cs = some (Rows.laid_putlog_unit_materials, p)) : ∀ i, i < 8 → (cs.drop (i * 5)).take 5 = matR i := by
  obtain ⟨xs, m, _, hx, hl, hn, hel⟩ := DataW.trod_array Tryd.underlying83 h
  rw [cellsStuff] at hel
  match xs, hn, hel, hx with
  | [y0, y1, y2, y3, y4, y5, y6, y7], _, hel, hx =>
    unfold Rows.laid_putlog_unit_materials at hx
    simp only [Prod.mk.injEq, DataW.agg.injEq, List.map_cons, List.map_nil, List.cons.injEq, and_true] at hx
    obtain ⟨⟨h0, h1, h2, h3, h4, h5, h6, h7⟩, _⟩ := hx
    have step : ∀ (i : Nat) (y : DataW Unit × List MemPlace) (z0 z1 z2 z3 z4 : Int), DataW.agg [.lit (.int .i64 z0), .lit (.int .i64 z1), .lit (.int .i64 z2), .lit (.int .i64 z3), .lit (.int .i64 z4)] = y.1 →
        DataW.trod enc Tryd.prog w base sp held m 57 ((cs.drop (i * 5)).take 5) = some y → (cs.drop (i * 5)).take 5 = [.int .i64 z0, .int .i64 z1, .int .i64 z2, .int .i64 z3, .int .i64 z4] := fun i y z0 z1 z2 z3 z4 hy ht => by
      obtain ⟨d, pp⟩ := y
      dsimp only at hy
      subst hy
      exact cells_of_stuff ht
    intro i hi
    have hi' : i = 0 ∨ i = 1 ∨ i = 2 ∨ i = 3 ∨ i = 4 ∨ i = 5 ∨ i = 6 ∨ i = 7 := by omega
    rcases hi' with rfl | rfl | rfl | rfl | rfl | rfl | rfl | rfl
    · exact step 0 y0 _ _ _ _ _ h0 (hel 0 (by omega))
    · exact step 1 y1 _ _ _ _ _ h1 (hel 1 (by omega))
    · exact step 2 y2 _ _ _ _ _ h2 (hel 2 (by omega))
    · exact step 3 y3 _ _ _ _ _ h3 (hel 3 (by omega))
    · exact step 4 y4 _ _ _ _ _ h4 (hel 4 (by omega))
    · exact step 5 y5 _ _ _ _ _ h5 (hel 5 (by omega))
    · exact step 6 y6 _ _ _ _ _ h6 (hel 6 (by omega))
    · exact step 7 y7 _ _ _ _ _ h7 (hel 7 (by omega))
set_option maxRecDepth 100000 in
theorem tabU_of_laid {W : World} (h : laidMetH Tryd.prog [("putlog/unit.materials", Rows.laid_putlog_unit_materials)] W) : TabU W := by
  obtain ⟨ps, ⟨g', t', cs, fuel, p, q, hg', ht', hvar, hd, _, _⟩, _⟩ := (h : laidMet Tryd.prog [("putlog/unit.materials", Rows.laid_putlog_unit_materials)] W)
  obtain rfl := Option.some.inj (gMat.symm.trans hg')
  obtain rfl := Option.some.inj (gMatType.symm.trans ht')
  have hc := cells_of_mat hd
  intro k hk
  rw [World.var?_cell gMat hvar k]
  have h1 := hc (k / 5) (by omega)
  have h2 : ((cs.toList.drop (k / 5 * 5)).take 5)[k % 5]? = some (.int .i64 (matT.getD k 0)) := by
    rw [h1]
    have : k % 5 = 0 ∨ k % 5 = 1 ∨ k % 5 = 2 ∨ k % 5 = 3 ∨ k % 5 = 4 := by omega
    have e := Nat.div_add_mod k 5
    unfold matR
    rcases this with e1 | e1 | e1 | e1 | e1 <;> rw [e1] <;> simp only [List.getElem?_cons_zero, List.getElem?_cons_succ] <;> congr 3 <;> omega
  rw [List.getElem?_take_of_lt (by omega), List.getElem?_drop, show k / 5 * 5 + k % 5 = k by omega] at h2
  simpa using h2
theorem cellsP4 : Tryd.prog.cellsOf 23 = 4 := by kernel_rfl
set_option maxRecDepth 100000 in
theorem open_four {H : Type} {enc : TypeId × Value → H} {w : World} {b0 : Nat} {sp : Nat → Bool} {r : Reach} {base : Nat} {held : Bool} {v : Value} {d : DataW H} {ps : List MemPlace}
    (hval : Value.okWide Tryd.prog w r b0 23 v) (h : DataW.Trod enc Tryd.prog w base sp held 23 v d ps) :
    ∃ a b c e : Int, v = .agg #[.int .i64 a, .int .i64 b, .int .i64 c, .int .i64 e] ∧ I64 a ∧ I64 b ∧ I64 c ∧ I64 e := by
  unfold Value.okWide at hval
  rw [Tryd.underlying23] at hval
  obtain ⟨cs, rfl, hsz, _⟩ := hval
  rw [cellsP4] at hsz
  obtain ⟨fuel, hf⟩ := h
  obtain ⟨xs, m, _, _, _, hn, hel⟩ := DataW.trod_array Tryd.underlying23 hf
  rw [cellsI] at hel
  obtain ⟨cs⟩ := cs
  match cs, hsz, xs, hn with
  | [c0, c1, c2, c3], _, [x0, x1, x2, x3], _ =>
    obtain ⟨a, ha, _, wa⟩ := DataW.trod_int Tryd.underlying3 (hel 0 (by decide))
    obtain ⟨b, hb, _, wb⟩ := DataW.trod_int Tryd.underlying3 (hel 1 (by decide))
    obtain ⟨c, hc, _, wc⟩ := DataW.trod_int Tryd.underlying3 (hel 2 (by decide))
    obtain ⟨e, he, _, we⟩ := DataW.trod_int Tryd.underlying3 (hel 3 (by decide))
    simp [Value.cells] at ha hb hc he
    exact ⟨a, b, c, e, by rw [ha, hb, hc, he], i64_of wa, i64_of wb, i64_of wc, i64_of we⟩
end Go.Proofs.YtcamncipkofgkaaDoor
