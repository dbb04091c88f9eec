/- Plain mathematics of layer 7: convex polygons. Nothing of the program. -/
import Derived.Test.YtliligehofjegaaPlnPure
namespace Pln

theorem turn_rot (a b c : Pt) : turn b c a = turn a b c := by unfold turn; grind
theorem turn_rot' (a b c : Pt) : turn c a b = turn a b c := by unfold turn; grind
theorem turn_swap (a b c : Pt) : turn b a c = -turn a b c := by unfold turn; grind
theorem turn_swap' (a b c : Pt) : turn a c b = -turn a b c := by unfold turn; grind
theorem turn_l (a b : Pt) : turn a b a = 0 := by unfold turn; grind
theorem turn_r (a b : Pt) : turn a b b = 0 := by unfold turn; grind
theorem turn_same (a c : Pt) : turn a a c = 0 := by unfold turn; grind
/-- Four places: the turn with one of three is the sum of those with the others. -/
theorem turn_four (a b c d : Pt) : turn a b c = turn a b d + turn b c d + turn c a d := by unfold turn; grind
/-- A function that is affine. -/
structure Aff (g : Pt → Int) : Prop where
  out : ∃ A B C : Int, ∀ p, g p = A * p.1 + B * p.2 + C
theorem aff_turn (a b : Pt) : Aff (turn a b) := ⟨-(b.2 - a.2), b.1 - a.1, (b.2 - a.2) * a.1 - (b.1 - a.1) * a.2, fun p => by unfold turn; grind⟩
theorem aff_neg {g : Pt → Int} (h : Aff g) : Aff fun p => -(g p) := by
  obtain ⟨A, B, C, e⟩ := h; exact ⟨-A, -B, -C, fun p => by rw [e]; grind⟩
theorem aff_add {f g : Pt → Int} (h : Aff f) (k : Aff g) : Aff fun p => f p + g p := by
  obtain ⟨A, B, C, e⟩ := h; obtain ⟨A', B', C', e'⟩ := k
  exact ⟨A + A', B + B', C + C', fun p => by rw [e, e']; grind⟩
theorem plu {f : Pt → Int} (hf : Aff f) (o b c d : Pt) : (f c - f o) * turn o b d = (f b - f o) * turn o c d + (f d - f o) * turn o b c := by
  obtain ⟨A, B, C, e⟩ := hf
  rw [e, e, e, e]; unfold turn; grind
theorem pos_of_mul {a b : Int} (ha : 0 < a) (h : 0 < a * b) : 0 < b := by
  rcases Int.lt_or_le 0 b with h2 | h2
  · exact h2
  · have := Int.mul_nonneg (Int.le_of_lt ha) (by omega : 0 ≤ -b); rw [Int.mul_neg] at this; omega
theorem nonneg_of_mul {a b : Int} (ha : 0 < a) (h : 0 ≤ a * b) : 0 ≤ b := by
  rcases Int.lt_or_le b 0 with h2 | h2
  · have := Int.mul_pos ha (by omega : 0 < -b); rw [Int.mul_neg] at this; omega
  · exact h2
/-- An apex: a function that is greater everywhere else. -/
def Apex (l : List Pt) (o : Pt) : Prop := ∃ f : Pt → Int, Aff f ∧ ∀ p ∈ l, p ≠ o → f o < f p
theorem trans_lt {l : List Pt} {o b c d : Pt} (h : Apex l o) (hb : b ∈ l) (hc : c ∈ l) (hd : d ∈ l) (b0 : b ≠ o) (c0 : c ≠ o) (d0 : d ≠ o)
    (h1 : 0 < turn o b c) (h2 : 0 ≤ turn o c d) : 0 < turn o b d := by
  obtain ⟨f, hf, hp⟩ := h
  have e := plu hf o b c d
  have fb := hp b hb b0; have fc := hp c hc c0; have fd := hp d hd d0
  have m1 := Int.mul_nonneg (by omega : 0 ≤ f b - f o) h2
  have m2 := Int.mul_pos (by omega : 0 < f d - f o) h1
  exact pos_of_mul (by omega : 0 < f c - f o) (by omega)
theorem trans_lt' {l : List Pt} {o b c d : Pt} (h : Apex l o) (hb : b ∈ l) (hc : c ∈ l) (hd : d ∈ l) (b0 : b ≠ o) (c0 : c ≠ o) (d0 : d ≠ o)
    (h1 : 0 ≤ turn o b c) (h2 : 0 < turn o c d) : 0 < turn o b d := by
  obtain ⟨f, hf, hp⟩ := h
  have e := plu hf o b c d
  have fb := hp b hb b0; have fc := hp c hc c0; have fd := hp d hd d0
  have m1 := Int.mul_pos (by omega : 0 < f b - f o) h2
  have m2 := Int.mul_nonneg (by omega : 0 ≤ f d - f o) h1
  exact pos_of_mul (by omega : 0 < f c - f o) (by omega)
theorem trans_eq {l : List Pt} {o b c d : Pt} (h : Apex l o) (hc : c ∈ l) (c0 : c ≠ o)
    (h1 : turn o b c = 0) (h2 : turn o c d = 0) : turn o b d = 0 := by
  obtain ⟨f, hf, hp⟩ := h
  have e := plu hf o b c d
  have fc := hp c hc c0
  rw [h1, h2, Int.mul_zero, Int.mul_zero] at e
  rcases Int.mul_eq_zero.1 e with e | e
  · omega
  · exact e

namespace Val
variable {l : List Pt}
theorem nxl (_v : Val l) {i : Nat} (hi : i < l.length) : (i + 1) % l.length < l.length := mod_lt' hi
theorem nx_ne (v : Val l) {i : Nat} (hi : i < l.length) : (i + 1) % l.length ≠ i := by
  have := v.lo
  rcases Nat.lt_or_ge (i + 1) l.length with h | h
  · rw [Nat.mod_eq_of_lt h]; omega
  · rw [show i + 1 = l.length by omega, Nat.mod_self]; omega
/-- Some third corner. -/
theorem third (v : Val l) (i j : Nat) : ∃ k, k < l.length ∧ k ≠ i ∧ k ≠ j := by
  have := v.lo
  by_cases h0 : 0 ≠ i ∧ 0 ≠ j
  · exact ⟨0, by omega, h0.1, h0.2⟩
  · by_cases h1 : 1 ≠ i ∧ 1 ≠ j
    · exact ⟨1, by omega, h1.1, h1.2⟩
    · exact ⟨2, by omega, by omega, by omega⟩
theorem nonneg (v : Val l) {i k : Nat} (hi : i < l.length) (hk : k < l.length) : 0 ≤ turn (vx l i) (nx l i) (vx l k) := by
  by_cases a : k = i
  · subst a; rw [turn_l]; omega
  · by_cases b : k = (i + 1) % l.length
    · unfold nx; rw [← b, turn_r]; omega
    · have := v.left i hi k hk a b; omega
/-- The corner before. -/
def pre (l : List Pt) (i : Nat) : Nat := (i + l.length - 1) % l.length
theorem pre_lt (v : Val l) (i : Nat) : pre l i < l.length := Nat.mod_lt _ (by have := v.lo; omega)
theorem pre_nx (v : Val l) {i : Nat} (hi : i < l.length) : (pre l i + 1) % l.length = i := by
  have := v.lo
  unfold pre
  rcases i with _ | i
  · rw [Nat.zero_add, Nat.mod_eq_of_lt (by omega : l.length - 1 < l.length), show l.length - 1 + 1 = l.length by omega, Nat.mod_self]
  · rw [show i + 1 + l.length - 1 = i + l.length by omega, Nat.add_mod_right, Nat.mod_eq_of_lt (by omega : i < l.length), Nat.mod_eq_of_lt hi]
theorem pre_ne (v : Val l) {i : Nat} (hi : i < l.length) : pre l i ≠ i := by
  have h := v.nx_ne (v.pre_lt i); rw [v.pre_nx hi] at h; exact fun e => h e.symm
theorem pre_ne_nx (v : Val l) {i : Nat} (hi : i < l.length) : pre l i ≠ (i + 1) % l.length := by
  have := v.lo
  unfold pre
  rcases i with _ | i
  · rw [Nat.zero_add, Nat.mod_eq_of_lt (by omega : l.length - 1 < l.length), Nat.mod_eq_of_lt (by omega : 0 + 1 < l.length)]; omega
  · rw [show i + 1 + l.length - 1 = i + l.length by omega, Nat.add_mod_right, Nat.mod_eq_of_lt (by omega : i < l.length)]
    rcases Nat.lt_or_ge (i + 1 + 1) l.length with h | h
    · rw [Nat.mod_eq_of_lt h]; omega
    · rw [show i + 1 + 1 = l.length by omega, Nat.mod_self]; omega
theorem nx_pre (v : Val l) {i : Nat} (hi : i < l.length) : nx l (pre l i) = vx l i := by unfold nx; rw [v.pre_nx hi]
/-- What an edge and the corner before make. -/
theorem corner (v : Val l) {i : Nat} (hi : i < l.length) : 0 < turn (vx l (pre l i)) (vx l i) (nx l i) := by
  have h := v.left i hi (pre l i) (v.pre_lt i) (v.pre_ne hi) (v.pre_ne_nx hi)
  rwa [turn_rot] at h
/-- No two corners are the same. -/
theorem inj (v : Val l) {i k : Nat} (hi : i < l.length) (hk : k < l.length) (e : vx l i = vx l k) : i = k := by
  by_cases h : i = k
  · exact h
  · exfalso
    by_cases h2 : k = (i + 1) % l.length
    · have hc := v.corner hi
      have e2 : nx l i = vx l i := by unfold nx; rw [← h2, e]
      rw [e2, turn_r] at hc; omega
    · have := v.left i hi k hk (fun x => h x.symm) h2
      rw [← e, turn_l] at this; omega
theorem ne (v : Val l) {i k : Nat} (hi : i < l.length) (hk : k < l.length) (h : i ≠ k) : vx l i ≠ vx l k := fun e => h (v.inj hi hk e)
theorem apex (v : Val l) {i : Nat} (hi : i < l.length) : Apex l (vx l i) := by
  refine ⟨fun p => turn (vx l i) (nx l i) p + turn (vx l (pre l i)) (vx l i) p, aff_add (aff_turn _ _) (aff_turn _ _), fun p hp hne => ?_⟩
  obtain ⟨k, hk, rfl⟩ := mem_vx hp
  have hki : k ≠ i := fun e => hne (by rw [e])
  dsimp only
  rw [turn_l, turn_r]
  have h1 := v.nonneg hi hk
  have h2 := v.nonneg (v.pre_lt i) hk
  rw [v.nx_pre hi] at h2
  by_cases h3 : k = (i + 1) % l.length
  · have := v.corner hi
    have e : nx l i = vx l k := by unfold nx; rw [h3]
    rw [e] at this; omega
  · have := v.left i hi k hk hki h3
    omega
/-- Corners in their order turn to the left. -/
theorem ordered (v : Val l) {i j : Nat} (hij : i < j) : ∀ {k : Nat}, j < k → k < l.length → 0 < turn (vx l i) (vx l j) (vx l k)
  | k + 1, h, hk => by
    have st : ∀ j, i < j → j + 1 < l.length → 0 < turn (vx l i) (vx l j) (vx l (j + 1)) := fun j h1 h2 => by
      have := v.left j (by omega) i (by omega) (by omega) (by rw [Nat.mod_eq_of_lt h2]; omega)
      rw [nx_in h2] at this; rwa [← turn_rot (vx l i) (vx l j) (vx l (j + 1))]
    by_cases e : j = k
    · subst e; exact st j hij hk
    · have ih := ordered v hij (k := k) (by omega) (by omega)
      exact trans_lt (v.apex (by omega : i < l.length)) (vx_mem (by omega)) (vx_mem (by omega)) (vx_mem hk) (v.ne (by omega) (by omega) (by omega)) (v.ne (by omega) (by omega) (by omega)) (v.ne (by omega) (by omega) (by omega)) ih (Int.le_of_lt (st k (by omega) hk))
/-- A corner where an affine function is greatest. -/
theorem top (v : Val l) (g : Pt → Int) : ∃ i, i < l.length ∧ ∀ k, k < l.length → g (vx l k) ≤ g (vx l i) := by
  have : ∀ n, n ≤ l.length → 0 < n → ∃ i, i < l.length ∧ ∀ k, k < n → g (vx l k) ≤ g (vx l i) := by
    intro n
    induction n with
    | zero => intro _ h; omega
    | succ n ih =>
      intro h _
      by_cases h0 : n = 0
      · exact ⟨0, by omega, fun k hk => by rw [show k = 0 by omega]; omega⟩
      · obtain ⟨i, hi, hm⟩ := ih (by omega) (by omega)
        by_cases hg : g (vx l n) ≤ g (vx l i)
        · exact ⟨i, hi, fun k hk => by
            by_cases e : k = n
            · rw [e]; exact hg
            · exact hm k (by omega)⟩
        · exact ⟨n, by omega, fun k hk => by
            by_cases e : k = n
            · rw [e]; omega
            · have := hm k (by omega); omega⟩
  exact this l.length (Nat.le_refl _) (by have := v.lo; omega)
/-- What is not outside lies, by any affine function, not beyond all corners. -/
theorem support (v : Val l) {g : Pt → Int} (hg : Aff g) {p : Pt} (hp : ∀ i, i < l.length → 0 ≤ turn (vx l i) (nx l i) p) : ∃ i, i < l.length ∧ g p ≤ g (vx l i) := by
  obtain ⟨i, hi, hm⟩ := v.top g
  refine ⟨i, hi, ?_⟩
  have hT := v.corner hi
  have h1 := hp i hi
  have h2 := hp (pre l i) (v.pre_lt i)
  rw [v.nx_pre hi] at h2
  have g1 := hm ((i + 1) % l.length) (v.nxl hi)
  have g2 := hm (pre l i) (v.pre_lt i)
  generalize vx l (pre l i) = a at *
  generalize hb : nx l i = b at *
  have g1' : g b ≤ g (vx l i) := by rw [← hb]; exact g1
  generalize vx l i = o at *
  have e : turn a o b * (g p - g o) = turn a o p * (g b - g o) + turn o b p * (g a - g o) := by
    obtain ⟨A, B, C, e⟩ := hg
    rw [e, e, e, e]; unfold turn; grind
  have m1 := Int.mul_nonneg h2 (by omega : 0 ≤ g o - g b)
  have m2 := Int.mul_nonneg h1 (by omega : 0 ≤ g o - g a)
  have e1 : turn a o p * (g b - g o) = -(turn a o p * (g o - g b)) := by grind
  have e2 : turn o b p * (g a - g o) = -(turn o b p * (g o - g a)) := by grind
  have m3 : 0 ≤ turn a o b * (g o - g p) := by
    have : turn a o b * (g o - g p) = -(turn a o b * (g p - g o)) := by grind
    omega
  have := nonneg_of_mul hT m3
  omega
/-- No edge separates a polygon from what has a place of its interior in it. -/
theorem not_sep {o : List Pt} (vo : Val o) {p : Pt} {s e : Pt} (h : 0 < turn s e p) (hp : ∀ i, i < o.length → 0 ≤ turn (vx o i) (nx o i) p) : ∃ c ∈ o, 0 < turn s e c := by
  obtain ⟨i, hi, hle⟩ := vo.support (aff_turn s e) hp
  exact ⟨vx o i, vx_mem hi, by omega⟩
theorem no_self (v : Val l) {i : Nat} (hi : i < l.length) : sepB l l i = false := by
  obtain ⟨k, hk, h1, h2⟩ := v.third i ((i + 1) % l.length)
  exact sepB_no.2 ⟨vx l k, vx_mem hk, v.left i hi k hk h1 h2⟩
end Val
theorem sep_some {l o : List Pt} {i : Nat} (h : sep l o = some i) : i < l.length ∧ sepB l o i = true ∧ ∀ j, j < i → sepB l o j = false := by
  obtain ⟨a, b, c, d⟩ := sepF_some h; exact ⟨by omega, c, fun j hj => d j (by omega) hj⟩
theorem sep_none {l o : List Pt} (h : sep l o = none) : ∀ j, j < l.length → sepB l o j = false := fun j hj => sepF_none h j (by omega) (by omega)
theorem sep_none_iff {l o : List Pt} : sep l o = none ↔ ∀ j, j < l.length → sepB l o j = false := by
  refine ⟨sep_none, fun h => ?_⟩
  rcases e : sep l o with _ | i
  · rfl
  · have := sep_some e; rw [h i this.1] at this; simp at this
/-- Two polygons with no separating edge. -/
def Meet (a b : List Pt) : Prop := (∀ j, j < a.length → sepB a b j = false) ∧ ∀ j, j < b.length → sepB b a j = false
theorem side_none {a b : List Pt} (va : valB a = true) (vb : valB b = true) : sideP a b = none ↔ Meet a b := by
  unfold sideP Meet; rw [if_pos ⟨va, vb⟩, ← sep_none_iff, ← sep_none_iff]
  rcases sep a b with _ | i
  · rcases sep b a with _ | i <;> simp
  · simp
theorem over_iff {a b : List Pt} (va : valB a = true) (vb : valB b = true) : overP a b = true ↔ Meet a b := by
  unfold overP; rw [va, vb, ← side_none va vb]; simp
theorem over_comm {a b : List Pt} (va : valB a = true) (vb : valB b = true) : overP a b = overP b a := by
  rw [Bool.eq_iff_iff, over_iff va vb, over_iff vb va]; exact And.comm
theorem over_self {a : List Pt} (va : valB a = true) : overP a a = true := by
  rw [over_iff va va]; have v := (valB_iff a).1 va; exact ⟨fun j hj => v.no_self hj, fun j hj => v.no_self hj⟩
/-- A place in the interior of both: nothing separates. -/
theorem meet_of_place {a b : List Pt} (va : Val a) (vb : Val b) {p : Pt} (ha : ∀ i, i < a.length → 0 < turn (vx a i) (nx a i) p) (hb : ∀ i, i < b.length → 0 < turn (vx b i) (nx b i) p) : Meet a b :=
  ⟨fun j hj => sepB_no.2 (vb.not_sep (ha j hj) fun i hi => Int.le_of_lt (hb i hi)), fun j hj => sepB_no.2 (va.not_sep (hb j hj) fun i hi => Int.le_of_lt (ha i hi))⟩
/-- Twice the size. -/
theorem dbl_len (l : List Pt) : (dbl l).length = l.length := by unfold dbl; simp
theorem dbl_vx (l : List Pt) (i : Nat) : vx (dbl l) i = (2 * (vx l i).1, 2 * (vx l i).2) := by
  unfold dbl vx
  rw [List.getD_eq_getElem?_getD, List.getD_eq_getElem?_getD, List.getElem?_map]
  rcases l[i]? with _ | p <;> rfl
theorem dbl_nx (l : List Pt) (i : Nat) : nx (dbl l) i = (2 * (nx l i).1, 2 * (nx l i).2) := by unfold nx; rw [dbl_len, dbl_vx]
theorem dbl_turn (l : List Pt) (i : Nat) (x y : Int) : turn (vx (dbl l) i) (nx (dbl l) i) (2 * x + 1, 2 * y + 1) = turn (vx l i) (nx l i) (x, y) + turn (vx l i) (nx l i) (x + 1, y) + turn (vx l i) (nx l i) (x, y + 1) + turn (vx l i) (nx l i) (x + 1, y + 1) := by
  rw [dbl_vx, dbl_nx]; unfold turn; grind
theorem val_dbl_turn (l : List Pt) (i k : Nat) : turn (vx (dbl l) i) (nx (dbl l) i) (vx (dbl l) k) = 4 * turn (vx l i) (nx l i) (vx l k) := by
  rw [dbl_vx, dbl_nx, dbl_vx]; unfold turn; grind
/-- A cell whose corners are not outside. -/
theorem cell_in {l : List Pt} (v : Val l) {x y : Int} (h0 : 0 ≤ posP l (x, y)) (h1 : 0 ≤ posP l (x + 1, y)) (h2 : 0 ≤ posP l (x, y + 1)) (h3 : 0 ≤ posP l (x + 1, y + 1)) : posP (dbl l) (2 * x + 1, 2 * y + 1) = 1 := by
  rw [pos_one, dbl_len]
  intro i hi
  rw [dbl_turn]
  have a0 := pos_ge.1 h0 i hi; have a1 := pos_ge.1 h1 i hi; have a2 := pos_ge.1 h2 i hi; have a3 := pos_ge.1 h3 i hi
  have hne := v.ne hi (v.nxl hi) (fun e => v.nx_ne hi e.symm)
  have hne' : vx l i ≠ nx l i := hne
  generalize vx l i = s at *
  generalize nx l i = e at *
  rcases Int.lt_or_le 0 (turn s e (x, y) + turn s e (x + 1, y) + turn s e (x, y + 1) + turn s e (x + 1, y + 1)) with h | h
  · exact h
  · exfalso
    have b1 : turn s e (x + 1, y) = turn s e (x, y) - (e.2 - s.2) := by unfold turn; grind
    have b2 : turn s e (x, y + 1) = turn s e (x, y) + (e.1 - s.1) := by unfold turn; grind
    exact hne' (Prod.ext (by omega) (by omega))
/-- Halfway. -/
theorem half_turn (s e : Pt) {px py qx qy hx hy : Int} (h1 : 2 * hx = px + qx) (h2 : 2 * hy = py + qy) : 2 * turn s e (hx, hy) = turn s e (px, py) + turn s e (qx, qy) := by
  unfold turn; dsimp only; grind
theorem half_in {l : List Pt} {px py qx qy hx hy : Int} (h1 : 2 * hx = px + qx) (h2 : 2 * hy = py + qy) (hp : 0 ≤ posP l (px, py)) (hq : 0 ≤ posP l (qx, qy)) : 0 ≤ posP l (hx, hy) ∧ max (posP l (px, py)) (posP l (qx, qy)) ≤ posP l (hx, hy) := by
  have g : 0 ≤ posP l (hx, hy) := pos_ge.2 fun i hi => by
    have := half_turn (vx l i) (nx l i) h1 h2
    have := pos_ge.1 hp i hi; have := pos_ge.1 hq i hi; omega
  refine ⟨g, ?_⟩
  have one : posP l (px, py) = 1 ∨ posP l (qx, qy) = 1 → posP l (hx, hy) = 1 := fun h => pos_one.2 fun i hi => by
    have e := half_turn (vx l i) (nx l i) h1 h2
    have a := pos_ge.1 hp i hi; have b := pos_ge.1 hq i hi
    rcases h with h | h
    · have := pos_one.1 h i hi; omega
    · have := pos_one.1 h i hi; omega
  rcases pos_cases l (px, py) with h | h | h
  · rw [one (.inl h)]; have := pos_cases l (qx, qy); omega
  · rcases pos_cases l (qx, qy) with k | k | k
    · rw [one (.inr k)]; omega
    · omega
    · omega
  · omega
end Pln
