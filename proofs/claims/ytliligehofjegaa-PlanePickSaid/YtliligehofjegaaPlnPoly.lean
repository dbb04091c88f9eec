/- What the laws on two polygons share. -/
import Derived.Test.YtliligehofjegaaPlnPair
import Derived.Test.YtliligehofjegaaPlnConvexP
namespace Pln
theorem ins_one {l : List Pt} {p : Pt} (h : insP l p = 1) : ∀ i, i < l.length → 0 < turn (vx l i) (nx l i) p := by
  unfold insP at h
  split at h
  · exact pos_one.1 h
  · omega
theorem dbl_sepB (a b : List Pt) (i : Nat) : sepB (dbl a) (dbl b) i = sepB a b i := by
  rw [Bool.eq_iff_iff, sepB_iff, sepB_iff]
  constructor
  · intro h c hc
    obtain ⟨k, hk, rfl⟩ := mem_vx hc
    have := h (vx (dbl b) k) (vx_mem (by rw [dbl_len]; exact hk))
    rw [dbl_vx, dbl_nx, dbl_vx] at this
    have e : turn (2 * (vx a i).1, 2 * (vx a i).2) (2 * (nx a i).1, 2 * (nx a i).2) (2 * (vx b k).1, 2 * (vx b k).2) = 4 * turn (vx a i) (nx a i) (vx b k) := by unfold turn; grind
    rw [e] at this; omega
  · intro h c hc
    obtain ⟨k, hk, rfl⟩ := mem_vx hc
    rw [dbl_len] at hk
    have := h (vx b k) (vx_mem hk)
    rw [dbl_vx, dbl_nx, dbl_vx]
    have e : turn (2 * (vx a i).1, 2 * (vx a i).2) (2 * (nx a i).1, 2 * (nx a i).2) (2 * (vx b k).1, 2 * (vx b k).2) = 4 * turn (vx a i) (nx a i) (vx b k) := by unfold turn; grind
    rw [e]; omega
/-- A center of a cell in the interior of both. -/
theorem meet_of_center {a b : List Pt} (va : Val a) (vb : Val b) {x y : Int} (ha : posP (dbl a) (2 * x + 1, 2 * y + 1) = 1) (hb : posP (dbl b) (2 * x + 1, 2 * y + 1) = 1) : Meet a b := by
  have K : ∀ {a b : List Pt}, Val b → posP (dbl a) (2 * x + 1, 2 * y + 1) = 1 → posP (dbl b) (2 * x + 1, 2 * y + 1) = 1 → ∀ j, j < a.length → sepB a b j = false := fun {a b} vb ha hb j hj => by
    rw [sepB_no]
    have h1 := pos_one.1 ha j (by rw [dbl_len]; exact hj)
    rw [dbl_turn] at h1
    -- an affine function with four times the value at the center
    have hg : Aff fun q => 2 * turn (vx a j) (nx a j) q := by
      obtain ⟨A, B, C, e⟩ := aff_turn (vx a j) (nx a j)
      exact ⟨2 * A, 2 * B, 2 * C, fun p => by rw [e]; grind⟩
    rcases Classical.em (∃ c ∈ b, 0 < turn (vx a j) (nx a j) c) with h | h
    · exact h
    · exfalso
      have hle : ∀ c ∈ b, turn (vx a j) (nx a j) c ≤ 0 := fun c hc => by
        rcases Int.lt_or_le 0 (turn (vx a j) (nx a j) c) with h2 | h2
        · exact absurd ⟨c, hc, h2⟩ h
        · exact h2
      -- the corner of b where the function is greatest bounds it at the center
      obtain ⟨i, hi, hm⟩ := vb.top (turn (vx a j) (nx a j))
      have hT := vb.corner hi
      have q1 := pos_one.1 hb i (by rw [dbl_len]; exact hi)
      have q2 := pos_one.1 hb (Val.pre b i) (by rw [dbl_len]; exact vb.pre_lt i)
      rw [dbl_turn] at q1 q2
      rw [vb.nx_pre hi] at q2
      have g1 := hm ((i + 1) % b.length) (vb.nxl hi)
      have g2 := hm (Val.pre b i) (vb.pre_lt i)
      have g0 := hle _ (vx_mem hi)
      change turn (vx a j) (nx a j) (nx b i) ≤ _ at g1
      generalize vx a j = s at *
      generalize nx a j = t at *
      generalize vx b (Val.pre b i) = P at *
      generalize nx b i = N at *
      generalize vx b i = O at *
      have key : ∀ q, turn P O N * (turn s t q - turn s t O) = turn P O q * (turn s t N - turn s t O) + turn O N q * (turn s t P - turn s t O) := fun q => by unfold turn; grind
      have k1 := key (x, y)
      have k2 := key (x + 1, y)
      have k3 := key (x, y + 1)
      have k4 := key (x + 1, y + 1)
      have e : turn P O N * (turn s t (x, y) + turn s t (x + 1, y) + turn s t (x, y + 1) + turn s t (x + 1, y + 1) - 4 * turn s t O) =
        (turn P O (x, y) + turn P O (x + 1, y) + turn P O (x, y + 1) + turn P O (x + 1, y + 1)) * (turn s t N - turn s t O) + (turn O N (x, y) + turn O N (x + 1, y) + turn O N (x, y + 1) + turn O N (x + 1, y + 1)) * (turn s t P - turn s t O) := by grind
      have m1 := Int.mul_nonneg (Int.le_of_lt q2) (by omega : 0 ≤ turn s t O - turn s t N)
      have m2 := Int.mul_nonneg (Int.le_of_lt q1) (by omega : 0 ≤ turn s t O - turn s t P)
      have m3 : 0 < turn P O N * (turn s t (x, y) + turn s t (x + 1, y) + turn s t (x, y + 1) + turn s t (x + 1, y + 1) - 4 * turn s t O) := Int.mul_pos hT (by omega)
      have n1 : ∀ A B C : Int, A * (B - C) = -(A * (C - B)) := fun A B C => by grind
      rw [n1 _ (turn s t N), n1 _ (turn s t P)] at e
      omega
  exact ⟨K vb ha hb, K va hb ha⟩
theorem sep_inside {a b : List Pt} (va : Val a) (vb : Val b) {p : Pt} (_hp : On p) : insP a p = 1 → insP b p = 1 → sideP a b = none := fun h1 h2 =>
  (side_none ((valB_iff _).2 va) ((valB_iff _).2 vb)).2 (meet_of_place va vb (ins_one h1) (ins_one h2))
theorem cell_one {l : List Pt} {x y : Int} (h : cellP l x y = 1) : posP (dbl l) (2 * x + 1, 2 * y + 1) = 1 := by
  unfold cellP at h
  split at h
  · exact h
  · omega
theorem sep_cell {a b : List Pt} (va : Val a) (vb : Val b) {x y : Int} (_hp : On (x, y)) : cellP a x y = 1 → cellP b x y = 1 → sideP a b = none := fun h1 h2 =>
  (side_none ((valB_iff _).2 va) ((valB_iff _).2 vb)).2 (meet_of_center va vb (cell_one h1) (cell_one h2))
/-- The edge that separates. -/
theorem side_spec {a b : List Pt} (va : Val a) (vb : Val b) : ∀ wh ed, sideP a b = some (wh, ed) → (wh = 0 ∧ ed < a.length ∧ ∀ c ∈ b, turn (vx a ed) (nx a ed) c ≤ 0) ∨ (wh = 1 ∧ ed < b.length ∧ ∀ c ∈ a, turn (vx b ed) (nx b ed) c ≤ 0) := fun wh ed h => by
  unfold sideP at h
  rw [if_pos ⟨(valB_iff _).2 va, (valB_iff _).2 vb⟩] at h
  rcases e : sep a b with _ | i
  · rw [e] at h
    rcases e2 : sep b a with _ | i
    · rw [e2] at h; cases h
    · rw [e2] at h; cases h
      have := sep_some e2
      exact .inr ⟨rfl, this.1, sepB_iff.1 this.2.1⟩
  · rw [e] at h; cases h
    have := sep_some e
    exact .inl ⟨rfl, this.1, sepB_iff.1 this.2.1⟩
end Pln
namespace Go.Proofs.Ytliligehofjegaa
open Go.RowKit Go.Shelf Pln
/-- A valid polygon in memory. -/
structure Poly (w : World) (g o c n : Nat) (l : List Pt) : Prop where
  v : Val l
  hn : n = l.length
  at_ : PtsAt w (.slice (some ⟨g, o, none⟩) n c) l
theorem Poly.len {w : World} {g o c n : Nat} {l : List Pt} (h : Poly w g o c n l) : Len l := by have := h.v.hi; unfold Len; omega
theorem Poly.vb {w : World} {g o c n : Nat} {l : List Pt} (h : Poly w g o c n l) : valB l = true := (valB_iff l).2 h.v
theorem Poly.via {w w' : World} {g o c n : Nat} {l : List Pt} (h : Poly w g o c n l) (hB : Below w.heap.size w w') : Poly w' g o c n l := ⟨h.v, h.hn, h.at_.via hB⟩
theorem Poly.cells {w : World} {g o c n : Nat} {l : List Pt} (h : Poly w g o c n l) {j : Nat} (hj : j < n) : w.cell? ⟨g, o + j * 2, none⟩ = some (.int .i64 (vx l j).1) ∧ w.cell? ⟨g, o + j * 2 + 1, none⟩ = some (.int .i64 (vx l j).2) :=
  (at_cells h.at_).2.2.2 j (by rw [← h.hn]; exact hj)
theorem Poly.bd {w : World} {g o c n : Nat} {l : List Pt} (h : Poly w g o c n l) : 3 ≤ n ∧ n ≤ 8 := by have := h.v.lo; have := h.v.hi; have := h.hn; omega
theorem poly_of {w : World} {v : Value} {l : List Pt} (h : PtsAt w v l) (hv : Val l) : ∃ g o c n, v = .slice (some ⟨g, o, none⟩) n c ∧ Poly w g o c n l := by
  obtain ⟨g, o, c, rfl, _, _, _⟩ := at_some h (by have := hv.lo; omega)
  exact ⟨g, o, c, l.length, rfl, hv, rfl, h⟩
theorem pk_on41 {a b : Int} : On (pkN a 41, pkN b 41) := by
  have h1 := pkN_in (c := a) (n := 41) (by omega)
  have h2 := pkN_in (c := b) (n := 41) (by omega)
  exact ⟨h1.1, by show pkN a 41 ≤ 40; omega, h2.1, by show pkN b 41 ≤ 40; omega⟩
end Go.Proofs.Ytliligehofjegaa
