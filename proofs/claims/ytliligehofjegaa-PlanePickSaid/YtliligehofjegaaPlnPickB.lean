/- Plain mathematics of layer 7: Pick's theorem for triangles, and for all valid polygons. Nothing of the program. -/
import Derived.Test.YtliligehofjegaaPlnPickA
namespace Pln
open CutG

/-- The ways of signs, from 0 (negative) to 2 (positive). -/
def fs (i : Fin 3) : Int := (i : Int) - 1
def oppB (u v w : Int) : Bool := decide (u = 0 ∧ v = 0 ∧ w = 0) || (decide (0 < u ∨ 0 < v ∨ 0 < w) && decide (u < 0 ∨ v < 0 ∨ w < 0))
def posS (a b c : Int) : Int := if 0 < a ∧ 0 < b ∧ 0 < c then 1 else if 0 ≤ a ∧ 0 ≤ b ∧ 0 ≤ c then 0 else -1
def w4 (a b c x y z : Int) : Int := ((y - x).natAbs : Int) * c + ((z - y).natAbs : Int) * a + ((x - z).natAbs : Int) * b
theorem finite : ∀ a b c x y z : Fin 3, oppB (fs a * fs x) (fs b * fs y) (fs c * fs z) = true → ¬ (fs x = 0 ∧ fs y = 0 ∧ fs z = 0) → (0 < fs a ∨ 0 < fs b ∨ 0 < fs c) →
    ¬ (fs a = 0 ∧ fs b = 0) → ¬ (fs b = 0 ∧ fs c = 0) → ¬ (fs c = 0 ∧ fs a = 0) → w4 (fs a) (fs b) (fs c) (fs x) (fs y) (fs z) = 2 * (posS (fs a) (fs b) (fs c) + 1) := by decide +kernel
theorem sign_fs (z : Int) : ∃ i : Fin 3, z.sign = fs i := by
  rcases sign_vals z with ⟨_, e⟩ | ⟨_, e⟩ | ⟨_, e⟩
  · exact ⟨2, e⟩
  · exact ⟨1, e⟩
  · exact ⟨0, e⟩
theorem sign_opp {u v w : Int} (h : u + v + w = 0) : oppB u.sign v.sign w.sign = true := by
  unfold oppB
  rcases sign_vals u with ⟨h1, e1⟩ | ⟨h1, e1⟩ | ⟨h1, e1⟩ <;> rcases sign_vals v with ⟨h2, e2⟩ | ⟨h2, e2⟩ | ⟨h2, e2⟩ <;> rcases sign_vals w with ⟨h3, e3⟩ | ⟨h3, e3⟩ | ⟨h3, e3⟩ <;> rw [e1, e2, e3] <;> first | rfl | omega
theorem posS_sign (a b c : Int) : posS a.sign b.sign c.sign = posS a b c := by
  unfold posS
  rcases sign_vals a with ⟨h1, e1⟩ | ⟨h1, e1⟩ | ⟨h1, e1⟩ <;> rcases sign_vals b with ⟨h2, e2⟩ | ⟨h2, e2⟩ | ⟨h2, e2⟩ <;> rcases sign_vals c with ⟨h3, e3⟩ | ⟨h3, e3⟩ | ⟨h3, e3⟩ <;> rw [e1, e2, e3] <;> (repeat' split) <;> omega
/-- A place that is no corner of a triangle. -/
theorem tri_at {a b c p : Pt} (hT : 0 < turn a b c) (na : p ≠ a) (nb : p ≠ b) (nc : p ≠ c) :
    wE a b p + wE b c p + wE c a p = 2 * (posS (turn b c p) (turn c a p) (turn a b p) + 1) := by
  have hsum : turn b c p + turn c a p + turn a b p = turn a b c := by have := turn_four a b c p; omega
  have hmom : turn b c p * (a.1 - p.1) + turn c a p * (b.1 - p.1) + turn a b p * (c.1 - p.1) = 0 := by unfold turn; grind
  obtain ⟨ia, ea⟩ := sign_fs (turn b c p)
  obtain ⟨ib, eb⟩ := sign_fs (turn c a p)
  obtain ⟨ic, ec⟩ := sign_fs (turn a b p)
  obtain ⟨ix, ex⟩ := sign_fs (a.1 - p.1)
  obtain ⟨iy, ey⟩ := sign_fs (b.1 - p.1)
  obtain ⟨iz, ez⟩ := sign_fs (c.1 - p.1)
  have hop := sign_opp hmom
  rw [Int.sign_mul, Int.sign_mul, Int.sign_mul, ea, eb, ec, ex, ey, ez] at hop
  have z0 : ∀ z : Int, z.sign = 0 ↔ z = 0 := fun z => Int.sign_eq_zero_iff_zero
  have zp : ∀ z : Int, 0 < z.sign ↔ 0 < z := fun z => by rcases sign_vals z with ⟨h, e⟩ | ⟨h, e⟩ | ⟨h, e⟩ <;> rw [e] <;> omega
  have F := finite ia ib ic ix iy iz hop
    (by rw [← ex, ← ey, ← ez, z0, z0, z0]; rintro ⟨h1, h2, h3⟩
        have e1 : b.1 - a.1 = 0 := by omega
        have e2 : c.1 - a.1 = 0 := by omega
        unfold turn at hT; rw [e1, e2, Int.zero_mul, Int.mul_zero] at hT; omega)
    (by rw [← ea, ← eb, ← ec, zp, zp, zp]; omega)
    (by rw [← ea, ← eb, z0, z0]; rintro ⟨h1, h2⟩
        exact nc (meet_at (o := c) (b := a) (c := b) (by rw [← turn_rot]; rw [turn_rot']; rw [turn_rot']; intro h; first | omega | (rw [turn_rot] at h; omega) | (rw [turn_rot'] at h; omega)) h2 (by rw [turn_swap]; omega)))
    (by rw [← eb, ← ec, z0, z0]; rintro ⟨h1, h2⟩
        exact na (meet_at (o := a) (b := b) (c := c) (by omega) h2 (by rw [turn_swap]; omega)))
    (by rw [← ec, ← ea, z0, z0]; rintro ⟨h1, h2⟩
        exact nb (meet_at (o := b) (b := c) (c := a) (by rw [turn_rot]; omega) h2 (by rw [turn_swap]; omega)))
  rw [← ea, ← eb, ← ec, ← ex, ← ey, ← ez, posS_sign] at F
  rw [← F]
  rfl
theorem tri_corner {a b c : Pt} : wE a b c + wE b c c + wE c a c = (((b.1 - c.1).sign - (a.1 - c.1).sign).natAbs : Int) * (turn a b c).sign := by
  have e1 : wE b c c = 0 := by unfold wE sg; rw [show ((c.1, c.2) : Pt) = c from rfl, turn_r]; simp
  have e2 : wE c a c = 0 := by unfold wE sg; rw [show ((c.1, c.2) : Pt) = c from rfl, turn_l]; simp
  rw [e1, e2]; unfold wE wd sg; simp
def dl (a b c : Pt) : Int := 2 - (((b.1 - c.1).sign - (a.1 - c.1).sign).natAbs : Int)
theorem dl_sum {a b c : Pt} (h : ¬ (a.1 = b.1 ∧ b.1 = c.1)) : dl a b c + dl b c a + dl c a b = 4 := by
  unfold dl
  rcases sign_vals (b.1 - c.1) with ⟨h1, e1⟩ | ⟨h1, e1⟩ | ⟨h1, e1⟩ <;> rcases sign_vals (a.1 - c.1) with ⟨h2, e2⟩ | ⟨h2, e2⟩ | ⟨h2, e2⟩ <;> rcases sign_vals (c.1 - a.1) with ⟨h3, e3⟩ | ⟨h3, e3⟩ | ⟨h3, e3⟩ <;>
    rcases sign_vals (b.1 - a.1) with ⟨h4, e4⟩ | ⟨h4, e4⟩ | ⟨h4, e4⟩ <;> (try (exfalso; omega)) <;> rcases sign_vals (a.1 - b.1) with ⟨h5, e5⟩ | ⟨h5, e5⟩ | ⟨h5, e5⟩ <;> (try (exfalso; omega)) <;> rcases sign_vals (c.1 - b.1) with ⟨h6, e6⟩ | ⟨h6, e6⟩ | ⟨h6, e6⟩ <;> (try (exfalso; omega)) <;> rw [e1, e2, e3, e4, e5, e6] <;> rfl
theorem tri_all {a b c p : Pt} (hT : 0 < turn a b c) : 2 * (posS (turn b c p) (turn c a p) (turn a b p) + 1) = (wE a b p + wE b c p + wE c a p) + ((if p = a then dl b c a else 0) + (if p = b then dl c a b else 0) + (if p = c then dl a b c else 0)) := by
  have s1 := Int.sign_eq_one_of_pos hT
  have nab : a ≠ b := fun e => by rw [e, turn_same] at hT; omega
  have nbc : b ≠ c := fun e => by rw [e, turn_r] at hT; omega
  have nca : c ≠ a := fun e => by rw [e, turn_l] at hT; omega
  have r1 : turn b c a = turn a b c := turn_rot a b c
  have r2 : turn c a b = turn a b c := turn_rot' a b c
  by_cases ha : p = a
  · subst ha
    rw [if_pos rfl, if_neg nab, if_neg (fun e => nca e.symm)]
    have := tri_corner (a := b) (b := c) (c := p)
    rw [r1, s1, Int.mul_one] at this
    rw [turn_r, turn_l]
    unfold dl posS
    rw [if_neg (by omega), if_pos (by omega)]
    omega
  · by_cases hb : p = b
    · subst hb
      rw [if_neg ha, if_pos rfl, if_neg nbc]
      have := tri_corner (a := c) (b := a) (c := p)
      rw [r2, s1, Int.mul_one] at this
      rw [turn_r, turn_l]
      unfold dl posS
      rw [if_neg (by omega), if_pos (by omega)]
      omega
    · by_cases hc : p = c
      · subst hc
        rw [if_neg ha, if_neg hb, if_pos rfl]
        have := tri_corner (a := a) (b := b) (c := p)
        rw [s1, Int.mul_one] at this
        rw [turn_r, turn_l]
        unfold dl posS
        rw [if_neg (by omega), if_pos (by omega)]
        omega
      · rw [if_neg ha, if_neg hb, if_neg hc, tri_at hT ha hb hc]; omega
/-- The numbers of places inside and on the boundary, twice and once. -/
def KP (l : List Pt) : Int := grid fun p => posP l p + 1
theorem nx3 (a b c : Pt) : nx [a, b, c] 0 = b ∧ nx [a, b, c] 1 = c ∧ nx [a, b, c] 2 = a := by
  refine ⟨?_, ?_, ?_⟩ <;> simp [nx, vx]
theorem tri_pos (a b c p : Pt) : posP [a, b, c] p = posS (turn b c p) (turn c a p) (turn a b p) := by
  have e : ∀ k : Int, (∀ i, i < [a, b, c].length → k ≤ turn (vx [a, b, c] i) (nx [a, b, c] i) p) ↔ k ≤ turn b c p ∧ k ≤ turn c a p ∧ k ≤ turn a b p := fun k => by
    constructor
    · intro h
      have h0 := h 0 (by simp)
      have h1 := h 1 (by simp)
      have h2 := h 2 (by simp)
      rw [(nx3 a b c).1] at h0
      rw [(nx3 a b c).2.1] at h1
      rw [(nx3 a b c).2.2] at h2
      exact ⟨h1, h2, h0⟩
    · rintro ⟨h1, h2, h3⟩ i hi
      have : i = 0 ∨ i = 1 ∨ i = 2 := by simp at hi; omega
      rcases this with rfl | rfl | rfl
      · rw [(nx3 a b c).1]; exact h3
      · rw [(nx3 a b c).2.1]; exact h1
      · rw [(nx3 a b c).2.2]; exact h2
  have g0 : 0 ≤ posP [a, b, c] p ↔ _ := (pos_ge).trans (e 0)
  have g1 : posP [a, b, c] p = 1 ↔ _ := (pos_one).trans (e 1)
  have := pos_cases [a, b, c] p
  unfold posS
  split
  · exact g1.2 (by omega)
  · split
    · have h1 : ¬ posP [a, b, c] p = 1 := fun h => by have := g1.1 h; omega
      have := g0.2 (by omega); omega
    · have h1 : ¬ 0 ≤ posP [a, b, c] p := fun h => by have := g0.1 h; omega
      omega
theorem tri_pick {l : List Pt} (v : Val l) (h3 : l.length = 3) : KP l = sumE l crs l.length + 2 := by
  obtain ⟨a, b, c, rfl⟩ : ∃ a b c, l = [a, b, c] := by
    match l, h3 with
    | [a, b, c], _ => exact ⟨a, b, c, rfl⟩
  have hT : 0 < turn a b c := v.ordered (i := 0) (j := 1) (by omega) (k := 2) (by omega) (by simp)
  have oa : On a := v.on 0 (by simp)
  have ob : On b := v.on 1 (by simp)
  have oc : On c := v.on 2 (by simp)
  have h2 : 2 * KP [a, b, c] = (grid (wE a b) + grid (wE b c) + grid (wE c a)) + (dl b c a + dl c a b + dl a b c) := by
    have e : grid (fun p => 2 * (posP [a, b, c] p + 1)) = grid (fun p => (wE a b p + wE b c p + wE c a p) + (((if p = a then dl b c a else 0) + (if p = b then dl c a b else 0)) + (if p = c then dl a b c else 0))) :=
      grid_congr fun p _ => by rw [tri_pos]; exact tri_all hT
    rw [grid_mul] at e
    unfold KP
    rw [e, grid_add (fun p => wE a b p + wE b c p + wE c a p), grid_add (fun p => wE a b p + wE b c p), grid_add (fun p => wE a b p),
      grid_add (fun p => (if p = a then dl b c a else 0) + (if p = b then dl c a b else 0)), grid_add (fun p => if p = a then dl b c a else 0), grid_one oa, grid_one ob, grid_one oc]
  rw [trap oa ob, trap ob oc, trap oc oa] at h2
  have h4 : dl b c a + dl c a b + dl a b c = 4 := by
    have := dl_sum (a := a) (b := b) (c := c) (fun ⟨x, y⟩ => by
      have e1 : b.1 - a.1 = 0 := by omega
      have e2 : c.1 - a.1 = 0 := by omega
      unfold turn at hT; rw [e1, e2, Int.zero_mul, Int.mul_zero] at hT; omega)
    omega
  have h5 : 2 * (b.1 - a.1) * (40 - a.2 - b.2) + 2 * (c.1 - b.1) * (40 - b.2 - c.2) + 2 * (a.1 - c.1) * (40 - c.2 - a.2) = 2 * (crs a b + crs b c + crs c a) := by unfold crs; grind
  have h6 : sumE [a, b, c] crs [a, b, c].length = 0 + crs a b + crs b c + crs c a := by
    show 0 + crs a (nx [a, b, c] 0) + crs b (nx [a, b, c] 1) + crs c (nx [a, b, c] 2) = _
    rw [(nx3 a b c).1, (nx3 a b c).2.1, (nx3 a b c).2.2]
  rw [h6]
  omega
theorem cut_places {r : List Pt} {d : Nat} (h : CutG r d) (v2 : Val (spt r d)) : KP r = KP (fpt r d) + KP (spt r d) - 2 := by
  have d2 := h.d2
  have dn := h.dn
  have hne : vx r 0 ≠ vx r d := h.v.ne (by omega) h.dl (by omega)
  have geR : ∀ p, 0 ≤ posP r p ↔ 0 ≤ posP (fpt r d) p ∨ 0 ≤ posP (spt r d) p := fun p => by
    have g : 0 ≤ posP r p ↔ ∀ j, j < r.length → 0 ≤ T r j p := pos_ge
    rw [h.ge1, h.ge2, g]
    constructor
    · intro H
      rcases Int.le_total 0 (G r d p) with x | x
      · exact .inl ⟨fun j hj => H j (by omega), x⟩
      · exact .inr ⟨fun j _ hj => H j hj, x⟩
    · have K : ∀ {q : List Pt}, Val q → (∀ c ∈ q, ∃ k, k < r.length ∧ c = vx r k) → 0 ≤ posP q p → ∀ j, j < r.length → 0 ≤ T r j p := fun {q} vq hs hp j hj => by
        refine in_ge vq (s := vx r j) (e := nx r j) (fun c hc => ?_) hp
        obtain ⟨k, hk, e⟩ := hs c hc
        rw [e]; exact h.v.nonneg hj hk
      rintro (x | x)
      · exact K h.val1 h.sub1 (h.ge1.2 x)
      · exact K v2 h.sub2 (h.ge2.2 x)
  have pt : ∀ p, On p → posP r p + 1 = (posP (fpt r d) p + 1) + (posP (spt r d) p + 1) + ((if p = vx r 0 then -1 else 0) + (if p = vx r d then -1 else 0)) := fun p _ => by
    have cA := pos_cases (fpt r d) p
    have cB := pos_cases (spt r d) p
    have cR := pos_cases r p
    have g := geR p
    have i := h.inner v2 (p := p)
    have s1 := h.split1 (p := p)
    have s2 := h.split2 (p := p)
    by_cases e0 : p = vx r 0
    · have a0 : 0 ≤ posP (fpt r d) p := by rw [e0]; exact h.in1 (by omega)
      have b0 : 0 ≤ posP (spt r d) p := by rw [e0]; exact h.in20 v2
      have ne : ¬ p = vx r d := fun e => hne (by rw [← e0, e])
      rw [if_pos e0, if_neg ne]
      have i2 : posP r p ≠ 1 := fun x => by rcases i.1 x with y | y | ⟨_, _, y, _⟩; omega; omega; exact y e0
      omega
    · by_cases ed : p = vx r d
      · have a0 : 0 ≤ posP (fpt r d) p := by rw [ed]; exact h.in1 (by omega)
        have b0 : 0 ≤ posP (spt r d) p := by rw [ed]; exact h.in2 v2 (by omega) h.dl
        rw [if_neg e0, if_pos ed]
        have i2 : posP r p ≠ 1 := fun x => by rcases i.1 x with y | y | ⟨_, _, _, y⟩; omega; omega; exact y ed
        omega
      · rw [if_neg e0, if_neg ed]
        have i3 : posP r p = 1 ↔ posP (fpt r d) p = 1 ∨ posP (spt r d) p = 1 ∨ posP (fpt r d) p = 0 ∧ posP (spt r d) p = 0 := by
          rw [i]
          constructor
          · rintro (y | y | ⟨y, z, _⟩)
            · exact .inl y
            · exact .inr (.inl y)
            · exact .inr (.inr ⟨y, z⟩)
          · rintro (y | y | ⟨y, z⟩)
            · exact .inl y
            · exact .inr (.inl y)
            · exact .inr (.inr ⟨y, z, e0, ed⟩)
        omega
  unfold KP
  rw [grid_congr pt, grid_add (fun p => (posP (fpt r d) p + 1) + (posP (spt r d) p + 1)), grid_add (fun p => posP (fpt r d) p + 1), grid_add (fun p => if p = vx r 0 then -1 else 0), grid_one (h.v.on 0 (by omega)), grid_one (h.v.on d h.dl)]
  omega
/-- Pick's theorem. -/
theorem pick_all : ∀ (n : Nat) {l : List Pt}, Val l → l.length = n + 3 → KP l = sumE l crs l.length + 2
  | 0, l, v, h => tri_pick v h
  | n + 1, l, v, h => by
    have g : CutG l 2 := ⟨v, by omega, by omega⟩
    have e0 : rot l 0 = l := by unfold rot; simp
    have v2 : Val (spt l 2) := by
      obtain ⟨d, hd, hm, e1, e2⟩ := run_fpt (l := l) (i := 0) (k := 2) (by omega) (by omega)
      have hd2 : d = 2 := by rw [Nat.zero_add, Nat.mod_eq_of_lt hd] at hm; exact hm
      subst hd2
      rw [e0] at e2
      rw [← e2 (by omega)]
      exact run_val v (by omega) (by omega) (by rw [e2 (by omega), g.len2]; omega)
    have i1 := tri_pick g.val1 (by rw [g.len1])
    have i2 := pick_all n v2 (by rw [g.len2]; omega)
    have ar := sum_parts g.dl (F := crs) (fun p q => by unfold crs; grind)
    rw [g.len1] at i1
    rw [g.len2] at i2
    rw [cut_places g v2]
    omega
theorem pick {l : List Pt} (v : Val l) : KP l = sumE l crs l.length + 2 := pick_all (l.length - 3) v (by have := v.lo; omega)
end Pln
