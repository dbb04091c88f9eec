/- Plain mathematics of layer 7: the places on the boundary, counted. Nothing of the program. -/
import Derived.Test.YtliligehofjegaaPlnPickB
namespace Pln
open CutG

theorem bezN : ∀ (m n : Nat), ∃ x y : Int, (m : Int) * x + n * y = (Nat.gcd m n : Int) := by
  intro m n
  induction m, n using Nat.gcd.induction with
  | H0 n => exact ⟨0, 1, by simp⟩
  | H1 m n h ih =>
    obtain ⟨x, y, e⟩ := ih
    refine ⟨y - (n / m : Nat) * x, x, ?_⟩
    rw [Nat.gcd_rec m n, ← e]
    have : (n : Int) = m * ((n / m : Nat) : Int) + ((n % m : Nat) : Int) := by
      have := Nat.div_add_mod n m
      exact_mod_cast this.symm
    grind
theorem bez (a b : Int) : ∃ x y : Int, a * x + b * y = (Int.gcd a b : Int) := by
  obtain ⟨x, y, e⟩ := bezN a.natAbs b.natAbs
  have ha : ∃ s : Int, (a.natAbs : Int) = a * s := by
    rcases Int.le_total 0 a with h | h
    · exact ⟨1, by omega⟩
    · exact ⟨-1, by omega⟩
  have hb : ∃ s : Int, (b.natAbs : Int) = b * s := by
    rcases Int.le_total 0 b with h | h
    · exact ⟨1, by omega⟩
    · exact ⟨-1, by omega⟩
  obtain ⟨s, hs⟩ := ha
  obtain ⟨t, ht⟩ := hb
  refine ⟨s * x, t * y, ?_⟩
  unfold Int.gcd
  rw [← e, hs, ht]
  grind
theorem line_same {a b p q : Pt} (hn : a ≠ b) (hp : turn a b p = 0) (hq : turn a b q = 0) (h : al a b p = al a b q) : p = q := by
  have hD := al_pos hn
  have ex := on_line (f := al a b) (k := fun p => p.1) (aff_al a b) aff_x hp
  have ey := on_line (f := al a b) (k := fun p => p.2) (aff_al a b) aff_y hp
  have fx := on_line (f := al a b) (k := fun p => p.1) (aff_al a b) aff_x hq
  have fy := on_line (f := al a b) (k := fun p => p.2) (aff_al a b) aff_y hq
  rw [al_l, Int.sub_zero] at ex ey fx fy
  rw [h] at ex ey
  exact Prod.ext (Int.eq_of_mul_eq_mul_right (Int.ne_of_gt hD) (by omega)) (Int.eq_of_mul_eq_mul_right (Int.ne_of_gt hD) (by omega))
/-- What is on an edge's line, and not outside, is on the edge. -/
theorem edge_seg {l : List Pt} (v : Val l) {i : Nat} (hi : i < l.length) {p : Pt} (hp : 0 ≤ posP l p) (h0 : turn (vx l i) (nx l i) p = 0) : SegP (vx l i) (nx l i) p := by
  have hn := edge_ne v hi
  have hD := al_pos hn
  have hb : 0 ≤ posP l (nx l i) := at_corner v (v.nxl hi)
  have ha : 0 ≤ posP l (vx l i) := at_corner v hi
  have col1 : turn p (nx l i) (vx l i) = 0 := by
    have : turn p (nx l i) (vx l i) = -turn (vx l i) (nx l i) p := by unfold turn; grind
    omega
  refine ⟨h0, ?_, ?_⟩
  · rcases Int.lt_or_le (al (vx l i) (nx l i) p) 0 with x | x
    · exact (no_behind v (vx_mem hi) hp hb (aff_al (vx l i) (nx l i)) col1 (by rw [al_l]; exact x) (by rw [al_l]; exact hD)).elim
    · exact x
  · rcases Int.lt_or_le (al (vx l i) (nx l i) (nx l i)) (al (vx l i) (nx l i) p) with x | x
    · exact (no_behind v (nx_mem hi) ha hp (aff_al (vx l i) (nx l i)) (by rw [turn_swap']; omega) (by rw [al_l]; exact hD) x).elim
    · exact x
theorem edge_only {l : List Pt} (v : Val l) {i k : Nat} (hi : i < l.length) (hk : k < l.length) (hik : k ≠ i) {p : Pt} (hp : 0 ≤ posP l p) (h0 : turn (vx l i) (nx l i) p = 0) (n1 : p ≠ vx l i) (n2 : p ≠ nx l i) : 0 < turn (vx l k) (nx l k) p := by
  have h3 := v.lo
  have hn := edge_ne v hi
  have hD := al_pos hn
  obtain ⟨_, s1, s2⟩ := edge_seg v hi hp h0
  have t1 : 0 < al (vx l i) (nx l i) p := by
    rcases Int.lt_or_eq_of_le s1 with x | x
    · exact x
    · exact absurd (line_same hn h0 (turn_l _ _) (by rw [al_l, ← x])) n1
  have t2 : al (vx l i) (nx l i) p < al (vx l i) (nx l i) (nx l i) := by
    rcases Int.lt_or_eq_of_le s2 with x | x
    · exact x
    · exact absurd (line_same hn h0 (turn_r _ _) x) n2
  have e := on_line (f := al (vx l i) (nx l i)) (aff_al _ _) (aff_turn (vx l k) (nx l k)) h0
  rw [al_l, Int.sub_zero] at e
  have c0 := v.nonneg hk hi
  have c1 := v.nonneg hk (v.nxl hi)
  change 0 ≤ turn (vx l k) (nx l k) (nx l i) at c1
  have some : 0 < turn (vx l k) (nx l k) (vx l i) ∨ 0 < turn (vx l k) (nx l k) (nx l i) := by
    by_cases x : i = (k + 1) % l.length
    · right
      refine v.left k hk _ (v.nxl hi) ?_ ?_
      · intro e; rw [x] at e
        have m : ((k + 1) % l.length + 1) % l.length = (k + 2) % l.length := by rw [Nat.mod_add_mod]
        rw [m] at e
        rcases Nat.lt_or_ge (k + 2) l.length with y | y
        · rw [Nat.mod_eq_of_lt y] at e; omega
        · rw [Nat.mod_eq_sub_mod y, Nat.mod_eq_of_lt (by omega)] at e; omega
      · intro e; exact v.nx_ne hi (by rw [e]; exact x.symm)
    · left; exact v.left k hk i hi (fun e => hik e.symm) x
  have m1 := Int.mul_nonneg c0 (by omega : 0 ≤ al (vx l i) (nx l i) (nx l i) - al (vx l i) (nx l i) p)
  have m2 := Int.mul_nonneg c1 (by omega : 0 ≤ al (vx l i) (nx l i) p - 0)
  rw [Int.mul_comm] at e
  refine pos_of_mul hD ?_
  rcases some with x | x
  · have := Int.mul_pos x (by omega : 0 < al (vx l i) (nx l i) (nx l i) - al (vx l i) (nx l i) p); omega
  · have := Int.mul_pos x (by omega : 0 < al (vx l i) (nx l i) p - 0); omega
/-- On an edge, without its end. -/
def HalfP (l : List Pt) (i : Nat) (p : Pt) : Prop := turn (vx l i) (nx l i) p = 0 ∧ 0 ≤ posP l p ∧ p ≠ nx l i
instance (l : List Pt) (i : Nat) (p : Pt) : Decidable (HalfP l i p) := by unfold HalfP; infer_instance
theorem half_one {l : List Pt} (v : Val l) {i k : Nat} (hi : i < l.length) (hk : k < l.length) {p : Pt} (h1 : HalfP l i p) (h2 : HalfP l k p) : i = k := by
  by_cases e : i = k
  · exact e
  · have pi : p = vx l i := by
      rcases Decidable.em (p = vx l i) with x | x
      · exact x
      · have := edge_only v hi hk (fun h => e h.symm) h1.2.1 h1.1 x h1.2.2; have := h2.1; omega
    have pk : p = vx l k := by
      rcases Decidable.em (p = vx l k) with x | x
      · exact x
      · have := edge_only v hk hi e h2.2.1 h2.1 x h2.2.2; have := h1.1; omega
    exact v.inj hi hk (by rw [← pi, pk])
theorem half_ex {l : List Pt} (v : Val l) {p : Pt} (h : posP l p = 0) : ∃ i, i < l.length ∧ HalfP l i p := by
  have hge := pos_ge.1 (by omega : 0 ≤ posP l p)
  rcases Classical.em (∃ j, j < l.length ∧ turn (vx l j) (nx l j) p = 0) with ⟨j, hj, e⟩ | x
  · by_cases n : p = nx l j
    · refine ⟨(j + 1) % l.length, v.nxl hj, ?_, by omega, ?_⟩
      · rw [n]; exact turn_l _ _
      · rw [n]; exact edge_ne v (v.nxl hj)
    · exact ⟨j, hj, e, by omega, n⟩
  · exfalso
    have : posP l p = 1 := pos_one.2 fun i hi => by
      have := hge i hi
      rcases Int.lt_or_eq_of_le this with y | y
      · exact y
      · exact absurd ⟨i, hi, y.symm⟩ x
    omega
theorem half_sum {l : List Pt} (v : Val l) (p : Pt) : (if posP l p = 0 then (1 : Int) else 0) = sm (fun i => if HalfP l i p then 1 else 0) l.length := by
  by_cases h : posP l p = 0
  · obtain ⟨i, hi, hh⟩ := half_ex v h
    rw [if_pos h, sm_one hi, if_pos hh]
    intro k hk hki; rw [if_neg]; intro h2; exact hki (half_one v hk hi h2 hh)
  · rw [if_neg h, sm_zero]
    intro i hi; rw [if_neg]
    rintro ⟨h1, h2, _⟩
    have : posP l p ≠ 1 := fun e => by have := pos_one.1 e i hi; omega
    have := pos_cases l p; omega
theorem grid_sm (F : Nat → Pt → Int) : ∀ n, grid (fun p => sm (fun k => F k p) n) = sm (fun k => grid (F k)) n
  | 0 => grid_zero fun _ _ => rfl
  | n + 1 => by
    rw [sm, ← grid_sm F n, ← grid_add]; rfl
/-- The places of an edge without its end. -/
theorem half_count {l : List Pt} (v : Val l) {i : Nat} (hi : i < l.length) : grid (fun p => if HalfP l i p then 1 else 0) = stp (vx l i) (nx l i) := by
  have hn := edge_ne v hi
  have oa := v.on i hi
  have ob := v.on _ (v.nxl hi)
  change On (nx l i) at ob
  have hpa : 0 ≤ posP l (vx l i) := at_corner v hi
  have hpb : 0 ≤ posP l (nx l i) := at_corner v (v.nxl hi)
  have hseg := fun p (hp : 0 ≤ posP l p) h0 => edge_seg v hi (p := p) hp h0
  have hH : ∀ p, HalfP l i p ↔ turn (vx l i) (nx l i) p = 0 ∧ 0 ≤ posP l p ∧ p ≠ nx l i := fun p => Iff.rfl
  generalize vx l i = a at *
  generalize nx l i = b at *
  obtain ⟨g, hg⟩ : ∃ g : Nat, g = Int.gcd (b.1 - a.1) (b.2 - a.2) := ⟨_, rfl⟩
  have hg0 : 0 < g := by
    rcases Nat.eq_zero_or_pos g with h | h
    · exfalso; rw [hg, Int.gcd_eq_zero_iff] at h
      exact hn (Prod.ext (by omega) (by omega))
    · exact h
  obtain ⟨d1, e1⟩ : (g : Int) ∣ b.1 - a.1 := by rw [hg]; exact Int.gcd_dvd_left ..
  obtain ⟨d2, e2⟩ : (g : Int) ∣ b.2 - a.2 := by rw [hg]; exact Int.gcd_dvd_right ..
  obtain ⟨u, w, huw⟩ : ∃ u w : Int, d1 * u + d2 * w = 1 := by
    obtain ⟨x, y, h⟩ := bez (b.1 - a.1) (b.2 - a.2)
    refine ⟨x, y, ?_⟩
    rw [← hg, e1, e2] at h
    have : (g : Int) * (d1 * x + d2 * y) = g * 1 := by rw [Int.mul_one]; grind
    exact Int.eq_of_mul_eq_mul_left (by omega) this
  have hd : ¬ (d1 = 0 ∧ d2 = 0) := fun ⟨h1, h2⟩ => by rw [h1, h2, Int.zero_mul, Int.zero_mul] at huw; omega
  have hsq : 0 < d1 * d1 + d2 * d2 := by
    have := sq_nonneg d1; have := sq_nonneg d2
    by_cases h1 : d1 = 0
    · have := sq_pos (x := d2) (fun h2 => hd ⟨h1, h2⟩); omega
    · have := sq_pos h1; omega
  let q : Nat → Pt := fun k => (a.1 + k * d1, a.2 + k * d2)
  have q_inj : ∀ k k' : Nat, q k = q k' → k = k' := fun k k' h => by
    have h1 := congrArg Prod.fst h
    have h2 := congrArg Prod.snd h
    change a.1 + (k : Int) * d1 = a.1 + (k' : Int) * d1 at h1
    change a.2 + (k : Int) * d2 = a.2 + (k' : Int) * d2 at h2
    by_cases z : d1 = 0
    · have := Int.eq_of_mul_eq_mul_right (fun h => hd ⟨z, h⟩) (by omega : (k : Int) * d2 = k' * d2); omega
    · have := Int.eq_of_mul_eq_mul_right z (by omega : (k : Int) * d1 = k' * d1); omega
  have q_turn : ∀ k : Nat, turn a b (q k) = 0 := fun k => by
    show (b.1 - a.1) * (a.2 + k * d2 - a.2) - (b.2 - a.2) * (a.1 + k * d1 - a.1) = 0
    rw [e1, e2]; grind
  have q_al : ∀ k : Nat, al a b (q k) = k * (g * (d1 * d1 + d2 * d2)) := fun k => by
    show (a.1 + k * d1 - a.1) * (b.1 - a.1) + (a.2 + k * d2 - a.2) * (b.2 - a.2) = _
    rw [e1, e2]; grind
  have b_q : q g = b := Prod.ext (by show a.1 + g * d1 = b.1; omega) (by show a.2 + g * d2 = b.2; omega)
  have gs : 0 < (g : Int) * (d1 * d1 + d2 * d2) := Int.mul_pos (by omega) hsq
  have q_seg : ∀ k : Nat, k ≤ g → SegP a b (q k) := fun k hk => by
    refine ⟨q_turn k, by rw [q_al]; exact Int.mul_nonneg (by omega) (Int.le_of_lt gs), ?_⟩
    have eb : al a b b = al a b (q g) := by rw [b_q]
    rw [eb, q_al, q_al]
    exact Int.mul_le_mul_of_nonneg_right (by omega) (Int.le_of_lt gs)
  have q_on : ∀ k : Nat, k < g → On (q k) := fun k hk => by
    have s := (seg_iff hn).2 (q_seg k (by omega))
    unfold segB at s
    simp only [Bool.and_eq_true, decide_eq_true_eq] at s
    have := oa.x0; have := oa.x1; have := oa.y0; have := oa.y1; have := ob.x0; have := ob.x1; have := ob.y0; have := ob.y1
    exact ⟨by omega, by omega, by omega, by omega⟩
  have key : ∀ p, HalfP l i p ↔ ∃ k, k < g ∧ p = q k := fun p => by
    rw [hH]
    constructor
    · rintro ⟨h0, hp, hne⟩
      obtain ⟨_, s1, s2⟩ := hseg p hp h0
      have cr : d1 * (p.2 - a.2) = d2 * (p.1 - a.1) := by
        have : (g : Int) * (d1 * (p.2 - a.2)) = g * (d2 * (p.1 - a.1)) := by
          unfold turn at h0; rw [e1, e2] at h0; grind
        exact Int.eq_of_mul_eq_mul_left (by omega) this
      obtain ⟨k, hk⟩ : ∃ k : Int, k = u * (p.1 - a.1) + w * (p.2 - a.2) := ⟨_, rfl⟩
      have k1 : k * d1 = p.1 - a.1 := by
        have : k * d1 = (d1 * u + d2 * w) * (p.1 - a.1) := by rw [hk]; grind
        rw [this, huw, Int.one_mul]
      have k2 : k * d2 = p.2 - a.2 := by
        have : k * d2 = (d1 * u + d2 * w) * (p.2 - a.2) := by rw [hk]; grind
        rw [this, huw, Int.one_mul]
      have alp : al a b p = k * (g * (d1 * d1 + d2 * d2)) := by
        show (p.1 - a.1) * (b.1 - a.1) + (p.2 - a.2) * (b.2 - a.2) = _
        rw [← k1, ← k2, e1, e2]; grind
      have alb : al a b b = g * (g * (d1 * d1 + d2 * d2)) := by rw [← q_al, b_q]
      have kn : 0 ≤ k := by
        rcases Int.lt_or_le k 0 with x | x
        · have := Int.mul_pos (by omega : 0 < -k) gs; rw [Int.neg_mul] at this; omega
        · exact x
      obtain ⟨m, rfl⟩ : ∃ m : Nat, k = m := ⟨k.toNat, by omega⟩
      have pq : p = q m := Prod.ext (by show p.1 = a.1 + m * d1; omega) (by show p.2 = a.2 + m * d2; omega)
      refine ⟨m, ?_, pq⟩
      rcases Nat.lt_or_ge m g with x | x
      · exact x
      · exfalso
        rcases Nat.lt_or_eq_of_le x with y | y
        · have := Int.mul_pos (by omega : (0 : Int) < m - g) gs
          rw [Int.sub_mul] at this; omega
        · exact hne (by rw [pq, ← y, b_q])
    · rintro ⟨k, hk, rfl⟩
      exact ⟨q_turn k, conv hn hpa hpb (q_seg k (by omega)), fun h => by have := q_inj k g (by rw [h, b_q]); omega⟩
  have pt : ∀ p, On p → (if HalfP l i p then (1 : Int) else 0) = sm (fun k => if p = q k then 1 else 0) g := fun p _ => by
    by_cases h : HalfP l i p
    · obtain ⟨k, hk, e⟩ := (key p).1 h
      rw [if_pos h, sm_one hk, if_pos e]
      intro j hj hjk; rw [if_neg]; intro e2; exact hjk (q_inj _ _ (by rw [← e2, e]))
    · rw [if_neg h, sm_zero]
      intro k hk; rw [if_neg]; intro e; exact h ((key p).2 ⟨k, hk, e⟩)
  rw [grid_congr pt, grid_sm (fun k p => if p = q k then 1 else 0)]
  have : sm (fun k => grid fun p => if p = q k then (1 : Int) else 0) g = sm (fun _ => 1) g := sm_congr fun k hk => grid_one (q_on k hk) 1
  rw [this, sm_const, Int.mul_one]
  unfold stp; rw [← hg]
/-- The number of places on the boundary. -/
theorem bnd_count {l : List Pt} (v : Val l) : grid (fun p => if posP l p = 0 then 1 else 0) = sumE l stp l.length := by
  rw [grid_congr (fun p _ => half_sum v p), grid_sm (fun i p => if HalfP l i p then 1 else 0)]
  exact sm_congr fun i hi => half_count v hi
theorem bnd_ge {l : List Pt} (v : Val l) : (l.length : Int) ≤ sumE l stp l.length := by
  have := sm_const 1 l.length
  have h2 : sm (fun _ => (1 : Int)) l.length ≤ sumE l stp l.length := sm_le fun i hi => by
    have hn := edge_ne v hi
    unfold stp
    have : Int.gcd ((nx l i).1 - (vx l i).1) ((nx l i).2 - (vx l i).2) ≠ 0 := fun h => by
      rw [Int.gcd_eq_zero_iff] at h
      exact hn (Prod.ext (by omega) (by omega))
    omega
  omega
/-- Pick's theorem, as the program uses it. -/
structure PickF (l : List Pt) (n m : Int) : Prop where
  area : areaP l = 2 * n + m - 2
  inn : innP l = n
  bnd : bndP l = m
  len : (l.length : Int) ≤ m
theorem pick_f {l : List Pt} (v : Val l) : PickF l (grid fun p => if insP l p = 1 then 1 else 0) (grid fun p => if insP l p = 0 then 1 else 0) := by
  have w := (valB_iff l).2 v
  have e1 : (grid fun p => if insP l p = 1 then (1 : Int) else 0) = grid fun p => if posP l p = 1 then 1 else 0 := grid_congr fun p hp => by rw [insP_eq v hp]
  have e0 : (grid fun p => if insP l p = 0 then (1 : Int) else 0) = grid fun p => if posP l p = 0 then 1 else 0 := grid_congr fun p hp => by rw [insP_eq v hp]
  have k := pick v
  have kk : KP l = 2 * (grid fun p => if posP l p = 1 then (1 : Int) else 0) + grid fun p => if posP l p = 0 then (1 : Int) else 0 := by
    unfold KP
    rw [← grid_mul, ← grid_add]
    exact grid_congr fun p _ => by rcases pos_cases l p with h | h | h <;> rw [h] <;> rfl
  have b := bnd_count v
  rw [e1, e0]
  refine ⟨?_, ?_, ?_, ?_⟩
  · unfold areaP; rw [if_pos w]; omega
  · unfold innP; rw [if_pos w]
    have : sumE l crs l.length - sumE l stp l.length + 2 = 2 * (grid fun p => if posP l p = 1 then (1 : Int) else 0) := by omega
    rw [this, Int.mul_tdiv_cancel_left _ (by omega)]
  · unfold bndP; rw [if_pos w]; exact b.symm
  · rw [b]; exact bnd_ge v
end Pln
