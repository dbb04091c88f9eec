/- Plain mathematics of layer 7: sums over the map; what an edge contributes to Pick's theorem. Nothing of the program. -/
import Derived.Test.YtliligehofjegaaPlnGravP
import Derived.Test.YtliligehofjegaaPlnSeamP
namespace Pln

/-- A sum over all places of the map. -/
def grid (F : Pt → Int) : Int := sm (fun x => sm (fun y => F ((x : Int), (y : Int))) 41) 41
theorem on_nat {x y : Nat} (hx : x < 41) (hy : y < 41) : On ((x : Int), (y : Int)) := ⟨by dsimp only; omega, by dsimp only; omega, by dsimp only; omega, by dsimp only; omega⟩
theorem grid_congr {F G : Pt → Int} (h : ∀ p, On p → F p = G p) : grid F = grid G :=
  sm_congr fun x hx => sm_congr fun y hy => h _ (on_nat hx hy)
theorem grid_add (F G : Pt → Int) : grid (fun p => F p + G p) = grid F + grid G := by
  unfold grid; rw [← sm_add]; exact sm_congr fun x _ => sm_add _ _ _
theorem grid_mul (c : Int) (F : Pt → Int) : grid (fun p => c * F p) = c * grid F := by
  unfold grid; rw [← sm_mul]; exact sm_congr fun x _ => sm_mul _ _ _
theorem grid_neg (F : Pt → Int) : grid (fun p => -F p) = -grid F := by
  have := grid_mul (-1) F
  rw [show (fun p => -1 * F p) = fun p => -F p from funext fun p => by omega] at this
  omega
theorem grid_zero {F : Pt → Int} (h : ∀ p, On p → F p = 0) : grid F = 0 := by
  rw [grid_congr h]; unfold grid
  rw [sm_zero]; intro i _; exact sm_zero fun _ _ => rfl
theorem grid_one {q : Pt} (h : On q) (c : Int) : grid (fun p => if p = q then c else 0) = c := by
  obtain ⟨h0, h1, h2, h3⟩ := h
  obtain ⟨q1, q2⟩ := q
  dsimp only at h0 h1 h2 h3
  unfold grid
  rw [sm_one (k := q1.toNat) (by omega), sm_one (k := q2.toNat) (by omega)]
  · dsimp only; rw [if_pos (Prod.ext (by dsimp only; omega) (by dsimp only; omega))]
  · intro j _ hj; dsimp only; rw [if_neg]; intro e; have := congrArg Prod.snd e; dsimp only at this; omega
  · intro i _ hi
    refine sm_zero fun j _ => ?_
    dsimp only
    rw [if_neg]; intro e; have := congrArg Prod.fst e; dsimp only at this; omega
/-- Sums backwards. -/
theorem sm_rev (f : Nat → Int) : ∀ n, sm (fun i => f (n - 1 - i)) n = sm f n
  | 0 => rfl
  | n + 1 => by
    rw [sm_head, show n + 1 - 1 - 0 = n by omega]
    have : sm (fun i => f (n + 1 - 1 - (i + 1))) n = sm (fun i => f (n - 1 - i)) n := sm_congr fun i hi => by rw [show n + 1 - 1 - (i + 1) = n - 1 - i by omega]
    rw [this, sm_rev f n, sm]; omega

section
variable {a b : Pt}
def sg (a b : Pt) (x y : Int) : Int := Int.sign (turn a b (x, y))
theorem sg_back (x y : Int) : sg a b (a.1 + b.1 - x) y = -sg a b x (a.2 + b.2 - y) := by
  unfold sg
  rw [← Int.sign_neg]
  congr 1
  unfold turn; grind
theorem sg_high (hab : a.1 < b.1) {x y : Int} (h1 : a.1 ≤ x) (h2 : x ≤ b.1) (ha : a.2 < y) (hb : b.2 < y) : sg a b x y = 1 := by
  unfold sg
  rw [Int.sign_eq_one_iff_pos]
  have e : turn a b (x, y) = (b.1 - x) * (y - a.2) + (x - a.1) * (y - b.2) := by unfold turn; grind
  rw [e]
  rcases Int.lt_or_eq_of_le h1 with h | h
  · have m1 := Int.mul_pos (by omega : 0 < x - a.1) (by omega : 0 < y - b.2)
    have m2 := Int.mul_nonneg (by omega : 0 ≤ b.1 - x) (by omega : 0 ≤ y - a.2)
    omega
  · have m1 := Int.mul_pos (by omega : 0 < b.1 - x) (by omega : 0 < y - a.2)
    have m2 := Int.mul_nonneg (by omega : 0 ≤ x - a.1) (by omega : 0 ≤ y - b.2)
    omega
theorem sg_low (hab : a.1 < b.1) {x y : Int} (h1 : a.1 ≤ x) (h2 : x ≤ b.1) (ha : y < a.2) (hb : y < b.2) : sg a b x y = -1 := by
  have := sg_high hab (x := a.1 + b.1 - x) (y := a.2 + b.2 - y) (by omega) (by omega) (by omega) (by omega)
  rw [sg_back, show a.2 + b.2 - (a.2 + b.2 - y) = y by omega] at this
  omega
def sh (g : Int → Int) (j : Int) : Int := sm (fun i => g (j + i)) 41
theorem sh_step (g : Int → Int) (j : Int) : sh g (j + 1) + g j = sh g j + g (j + 41) := by
  have h1 := sm_head (fun i => g (j + i)) 41
  have h2 : sm (fun i => g (j + i)) (41 + 1) = sm (fun i => g (j + i)) 41 + g (j + (41 : Nat)) := rfl
  have h3 : sm (fun i => g (j + ((i + 1 : Nat) : Int))) 41 = sh g (j + 1) := sm_congr fun i _ => by rw [show j + ((i + 1 : Nat) : Int) = j + 1 + i by omega]
  rw [h3] at h1
  unfold sh at h1 ⊢
  rw [h2] at h1
  have h5 : g (j + ((0 : Nat) : Int)) = g j := by simp
  rw [h5] at h1
  have h4 : ((41 : Nat) : Int) = 41 := rfl
  rw [h4] at h1
  omega
theorem col (ha : On a) (hb : On b) (hab : a.1 < b.1) {x : Int} (h1 : a.1 ≤ x) (h2 : x ≤ b.1) :
    sm (fun y => sg a b x y) 41 + sm (fun y => sg a b (a.1 + b.1 - x) y) 41 = 2 * (40 - a.2 - b.2) := by
  have := ha.y0; have := ha.y1; have := hb.y0; have := hb.y1
  have e1 : sm (fun y => sg a b x y) 41 = sh (sg a b x) 0 := sm_congr fun i _ => by rw [Int.zero_add]
  have e2 : sm (fun y => sg a b (a.1 + b.1 - x) y) 41 = -sh (sg a b x) (a.2 + b.2 - 40) := by
    unfold sh
    rw [← sm_rev (fun i => sg a b x (a.2 + b.2 - 40 + i))]
    have := sm_mul (-1) (fun i => sg a b x (a.2 + b.2 - 40 + ((41 - 1 - i : Nat) : Int))) 41
    rw [show ∀ z : Int, -z = -1 * z from fun z => by omega, ← this]
    exact sm_congr fun i hi => by rw [sg_back, show a.2 + b.2 - 40 + ((41 - 1 - i : Nat) : Int) = a.2 + b.2 - i by omega]; omega
  rw [e1, e2]
  have up : ∀ t : Nat, (t : Int) ≤ a.2 + b.2 - 40 → sh (sg a b x) t = sh (sg a b x) 0 + 2 * t := by
    intro t
    induction t with
    | zero => intro _; simp
    | succ t ih =>
      intro ht
      have i1 := ih (by omega)
      have st := sh_step (sg a b x) t
      rw [sg_high hab h1 h2 (y := (t : Int) + 41) (by omega) (by omega), sg_low hab h1 h2 (y := (t : Int)) (by omega) (by omega)] at st
      push_cast
      omega
  have down : ∀ t : Nat, (t : Int) ≤ 40 - a.2 - b.2 → sh (sg a b x) (-t) = sh (sg a b x) 0 - 2 * t := by
    intro t
    induction t with
    | zero => intro _; simp
    | succ t ih =>
      intro ht
      have i1 := ih (by omega)
      have st := sh_step (sg a b x) (-((t + 1 : Nat) : Int))
      rw [sg_high hab h1 h2 (y := -((t + 1 : Nat) : Int) + 41) (by omega) (by omega), sg_low hab h1 h2 (y := -((t + 1 : Nat) : Int)) (by omega) (by omega), show -((t + 1 : Nat) : Int) + 1 = -(t : Int) by omega] at st
      omega
  rcases Int.le_total 40 (a.2 + b.2) with h | h
  · have := up (a.2 + b.2 - 40).toNat (by omega)
    rw [show (((a.2 + b.2 - 40).toNat : Nat) : Int) = a.2 + b.2 - 40 by omega] at this
    omega
  · have := down (40 - a.2 - b.2).toNat (by omega)
    rw [show -(((40 - a.2 - b.2).toNat : Nat) : Int) = a.2 + b.2 - 40 by omega] at this
    omega
end
/-- How often an edge counts at a column. -/
def wd (a b : Pt) (x : Int) : Int := ((Int.sign (b.1 - x) - Int.sign (a.1 - x)).natAbs : Int)
def wE (a b p : Pt) : Int := wd a b p.1 * sg a b p.1 p.2
theorem wd_swap (a b : Pt) (x : Int) : wd b a x = wd a b x := by unfold wd; omega
theorem wE_swap (a b p : Pt) : wE b a p = -wE a b p := by
  unfold wE sg
  rw [wd_swap, turn_swap, Int.sign_neg, Int.mul_neg]
theorem sign_vals (z : Int) : (0 < z ∧ z.sign = 1) ∨ (z = 0 ∧ z.sign = 0) ∨ (z < 0 ∧ z.sign = -1) := by
  rcases Int.lt_trichotomy z 0 with h | h | h
  · exact .inr (.inr ⟨h, Int.sign_eq_neg_one_of_neg h⟩)
  · exact .inr (.inl ⟨h, by rw [h]; rfl⟩)
  · exact .inl ⟨h, Int.sign_eq_one_of_pos h⟩
theorem wd_val {a b : Pt} (hab : a.1 < b.1) (x : Int) : wd a b x = if x < a.1 ∨ b.1 < x then 0 else if x = a.1 ∨ x = b.1 then 1 else 2 := by
  unfold wd
  rcases sign_vals (b.1 - x) with ⟨h, e⟩ | ⟨h, e⟩ | ⟨h, e⟩ <;> rcases sign_vals (a.1 - x) with ⟨k, f⟩ | ⟨k, f⟩ | ⟨k, f⟩ <;> rw [e, f] <;> (split <;> try split) <;> omega
theorem wd_sum {a b : Pt} (hab : a.1 < b.1) {D : Nat} (hD : b.1 = a.1 + D) : sm (fun i => wd a b (a.1 + i)) (D + 1) = 2 * D := by
  obtain ⟨E, rfl⟩ : ∃ E, D = E + 1 := ⟨D - 1, by omega⟩
  rw [sm_head, sm]
  have h0 : wd a b (a.1 + (0 : Nat)) = 1 := by rw [wd_val hab, if_neg (by omega), if_pos (by omega)]
  have h1 : wd a b (a.1 + ((E + 1 : Nat) : Int)) = 1 := by rw [wd_val hab, if_neg (by omega), if_pos (by omega)]
  have h2 : sm (fun i => wd a b (a.1 + ((i + 1 : Nat) : Int))) E = sm (fun _ => 2) E := sm_congr fun i hi => by rw [wd_val hab, if_neg (by omega), if_neg (by omega)]
  rw [h0, h1, h2, sm_const]
  push_cast; omega
theorem trap_right {a b : Pt} (ha : On a) (hb : On b) (hab : a.1 < b.1) : grid (wE a b) = 2 * (b.1 - a.1) * (40 - a.2 - b.2) := by
  have := ha.x0; have := ha.x1; have := hb.x0; have := hb.x1
  obtain ⟨A, hA⟩ : ∃ A : Nat, a.1 = A := ⟨a.1.toNat, by omega⟩
  obtain ⟨D, hD⟩ : ∃ D : Nat, b.1 = a.1 + D := ⟨(b.1 - a.1).toNat, by omega⟩
  let f : Int → Int := fun x => sm (fun y => sg a b x y) 41
  have e0 : grid (wE a b) = sm (fun x => wd a b x * f x) 41 := sm_congr fun x _ => sm_mul (wd a b x) (fun y => sg a b x y) 41
  have e1 : sm (fun x => wd a b x * f x) 41 = sm (fun i => wd a b (a.1 + i) * f (a.1 + i)) (D + 1) := by
    have s1 := sm_split (fun x : Nat => wd a b x * f x) A ((D + 1) + (41 - A - (D + 1)))
    rw [show A + ((D + 1) + (41 - A - (D + 1))) = 41 by omega] at s1
    have z1 : sm (fun x : Nat => wd a b x * f x) A = 0 := sm_zero fun i hi => by rw [wd_val hab, if_pos (by omega), Int.zero_mul]
    have s2 := sm_split (fun i : Nat => wd a b ((A + i : Nat) : Int) * f ((A + i : Nat) : Int)) (D + 1) (41 - A - (D + 1))
    have z2 : sm (fun i : Nat => wd a b ((A + (D + 1 + i) : Nat) : Int) * f ((A + (D + 1 + i) : Nat) : Int)) (41 - A - (D + 1)) = 0 := sm_zero fun i hi => by rw [wd_val hab, if_pos (by omega), Int.zero_mul]
    rw [s1, z1, s2, z2, Int.zero_add, Int.add_zero]
    exact sm_congr fun i _ => by rw [show ((A + i : Nat) : Int) = a.1 + i by omega]
  have e2 : sm (fun i => wd a b (a.1 + i) * f (a.1 + i)) (D + 1) = sm (fun i => wd a b (a.1 + i) * f (a.1 + b.1 - (a.1 + i))) (D + 1) := by
    rw [← sm_rev]
    refine sm_congr fun i hi => ?_
    have e : a.1 + ((D + 1 - 1 - i : Nat) : Int) = a.1 + b.1 - (a.1 + i) := by omega
    have ew : wd a b (a.1 + b.1 - (a.1 + i)) = wd a b (a.1 + i) := by
      rw [wd_val hab, wd_val hab]
      split <;> split <;> (try split) <;> (try split) <;> omega
    rw [e, ew]
  have e3 : sm (fun i => wd a b (a.1 + i) * f (a.1 + i)) (D + 1) + sm (fun i => wd a b (a.1 + i) * f (a.1 + b.1 - (a.1 + i))) (D + 1) = 2 * (40 - a.2 - b.2) * (2 * D) := by
    rw [← sm_add, ← wd_sum hab hD, ← sm_mul]
    refine sm_congr fun i hi => ?_
    have c := col ha hb hab (x := a.1 + i) (by omega) (by omega)
    change f (a.1 + i) + f (a.1 + b.1 - (a.1 + i)) = _ at c
    rw [← Int.mul_add, c, Int.mul_comm]
  rw [e0, e1]
  rw [← e2] at e3
  have e4 : 2 * (b.1 - a.1) * (40 - a.2 - b.2) = (40 - a.2 - b.2) * (2 * D) := by rw [hD, show a.1 + (D : Int) - a.1 = D by omega, Int.mul_comm]
  have e5 : 2 * (40 - a.2 - b.2) * (2 * (D : Int)) = 2 * ((40 - a.2 - b.2) * (2 * D)) := Int.mul_assoc _ _ _
  omega
theorem trap {a b : Pt} (ha : On a) (hb : On b) : grid (wE a b) = 2 * (b.1 - a.1) * (40 - a.2 - b.2) := by
  rcases Int.lt_trichotomy a.1 b.1 with h | h | h
  · exact trap_right ha hb h
  · rw [grid_zero fun p _ => ?_]
    · rw [h, Int.sub_self]; simp
    · unfold wE wd; rw [h, Int.sub_self]; simp
  · have := trap_right hb ha h
    rw [grid_congr (fun p _ => wE_swap a b p), grid_neg] at this
    have e : 2 * (b.1 - a.1) * (40 - a.2 - b.2) = -(2 * (a.1 - b.1) * (40 - b.2 - a.2)) := by grind
    omega
end Pln
