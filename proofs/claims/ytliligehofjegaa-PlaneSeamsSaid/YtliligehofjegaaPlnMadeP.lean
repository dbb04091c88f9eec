/- Plain mathematics of layer 7: the polygons that integers determine. Nothing of the program. -/
import Derived.Test.YtliligehofjegaaPlnHull
namespace Pln

/-- An index out of any integer. -/
def pkI (c n : Int) : Int := if c < 0 then (-(c + 1)).tmod n else c.tmod n
theorem pkI_in {c n : Int} (h : 0 < n) : 0 ≤ pkI c n ∧ pkI c n < n := by
  unfold pkI
  split
  · rw [Int.tmod_eq_emod_of_nonneg (by omega)]; exact ⟨Int.emod_nonneg _ (by omega), Int.emod_lt_of_pos _ h⟩
  · rw [Int.tmod_eq_emod_of_nonneg (by omega)]; exact ⟨Int.emod_nonneg _ (by omega), Int.emod_lt_of_pos _ h⟩
def mkP (low high : Int) (p : Pt) : Pt := (low + pkI p.1 (high - low + 1), pkI p.2 41)
def someP (x : List Pt) (low high : Int) : List Pt := (x.take 8).map (mkP low high)
def triP (low high : Int) : List Pt := [(low, 10), (high, 10), (low, 20)]
def baseP (x : List Pt) (low high : Int) : List Pt := if 3 ≤ (hulP (someP x low high)).length then hulP (someP x low high) else triP low high
def turnK (x : List Pt) (n : Nat) : Nat := if x.length = 0 then 0 else (pkI ((vx x 0).1.tdiv 41) n).toNat
def madeP (x : List Pt) (low high : Int) : List Pt := rot (baseP x low high) (turnK x (baseP x low high).length)

theorem mkP_on {low high : Int} (h0 : 0 ≤ low) (h1 : low < high) (h2 : high ≤ 40) (p : Pt) : On (mkP low high p) := by
  have a := pkI_in (c := p.1) (n := high - low + 1) (by omega)
  have b := pkI_in (c := p.2) (n := 41) (by omega)
  exact ⟨by show 0 ≤ low + _; omega, by show low + _ ≤ 40; omega, by show 0 ≤ pkI _ _; omega, by show pkI _ _ ≤ 40; omega⟩
theorem someP_ons {low high : Int} (h0 : 0 ≤ low) (h1 : low < high) (h2 : high ≤ 40) (x : List Pt) : Ons (someP x low high) := fun p hp => by
  obtain ⟨q, _, rfl⟩ := List.mem_map.1 hp; exact mkP_on h0 h1 h2 q
theorem someP_len (x : List Pt) (low high : Int) : (someP x low high).length = min 8 x.length := by unfold someP; rw [List.length_map, List.length_take]
theorem triP_val {low high : Int} (h0 : 0 ≤ low) (h1 : low < high) (h2 : high ≤ 40) : Val (triP low high) := by
  refine ⟨by simp [triP], by simp [triP], fun i hi => ?_, fun i hi j hj a b => ?_⟩
  · have : i = 0 ∨ i = 1 ∨ i = 2 := by simp [triP] at hi; omega
    rcases this with rfl | rfl | rfl <;> exact ⟨by simp [triP, vx]; try omega, by simp [triP, vx]; try omega, by simp [triP, vx], by simp [triP, vx]⟩
  · have hi' : i = 0 ∨ i = 1 ∨ i = 2 := by simp [triP] at hi; omega
    have hj' : j = 0 ∨ j = 1 ∨ j = 2 := by simp [triP] at hj; omega
    rcases hi' with rfl | rfl | rfl <;> rcases hj' with rfl | rfl | rfl <;> simp [triP, vx, nx, turn] at a b ⊢ <;> omega
theorem hulP_none : (hulP ([] : List Pt)).length = 1 := rfl
theorem baseP_val {low high : Int} (h0 : 0 ≤ low) (h1 : low < high) (h2 : high ≤ 40) (x : List Pt) : Val (baseP x low high) := by
  unfold baseP
  split
  · rename_i h
    by_cases hx : (someP x low high).length = 0
    · rw [List.length_eq_zero_iff.1 hx, hulP_none] at h; omega
    · exact hul_val (by omega) (by rw [someP_len]; omega) (someP_ons h0 h1 h2 x) h
  · exact triP_val h0 h1 h2
theorem turnK_le {x : List Pt} {n : Nat} (h : 0 < n) : turnK x n ≤ n := by
  unfold turnK
  split
  · omega
  · have := pkI_in (c := (vx x 0).1.tdiv 41) (n := n) (by omega); omega
theorem madeP_val {low high : Int} (h0 : 0 ≤ low) (h1 : low < high) (h2 : high ≤ 40) (x : List Pt) : Val (madeP x low high) := by
  have v := baseP_val h0 h1 h2 x
  exact rot_val v (turnK_le (by have := v.lo; omega))
end Pln
