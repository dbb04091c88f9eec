/- Several texts of layers 7 and 8, one behind the other: UntCutsP. -/
import Derived.Test.YtcamncipkofgkaaDoorUV1
import Derived.Test.YtcamncipkofgkaaDoorUM10
/- UntCutsP: Plain mathematics of UnitCuts. -/
namespace Unt
open Pln
/-- A unit with another shape. -/
def shpU (u : U) (l : List Pt) : U := { u with shape := l }
structure CutU (u a b : U) (P Q : Pt) : Prop where
  va : ValU a
  vb : ValU b
  vol : volP a + volP b = volP u
  wt : wtP a + wtP b = wtP u
  mom : momP a + momP b = momP u
  over : overU a b = false
  over1 : overU a u = true
  over2 : overU u b = true
  tou : touU a b = some (P, Q)
  bck : bckP a b = u.back
  frt : frtP a b = u.front
theorem crs_anti (p q : Pt) : crs p q + crs q p = 0 := by unfold crs; grind
theorem mxs_anti (p q : Pt) : (p.1 + q.1) * crs p q + (q.1 + p.1) * crs q p = 0 := by unfold crs; grind
theorem cut_u {u : U} (v : ValU u) {i k : Nat} {a b : List Pt} (h : CutAll u.shape i k a b) : CutU u (shpU u a) (shpU u b) (vx u.shape k) (vx u.shape i) := by
  have va : ValU (shpU u a) := ⟨v.id0, v.id1, v.k0, v.k1, v.m0, v.m1, v.b0, v.bf, v.f1, h.va⟩
  have vb : ValU (shpU u b) := ⟨v.id0, v.id1, v.k0, v.k1, v.m0, v.m1, v.b0, v.bf, v.f1, h.vb⟩
  have e1 := h.sum crs crs_anti
  have e2 := h.sum (fun p q => (p.1 + q.1) * crs p q) mxs_anti
  have hc : ∀ s t : U, ValU s → ValU t → s.back = u.back → t.back = u.back → s.front = u.front → t.front = u.front → comU s t = true := fun s t vs vt h1 h2 h3 h4 => by
    unfold comU bckP frtP
    rw [(valU_iff s).2 vs, (valU_iff t).2 vt, h1, h2, h3, h4]
    have := v.bf
    simp only [Bool.and_self, Bool.true_and, decide_eq_true_eq]
    omega
  refine ⟨va, vb, ?_, ?_, ?_, ?_, ?_, ?_, ?_, ?_, ?_⟩
  · rw [vol_eq va, vol_eq vb, vol_eq v]
    show sumE a crs a.length * (u.front - u.back) + sumE b crs b.length * (u.front - u.back) = _
    rw [← e1, Int.add_mul]
  · rw [wt_eq va, wt_eq vb, wt_eq v]
    show 3 * (sumE a crs a.length * (u.front - u.back)) * dens u.mat + 3 * (sumE b crs b.length * (u.front - u.back)) * dens u.mat = _
    rw [← e1, Int.add_mul, Int.mul_add, Int.add_mul]
  · rw [mom_eq va, mom_eq vb, mom_eq v]
    show sumE a (fun p q => (p.1 + q.1) * crs p q) a.length * (u.front - u.back) * dens u.mat + sumE b (fun p q => (p.1 + q.1) * crs p q) b.length * (u.front - u.back) * dens u.mat = _
    rw [← e2, Int.add_mul, Int.add_mul]
  · unfold overU
    rw [show overP (shpU u a).shape (shpU u b).shape = false from h.over, Bool.and_false]
  · unfold overU
    rw [hc _ _ va v rfl rfl rfl rfl, show overP (shpU u a).shape u.shape = true from h.over1]; rfl
  · unfold overU
    rw [hc _ _ v vb rfl rfl rfl rfl, show overP u.shape (shpU u b).shape = true from h.over2]; rfl
  · unfold touU
    rw [hc _ _ va vb rfl rfl rfl rfl, if_pos rfl]
    exact h.seam
  · exact Int.max_self _
  · exact Int.min_self _
theorem adj_cases {n i k : Nat} (hn : 3 ≤ n) (hi : i < n) (hk : k < n) (h : AdjP n i k) : (i : Int) - k = 0 ∨ (i : Int) - k = 1 ∨ (i : Int) - k = -1 ∨ (i : Int) - k = n - 1 ∨ (i : Int) - k = 1 - n := by
  have e1 : i + 1 < n ∨ i + 1 = n := by omega
  have e2 : k + 1 < n ∨ k + 1 = n := by omega
  unfold AdjP at h
  rcases h with h | h | h
  · omega
  · rcases e1 with e1 | e1
    · rw [Nat.mod_eq_of_lt e1] at h; omega
    · rw [e1, Nat.mod_self] at h; omega
  · rcases e2 with e2 | e2
    · rw [Nat.mod_eq_of_lt e2] at h; omega
    · rw [e2, Nat.mod_self] at h; omega
theorem cut_adj {l : List Pt} (v : Val l) {i k : Nat} (hi : i < l.length) (hk : k < l.length) (h : AdjP l.length i k) : cutP l i k = none := by
  rcases cut_parts v hi hk with ⟨_, x⟩ | ⟨x, _⟩
  · exact x
  · exact absurd h x
end Unt
namespace Go.Proofs.YtcamncipkofgkaaDoor
open Go.RowKit Go.Shelf Pln Unt
theorem cutS_none {l : List Pt} (v : Val l) {i k : Nat} (h : cutP l i k = none) (s : Value) (w : World) (hv : PtsAt w s l) (hi : i < l.length) (hk : k < l.length) :
    Calls Tryd.prog 39 #[s, .int .i64 (i : Int), .int .i64 (k : Int)] w fun e w' => e = .returned (.tuple #[.slice none 0 0, .slice none 0 0, .int .i64 70]) ∧ Below w.heap.size w w' := by
  have hl : Len l := by have := v.hi; unfold Len; omega
  have := v.hi
  refine (cut_w l hl i k ⟨by omega, by omega⟩ ⟨by omega, by omega⟩ s w hv).mono ?_
  rintro e w' (⟨a, b, r, t, h', _⟩ | ⟨_, rfl, hB⟩)
  · rw [h] at h'; cases h'
  · exact ⟨rfl, hB⟩
theorem cutS_some {u : U} (v : ValU u) {i k : Nat} {a b : List Pt} (h : cutP u.shape i k = some (a, b)) (va : ValU (shpU u a)) (vb : ValU (shpU u b)) (s : Value) (w : World) (hv : PtsAt w s u.shape) (hi : i < u.shape.length) (hk : k < u.shape.length) :
    Calls Tryd.prog 39 #[s, .int .i64 (i : Int), .int .i64 (k : Int)] w fun e w' => ∃ ra ka rb kb, e = .returned (.tuple #[.slice ra a.length ka, .slice rb b.length kb, .int .i64 0]) ∧ UAt w' (.slice ra a.length ka) (shpU u a) ∧ UAt w' (.slice rb b.length kb) (shpU u b) ∧ Below w.heap.size w w' := by
  have hl : Len u.shape := by have := v.v.hi; unfold Len; omega
  have := v.v.hi
  refine (cut_w u.shape hl i k ⟨by omega, by omega⟩ ⟨by omega, by omega⟩ s w hv).mono ?_
  rintro e w' (⟨a', b', r, t, h', rfl, ha, hb, hB⟩ | ⟨h', _⟩)
  · rw [h] at h'
    cases h'
    obtain ⟨ra, ka, rfl⟩ : ∃ x k, r = .slice x a.length k := by obtain ⟨⟨x, k, h, _⟩, _⟩ := ha; exact ⟨x, k, h⟩
    obtain ⟨rb, kb, rfl⟩ : ∃ x k, t = .slice x b.length k := by obtain ⟨⟨x, k, h, _⟩, _⟩ := hb; exact ⟨x, k, h⟩
    exact ⟨ra, ka, rb, kb, rfl, ⟨valU_ok va, ha⟩, ⟨valU_ok vb, hb⟩, hB⟩
  · rw [h] at h'; cases h'
end Go.Proofs.YtcamncipkofgkaaDoor
