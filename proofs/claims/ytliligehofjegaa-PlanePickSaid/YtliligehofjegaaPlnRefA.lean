/- The contracts of the reference's Turn and far, of pick and at. -/
import Derived.Test.YtliligehofjegaaPlnRun
namespace Go.Proofs.Ytliligehofjegaa
open Go.RowKit Go.Shelf Pln

set_option maxRecDepth 100000 in
set_option maxHeartbeats 1000000 in
theorem turnR_w (a b c : Pt) (ha : Sml a) (hb : Sml b) (hc : Sml c) (w : World) :
    Calls Try.prog 27 #[pv a, pv b, pv c] w fun e w' => e = .returned (.int .i64 (turn a b c)) ∧ Below w.heap.size w w' := by
  obtain ⟨a1, a2⟩ := a; obtain ⟨b1, b2⟩ := b; obtain ⟨c1, c2⟩ := c
  obtain ⟨h1, h2, h3, h4⟩ := ha; obtain ⟨k1, k2, k3, k4⟩ := hb; obtain ⟨j1, j2, j3, j4⟩ := hc
  dsimp only at h1 h2 h3 h4 k1 k2 k3 k4 j1 j2 j3 j4
  obtain ⟨m1, m2⟩ := mul_in (x := b1 - a1) (y := c2 - a2) (m := 81) (by omega) (by omega) (by omega) (by omega)
  obtain ⟨m3, m4⟩ := mul_in (x := b2 - a2) (y := c1 - a1) (m := 81) (by omega) (by omega) (by omega) (by omega)
  unfold pv turn
  dsimp only
  go_enter Try.func27, Try.ntmps27
  go_wp2
  go_ret
  exact ⟨rfl, (((Below.refl _ _).alloc (Nat.le_refl _) _).alloc (by simp) _).alloc (by simp; omega) _⟩
theorem far_in {a b : Pt} (ha : Sml a) (hb : Sml b) : 0 ≤ far a b ∧ far a b ≤ 13122 := by
  have := ha.x0; have := ha.x1; have := ha.y0; have := ha.y1
  have := hb.x0; have := hb.x1; have := hb.y0; have := hb.y1
  unfold far
  have m1 := mul_in (x := a.1 - b.1) (y := a.1 - b.1) (m := 81) (by omega) (by omega) (by omega) (by omega)
  have m2 := mul_in (x := a.2 - b.2) (y := a.2 - b.2) (m := 81) (by omega) (by omega) (by omega) (by omega)
  have := sq_nonneg (a.1 - b.1); have := sq_nonneg (a.2 - b.2)
  omega
set_option maxRecDepth 100000 in
set_option maxHeartbeats 1000000 in
theorem far_w (a b : Pt) (ha : Sml a) (hb : Sml b) (w : World) :
    Calls Try.prog 68 #[pv a, pv b] w fun e w' => e = .returned (.int .i64 (far a b)) ∧ Below w.heap.size w w' := by
  obtain ⟨a1, a2⟩ := a; obtain ⟨b1, b2⟩ := b
  obtain ⟨h1, h2, h3, h4⟩ := ha; obtain ⟨k1, k2, k3, k4⟩ := hb
  dsimp only at h1 h2 h3 h4 k1 k2 k3 k4
  obtain ⟨m1, m2⟩ := mul_in (x := a1 - b1) (y := a1 - b1) (m := 81) (by omega) (by omega) (by omega) (by omega)
  obtain ⟨m3, m4⟩ := mul_in (x := a2 - b2) (y := a2 - b2) (m := 81) (by omega) (by omega) (by omega) (by omega)
  unfold pv far
  dsimp only
  go_enter Try.func68, Try.ntmps68
  go_wp2
  go_ret
  exact ⟨rfl, ((Below.refl _ _).alloc (Nat.le_refl _) _).alloc (by simp) _⟩
/-- An index out of any integer. -/
def pkN (c n : Int) : Int := if c < 0 then (-(c + 1)).tmod n else c.tmod n
theorem pkN_in {c n : Int} (h : 0 < n) : 0 ≤ pkN c n ∧ pkN c n < n := by
  unfold pkN
  split
  · rw [Int.tmod_eq_emod_of_nonneg (by omega)]; exact ⟨Int.emod_nonneg _ (by omega), Int.emod_lt_of_pos _ h⟩
  · rw [Int.tmod_eq_emod_of_nonneg (by omega)]; exact ⟨Int.emod_nonneg _ (by omega), Int.emod_lt_of_pos _ h⟩
set_option maxRecDepth 100000 in
set_option maxHeartbeats 1000000 in
theorem pickR_w (c n : Int) (hc : I64 c) (hn : 0 < n) (hn2 : n ≤ 1000) (w : World) :
    Calls Try.prog 32 #[.int .i64 c, .int .i64 n] w fun e w' => e = .returned (.int .i64 (pkN c n)) ∧ w = w' := by
  obtain ⟨c1, c2⟩ := hc
  by_cases h : c < 0
  · have hp : pkN c n = -((c + 1).tmod n) := by unfold pkN; rw [if_pos h, Int.neg_tmod]
    rw [hp]
    clear hp
    go_enter Try.func32, Try.ntmps32
    go_wp2
    go_ret
    exact ⟨rfl, rfl⟩
  · have h' : 0 ≤ c := by omega
    have hp : pkN c n = c % n := by unfold pkN; rw [if_neg h, Int.tmod_eq_emod_of_nonneg h']
    rw [hp]
    clear hp
    go_enter Try.func32, Try.ntmps32
    go_wp2
    go_ret
    exact ⟨rfl, rfl⟩
set_option maxRecDepth 100000 in
set_option maxHeartbeats 1000000 in
theorem pickL_w (c n : Int) (hc : I64 c) (hn : 0 < n) (hn2 : n ≤ 1000) (w : World) :
    Calls Try.prog 20 #[.int .i64 c, .int .i64 n] w fun e w' => e = .returned (.int .i64 (pkN c n)) ∧ w = w' := by
  obtain ⟨c1, c2⟩ := hc
  by_cases h : c < 0
  · have hp : pkN c n = -((c + 1).tmod n) := by unfold pkN; rw [if_pos h, Int.neg_tmod]
    rw [hp]
    clear hp
    go_enter Try.func20, Try.ntmps20
    go_wp2
    go_ret
    exact ⟨rfl, rfl⟩
  · have h' : 0 ≤ c := by omega
    have hp : pkN c n = c % n := by unfold pkN; rw [if_neg h, Int.tmod_eq_emod_of_nonneg h']
    rw [hp]
    clear hp
    go_enter Try.func20, Try.ntmps20
    go_wp2
    go_ret
    exact ⟨rfl, rfl⟩
set_option maxHeartbeats 1000000 in
theorem at_w (x y : Int) (w : World) :
    Calls Try.prog 17 #[.int .i64 x, .int .i64 y] w fun e w' => e = .returned (pv (x, y)) ∧ Below w.heap.size w w' := by
  unfold pv
  go_enter Try.func17, Try.ntmps17
  go_wp2
  refine bodyPost_ret (v := .agg #[.int .i64 x, .int .i64 y]) (by simp [results, Try.results17, go_sem]) rfl ⟨rfl, ?_⟩
  exact (Below.refl _ _).alloc (Nat.le_refl _) _
end Go.Proofs.Ytliligehofjegaa
