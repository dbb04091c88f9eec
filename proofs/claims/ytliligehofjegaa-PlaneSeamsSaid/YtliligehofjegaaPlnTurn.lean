/- The contracts of turn, cross and the functions that are handed on. -/
import Derived.Test.YtliligehofjegaaPlnKit
namespace Go.Proofs.Ytliligehofjegaa
open Go.RowKit Pln

theorem mul_in {x y m : Int} (h1 : -m ≤ x) (h2 : x ≤ m) (h3 : -m ≤ y) (h4 : y ≤ m) : -(m * m) ≤ x * y ∧ x * y ≤ m * m := by
  have a := Int.mul_nonneg (by omega : 0 ≤ m - x) (by omega : 0 ≤ m + y)
  have b := Int.mul_nonneg (by omega : 0 ≤ m + x) (by omega : 0 ≤ m - y)
  have c := Int.mul_nonneg (by omega : 0 ≤ m - x) (by omega : 0 ≤ m - y)
  have d := Int.mul_nonneg (by omega : 0 ≤ m + x) (by omega : 0 ≤ m + y)
  constructor <;> grind
/-- A place on the map, or on the map of twice the size. -/
structure Sml (p : Pt) : Prop where
  x0 : 0 ≤ p.1
  x1 : p.1 ≤ 81
  y0 : 0 ≤ p.2
  y1 : p.2 ≤ 81
theorem on_sml {p : Pt} (h : On p) : Sml p := ⟨h.x0, by have := h.x1; omega, h.y0, by have := h.y1; omega⟩
theorem turn_in {a b c : Pt} (ha : Sml a) (hb : Sml b) (hc : Sml c) : -13122 ≤ turn a b c ∧ turn a b c ≤ 13122 := by
  have := ha.x0; have := ha.x1; have := ha.y0; have := ha.y1
  have := hb.x0; have := hb.x1; have := hb.y0; have := hb.y1
  have := hc.x0; have := hc.x1; have := hc.y0; have := hc.y1
  unfold turn
  have m1 := mul_in (x := b.1 - a.1) (y := c.2 - a.2) (m := 81) (by omega) (by omega) (by omega) (by omega)
  have m2 := mul_in (x := b.2 - a.2) (y := c.1 - a.1) (m := 81) (by omega) (by omega) (by omega) (by omega)
  omega
set_option maxRecDepth 100000 in
set_option maxHeartbeats 1000000 in
theorem turn_w (a b c : Pt) (ha : Sml a) (hb : Sml b) (hc : Sml c) (w : World) :
    Calls Try.prog 69 #[ev a b, pv c] w fun e w' => e = .returned (.int .i64 (turn a b c)) ∧ Below w.heap.size w w' := by
  obtain ⟨a1, a2⟩ := a; obtain ⟨b1, b2⟩ := b; obtain ⟨c1, c2⟩ := c
  obtain ⟨h1, h2, h3, h4⟩ := ha; obtain ⟨k1, k2, k3, k4⟩ := hb; obtain ⟨j1, j2, j3, j4⟩ := hc
  dsimp only at h1 h2 h3 h4 k1 k2 k3 k4 j1 j2 j3 j4
  obtain ⟨m1, m2⟩ := mul_in (x := b1 - a1) (y := c2 - a2) (m := 81) (by omega) (by omega) (by omega) (by omega)
  obtain ⟨m3, m4⟩ := mul_in (x := b2 - a2) (y := c1 - a1) (m := 81) (by omega) (by omega) (by omega) (by omega)
  unfold ev pv turn
  dsimp only
  go_enter Try.func69, Try.ntmps69
  go_wp2
  go_ret
  exact ⟨rfl, ((Below.refl _ _).alloc (Nat.le_refl _) _).alloc (by simp) _⟩
theorem crs_in {a b : Pt} (ha : Sml a) (hb : Sml b) : -13122 ≤ crs a b ∧ crs a b ≤ 13122 := by
  have := ha.x0; have := ha.x1; have := ha.y0; have := ha.y1
  have := hb.x0; have := hb.x1; have := hb.y0; have := hb.y1
  unfold crs
  have m1 := mul_in (x := a.1) (y := b.2) (m := 81) (by omega) (by omega) (by omega) (by omega)
  have m2 := mul_in (x := a.2) (y := b.1) (m := 81) (by omega) (by omega) (by omega) (by omega)
  omega
set_option maxRecDepth 100000 in
set_option maxHeartbeats 1000000 in
theorem cross_w (a b : Pt) (ha : Sml a) (hb : Sml b) (w : World) :
    Calls Try.prog 51 #[ev a b] w fun e w' => e = .returned (.int .i64 (crs a b)) ∧ Below w.heap.size w w' := by
  obtain ⟨a1, a2⟩ := a; obtain ⟨b1, b2⟩ := b
  obtain ⟨h1, h2, h3, h4⟩ := ha; obtain ⟨k1, k2, k3, k4⟩ := hb
  dsimp only at h1 h2 h3 h4 k1 k2 k3 k4
  obtain ⟨m1, m2⟩ := mul_in (x := a1) (y := b2) (m := 81) (by omega) (by omega) (by omega) (by omega)
  obtain ⟨m3, m4⟩ := mul_in (x := a2) (y := b1) (m := 81) (by omega) (by omega) (by omega) (by omega)
  unfold ev crs
  dsimp only
  go_enter Try.func51, Try.ntmps51
  go_wp2
  go_ret
  exact ⟨rfl, (Below.refl _ _).alloc (Nat.le_refl _) _⟩
theorem kp5 {w0 W W' : World} {b : Nat} {x1 x2 x3 x4 : Value} (h : W.cell? ⟨b, 0, none⟩ = some x1 ∧ W.cell? ⟨b, 1, none⟩ = some x2 ∧ W.cell? ⟨b, 2, none⟩ = some x3 ∧ W.cell? ⟨b, 3, none⟩ = some x4 ∧ Below w0.heap.size w0 W) (hB : Below W.heap.size W W') :
    W'.cell? ⟨b, 0, none⟩ = some x1 ∧ W'.cell? ⟨b, 1, none⟩ = some x2 ∧ W'.cell? ⟨b, 2, none⟩ = some x3 ∧ W'.cell? ⟨b, 3, none⟩ = some x4 ∧ Below w0.heap.size w0 W' :=
  ⟨keptBelow hB h.1, keptBelow hB h.2.1, keptBelow hB h.2.2.1, keptBelow hB h.2.2.2.1, belowStep h.2.2.2.2 hB⟩
set_option maxRecDepth 100000 in
set_option maxHeartbeats 1000000 in
theorem mx_w (a b : Pt) (ha : Sml a) (hb : Sml b) (w : World) :
    Calls Try.prog 57 #[ev a b] w fun e w' => e = .returned (.int .i64 ((a.1 + b.1) * crs a b)) ∧ Below w.heap.size w w' := by
  have hc := fun w => cross_w a b ha hb w
  have hi := crs_in ha hb
  obtain ⟨a1, a2⟩ := a; obtain ⟨b1, b2⟩ := b
  obtain ⟨h1, h2, h3, h4⟩ := ha; obtain ⟨k1, k2, k3, k4⟩ := hb
  dsimp only at h1 h2 h3 h4 k1 k2 k3 k4
  unfold ev at hc ⊢
  dsimp only at hc ⊢
  generalize crs (a1, a2) (b1, b2) = t at *
  obtain ⟨t1, t2⟩ := hi
  obtain ⟨m1, m2⟩ := mul_in (x := a1 + b1) (y := t) (m := 13122) (by omega) (by omega) (by omega) (by omega)
  have HC := Lib.hid hc
  clear hc
  have e1 : IntKind.i64.wrap (a1 + b1) = a1 + b1 := IntWalk.i64_in _ (by omega)
  have e2 : IntKind.i64.wrap ((a1 + b1) * t) = (a1 + b1) * t := IntWalk.i64_in _ (by omega)
  go_enter Try.func57, Try.ntmps57
  go_wp2_with fail
  go_region_held3 (fun w' => w'.cell? ⟨w.heap.size, 0, none⟩ = some (.int .i64 a1) ∧ w'.cell? ⟨w.heap.size, 1, none⟩ = some (.int .i64 a2) ∧ w'.cell? ⟨w.heap.size, 2, none⟩ = some (.int .i64 b1) ∧ w'.cell? ⟨w.heap.size, 3, none⟩ = some (.int .i64 b2) ∧ Below w.heap.size w w')
    (first | exact ⟨cell_rowN w _ _ 0 rfl, cell_rowN w _ _ 1 rfl, cell_rowN w _ _ 2 rfl, cell_rowN w _ _ 3 rfl, (alloc_below w _).drew⟩ | exact kp5 (by assumption) hB3)
    ((go_at_call 51; (with_reducible refine (HC.out _).mono ?_); rintro e u3 ⟨rfl, hB3⟩))
  all_goals
    have HH : Hid (Below w.heap.size w u3) := And.right (And.right (And.right (And.right (by assumption))))
    go_wp2_with fail
    go_ret
    exact ⟨rfl, HH.out⟩
set_option maxRecDepth 100000 in
set_option maxHeartbeats 1000000 in
theorem my_w (a b : Pt) (ha : Sml a) (hb : Sml b) (w : World) :
    Calls Try.prog 58 #[ev a b] w fun e w' => e = .returned (.int .i64 ((a.2 + b.2) * crs a b)) ∧ Below w.heap.size w w' := by
  have hc := fun w => cross_w a b ha hb w
  have hi := crs_in ha hb
  obtain ⟨a1, a2⟩ := a; obtain ⟨b1, b2⟩ := b
  obtain ⟨h1, h2, h3, h4⟩ := ha; obtain ⟨k1, k2, k3, k4⟩ := hb
  dsimp only at h1 h2 h3 h4 k1 k2 k3 k4
  unfold ev at hc ⊢
  dsimp only at hc ⊢
  generalize crs (a1, a2) (b1, b2) = t at *
  obtain ⟨t1, t2⟩ := hi
  obtain ⟨m1, m2⟩ := mul_in (x := a2 + b2) (y := t) (m := 13122) (by omega) (by omega) (by omega) (by omega)
  have HC := Lib.hid hc
  clear hc
  have e1 : IntKind.i64.wrap (a2 + b2) = a2 + b2 := IntWalk.i64_in _ (by omega)
  have e2 : IntKind.i64.wrap ((a2 + b2) * t) = (a2 + b2) * t := IntWalk.i64_in _ (by omega)
  go_enter Try.func58, Try.ntmps58
  go_wp2_with fail
  go_region_held3 (fun w' => w'.cell? ⟨w.heap.size, 0, none⟩ = some (.int .i64 a1) ∧ w'.cell? ⟨w.heap.size, 1, none⟩ = some (.int .i64 a2) ∧ w'.cell? ⟨w.heap.size, 2, none⟩ = some (.int .i64 b1) ∧ w'.cell? ⟨w.heap.size, 3, none⟩ = some (.int .i64 b2) ∧ Below w.heap.size w w')
    (first | exact ⟨cell_rowN w _ _ 0 rfl, cell_rowN w _ _ 1 rfl, cell_rowN w _ _ 2 rfl, cell_rowN w _ _ 3 rfl, (alloc_below w _).drew⟩ | exact kp5 (by assumption) hB3)
    ((go_at_call 51; (with_reducible refine (HC.out _).mono ?_); rintro e u3 ⟨rfl, hB3⟩))
  all_goals
    have HH : Hid (Below w.heap.size w u3) := And.right (And.right (And.right (And.right (by assumption))))
    go_wp2_with fail
    go_ret
    exact ⟨rfl, HH.out⟩
end Go.Proofs.Ytliligehofjegaa
