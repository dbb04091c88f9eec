/- Several texts of layers 7 and 8, one behind the other: UntMovP, UntMovC, UntWtB. -/
import Derived.Test.YtcamncipkofgkaaDoorUM10
/- UntMovP: Plain mathematics of UnitMoves. -/
namespace Unt
open Pln
theorem mov_undo {u : U} {X Y : Int} (v : ValU u) (v' : ValU (mvU u X Y)) : movU (mvU u X Y) (-X) (-Y) = some u := by
  unfold movU
  rw [if_pos ((valU_iff _).2 v')]
  have h : moveP (mvU u X Y).shape (-X) (-Y) = some u.shape := by
    show moveP (shf u.shape X Y) (-X) (-Y) = some u.shape
    have wc : valB (shf u.shape X Y) = true := (valB_iff _).2 v'.v
    unfold moveP
    rw [if_pos wc, shf_back, if_pos]
    rw [List.all_eq_true]
    intro p hp
    obtain ⟨i, hi, rfl⟩ := mem_vx hp
    exact (onB_iff _).2 (v.v.on i hi)
  rw [h]
  rfl
theorem mov_none {u : U} {X Y : Int} (v : ValU u) : movU u X Y = none ↔ moveP u.shape X Y = none := by
  unfold movU
  rw [if_pos ((valU_iff _).2 v)]
  cases moveP u.shape X Y <;> simp
theorem mov_shape {u c : U} {X Y : Int} (v : ValU u) (h : movU u X Y = some c) : moveP u.shape X Y = some c.shape := by
  unfold movU at h
  rw [if_pos ((valU_iff _).2 v)] at h
  cases hm : moveP u.shape X Y with
  | none => rw [hm] at h; cases h
  | some l => rw [hm] at h; cases h; rfl
end Unt
/- UntMovC: Move's contract, case by case. -/
namespace Go.Proofs.YtcamncipkofgkaaDoor
open Go.RowKit Go.Shelf Pln Unt
theorem moveU_some {u : U} {X Y : Int} {c : U} (vu : ValU u) (h : movU u X Y = some c) (hx : I64 X) (hy : I64 Y) (s : Value) (w : World) (h1 : UAt w s u) :
    Calls Tryd.prog 30 #[uv u s, .int .i64 X, .int .i64 Y] w fun e w' => ∃ a k, e = .returned (.tuple #[.agg #[.int .i64 u.id, .int .i64 u.kind, .int .i64 u.mat, .slice a u.shape.length k, .int .i64 u.back, .int .i64 u.front], .int .i64 0]) ∧ UAt w' (.slice a u.shape.length k) (mvU u X Y) ∧ Below w.heap.size w w' := by
  obtain ⟨rfl, vc⟩ := mov_some vu h
  refine (moveU_w u s X Y hx hy w h1).mono ?_
  rintro e w' (⟨m, r, h', rfl, hp, hB⟩ | ⟨h', _⟩)
  · rw [h] at h'
    cases h'
    obtain ⟨a, k, rfl⟩ : ∃ a k, r = .slice a u.shape.length k := by
      obtain ⟨⟨a, k, h, _⟩, _⟩ := hp
      refine ⟨a, k, ?_⟩
      rw [h]
      show Value.slice a (shf u.shape X Y).length k = _
      rw [shf_len]
    exact ⟨a, k, rfl, ⟨valU_ok vc, hp⟩, hB⟩
  · rw [h] at h'; cases h'
theorem moveU_none {u : U} {X Y : Int} (h : movU u X Y = none) (hx : I64 X) (hy : I64 Y) (s : Value) (w : World) (h1 : UAt w s u) :
    Calls Tryd.prog 30 #[uv u s, .int .i64 X, .int .i64 Y] w fun e w' => e = .returned (.tuple #[.agg #[.int .i64 0, .int .i64 0, .int .i64 0, .slice none 0 0, .int .i64 0, .int .i64 0], .int .i64 80]) ∧ Below w.heap.size w w' := by
  refine (moveU_w u s X Y hx hy w h1).mono ?_
  rintro e w' (⟨m, r, h', _⟩ | ⟨_, rfl, hB⟩)
  · rw [h] at h'; cases h'
  · exact ⟨rfl, hB⟩
theorem moveP_some {l m : List Pt} {X Y : Int} (hl : Len l) (h : moveP l X Y = some m) (hx : I64 X) (hy : I64 Y) (v : Value) (w : World) (hv : PtsAt w v l) :
    Calls Tryd.prog 41 #[v, .int .i64 X, .int .i64 Y] w fun e w' => ∃ r, e = .returned (.tuple #[r, .int .i64 0]) ∧ Below w.heap.size w w' := by
  refine (move_w l hl X Y hx hy v w hv).mono ?_
  rintro e w' (⟨m', r, h', rfl, _, hB⟩ | ⟨h', _⟩)
  · exact ⟨r, rfl, hB⟩
  · rw [h] at h'; cases h'
theorem moveP_none {l : List Pt} {X Y : Int} (hl : Len l) (h : moveP l X Y = none) (hx : I64 X) (hy : I64 Y) (v : Value) (w : World) (hv : PtsAt w v l) :
    Calls Tryd.prog 41 #[v, .int .i64 X, .int .i64 Y] w fun e w' => ∃ r, e = .returned (.tuple #[r, .int .i64 70]) ∧ Below w.heap.size w w' := by
  refine (move_w l hl X Y hx hy v w hv).mono ?_
  rintro e w' (⟨m', r, h', _⟩ | ⟨_, rfl, hB⟩)
  · rw [h] at h'; cases h'
  · exact ⟨_, rfl, hB⟩
end Go.Proofs.YtcamncipkofgkaaDoor
namespace Go.Proofs.YtcamncipkofgkaaDoor
open Go.RowKit Go.Shelf Pln Unt
theorem moveU_back {u : U} {X Y : Int} (vu : ValU u) (vc : ValU (mvU u X Y)) (hx : I64 (-X)) (hy : I64 (-Y)) (s : Value) (w : World) (h1 : UAt w s (mvU u X Y)) :
    Calls Tryd.prog 30 #[uv (mvU u X Y) s, .int .i64 (-X), .int .i64 (-Y)] w fun e w' => ∃ a k, e = .returned (.tuple #[.agg #[.int .i64 u.id, .int .i64 u.kind, .int .i64 u.mat, .slice a u.shape.length k, .int .i64 u.back, .int .i64 u.front], .int .i64 0]) ∧ UAt w' (.slice a u.shape.length k) u ∧ Below w.heap.size w w' := by
  have h := mov_undo (X := X) (Y := Y) vu vc
  refine (moveU_w (mvU u X Y) s (-X) (-Y) hx hy w h1).mono ?_
  rintro e w' (⟨m, r, h', rfl, hp, hB⟩ | ⟨h', _⟩)
  · rw [h] at h'
    cases h'
    obtain ⟨a, k, rfl⟩ : ∃ a k, r = .slice a u.shape.length k := by
      obtain ⟨⟨a, k, h, _⟩, _⟩ := hp
      exact ⟨a, k, h⟩
    exact ⟨a, k, rfl, ⟨valU_ok vu, hp⟩, hB⟩
  · rw [h] at h'; cases h'
end Go.Proofs.YtcamncipkofgkaaDoor
/- UntWtB: Bounds of weights and moments. -/
namespace Go.Proofs.YtcamncipkofgkaaDoor
open Go.RowKit Go.Shelf Pln Unt
theorem wt_in {u : U} (v : ValU u) : 0 < wtP u ∧ wtP u ≤ 1000000000000 := by
  refine ⟨wt_pos v, ?_⟩
  have h1 := area_bd v.v
  have h2 : 3 ≤ dens u.mat ∧ dens u.mat ≤ 10 := dens_bd v.m0 v.m1
  have h3 : -(3200000000 * 8) ≤ areaP u.shape * (u.front - u.back) ∧ areaP u.shape * (u.front - u.back) ≤ 3200000000 * 8 := mul_bd3 (by omega) (by omega) (by have := v.bf; omega) (by have := v.b0; have := v.f1; omega) (by omega)
  have h4 := mul_bd3 (x := 3 * (areaP u.shape * (u.front - u.back))) (n := dens u.mat) (M := 3 * (3200000000 * 8)) (N := 10) (by omega) (by omega) (by omega) (by omega) (by omega)
  unfold wtP
  rw [if_pos ((valU_iff u).2 v)]
  omega
theorem mom_in {u : U} (v : ValU u) : 0 < momP u ∧ momP u ≤ 40000000000000 := by
  have h1 := mom_left v (c := 0) (fun i hi => (v.v.on i hi).x0)
  have h2 := mom_right v (c := 40) (fun i hi => (v.v.on i hi).x1)
  have h3 := wt_in v
  omega
theorem vol_in {u : U} (v : ValU u) : -25600000000 ≤ volP u ∧ volP u ≤ 25600000000 := by
  have h1 := area_bd v.v
  unfold volP
  rw [if_pos ((valU_iff u).2 v)]
  have h3 : -(3200000000 * 8) ≤ areaP u.shape * (u.front - u.back) ∧ areaP u.shape * (u.front - u.back) ≤ 3200000000 * 8 := mul_bd3 (by omega) (by omega) (by have := v.bf; omega) (by have := v.b0; have := v.f1; omega) (by omega)
  omega
end Go.Proofs.YtcamncipkofgkaaDoor
