/- The contract of readBoth. -/
import Derived.Test.YtggkbeppfpgkaaaGreatDoorIntRead2
namespace Go.Proofs.YtggkbeppfpgkaaaGreatDoor
open Go.RowKit Putlog

/-- The boxes of two results. -/
structure BoxR (w W : World) : Prop where
  r : W.heap[w.heap.size]? = some (.cells #[.bool false, .slice none 0 0] 47 (0, 0))
  s : W.heap[w.heap.size + 1]? = some (.cells #[.bool false, .slice none 0 0] 47 (0, 0))
  bel : Below w.heap.size w W
theorem boxR_made (w : World) : BoxR w ((w.alloc (.cells #[.bool false, .slice none 0 0] 47)).alloc (.cells #[.bool false, .slice none 0 0] 47)) := by
  have h := box2_made w (.bool false) (.slice none 0 0)
  have h1 := heap_alloc_new w (.cells #[.bool false, .slice none 0 0] 47)
  exact ⟨heap_below (alloc_below _ _) h1, h.r, h.bel⟩
theorem BoxR.via {w W W' : World} (hB : Below W.heap.size W W') (h : BoxR w W) : BoxR w W' := ⟨heap_below hB h.r, heap_below hB h.s, belowVia hB h.bel⟩
theorem BoxR.res {w W : World} {r1 r2 s1 s2 : Value} (h : BoxR w W) :
    (Fin4 W w.heap.size (w.heap.size + 1) r1 r2 s1 s2).heap[w.heap.size]? = some (.cells #[r1, r2] 47 (0, 0)) ∧
    (Fin4 W w.heap.size (w.heap.size + 1) r1 r2 s1 s2).heap[w.heap.size + 1]? = some (.cells #[s1, s2] 47 (0, 0)) := by
  have h1 := heap_setCell_same W _ 0 _ _ r1 h.r
  have h2 := heap_setCell_same _ _ 1 _ _ r2 h1
  constructor
  · unfold Fin4
    rw [heap_setCell_other _ _ _ _ (show w.heap.size ≠ w.heap.size + 1 by omega), heap_setCell_other _ _ _ _ (show w.heap.size ≠ w.heap.size + 1 by omega)]
    exact h2
  · have h3 : ((W.setCell ⟨w.heap.size, 0, none⟩ r1).setCell ⟨w.heap.size, 1, none⟩ r2).heap[w.heap.size + 1]? = some (.cells #[.bool false, .slice none 0 0] 47 (0, 0)) := by
      rw [heap_setCell_other _ _ _ _ (show w.heap.size + 1 ≠ w.heap.size by omega), heap_setCell_other _ _ _ _ (show w.heap.size + 1 ≠ w.heap.size by omega)]
      exact h.s
    have h4 := heap_setCell_same _ _ 0 _ _ s1 h3
    exact heap_setCell_same _ _ 1 _ _ s2 h4
theorem BoxR.cells {w W : World} {r1 r2 s1 s2 : Value} {a : Option Addr} {l : List Int} (h : BoxR w W) (hc : CellsAt W a l) : CellsAt (Fin4 W w.heap.size (w.heap.size + 1) r1 r2 s1 s2) a l := by
  have h1 := cells_res (v := r1) (v2 := r2) hc h.r
  have h3 : ((W.setCell ⟨w.heap.size, 0, none⟩ r1).setCell ⟨w.heap.size, 1, none⟩ r2).heap[w.heap.size + 1]? = some (.cells #[.bool false, .slice none 0 0] 47 (0, 0)) := by
    rw [heap_setCell_other _ _ _ _ (show w.heap.size + 1 ≠ w.heap.size by omega), heap_setCell_other _ _ _ _ (show w.heap.size + 1 ≠ w.heap.size by omega)]
    exact h.s
  exact cells_res h1 h3
theorem BoxR.fin {w W : World} {r1 r2 s1 s2 : Value} (h : BoxR w W) : Below w.heap.size w (Fin4 W w.heap.size (w.heap.size + 1) r1 r2 s1 s2) := below_res (below_res h.bel (Nat.le_refl _) _ _) (by omega) _ _
theorem heap_cells {W : World} {p : Nat} {x y : Value} (h : W.heap[p]? = some (.cells #[x, y] 47 (0, 0))) : W.cell? ⟨p, 0, none⟩ = some x ∧ W.cell? ⟨p, 1, none⟩ = some y ∧ W.frozen? ⟨p, 0, none⟩ = false ∧ W.frozen? ⟨p, 1, none⟩ = false :=
  ⟨(cell_of_row W p 0 _ _ _ h).trans rfl, (cell_of_row W p 1 _ _ _ h).trans rfl, frozen_of_row W p 0 _ _ h, frozen_of_row W p 1 _ _ h⟩
set_option maxRecDepth 100000 in
set_option maxHeartbeats 4000000 in
theorem both_ok (x y : Int) (hx : Fits x) (hy : Fits y) (w : World) :
    Calls Tryz.prog 36 #[.string (intB x), .string (intB y)] w fun e w' => (∃ u v, e = .returned (.tuple #[u, v, .bool true]) ∧ NumAt w' u x ∧ NumAt w' v y) ∧ Below w.heap.size w w' := by
  have HX := Lib.hid (read_ok x hx)
  have HY := Lib.hid (read_ok y hy)
  generalize intB x = s at *
  generalize intB y = t at *
  clear hx hy
  go_enter Tryz.func36, Tryz.ntmps36
  go_wp2_with fail
  have hbx := boxR_made w
  generalize World.alloc (World.alloc _ _) _ = W at hbx ⊢
  refine (HX.out W).mono ?_
  rintro e w1 ⟨⟨v1, rfl, hn1⟩, hB1⟩
  obtain ⟨a8, c8, rfl, hr8, hc8⟩ := hn1
  have hbx := hbx.via hB1
  have hbx1 := hbx
  go_wp2_with fail
  have h7 := heap_alloc_new w1 (.cells #[.bool (decide (x < 0)), .slice a8 (digsL 10000 x.natAbs).length c8] 47)
  have b7 := alloc_below w1 (.cells #[.bool (decide (x < 0)), .slice a8 (digsL 10000 x.natAbs).length c8] 47)
  generalize w1.alloc (.cells #[.bool (decide (x < 0)), .slice a8 (digsL 10000 x.natAbs).length c8] 47) = w2 at *
  have hbx := hbx.via b7
  have hc8 := hc8.via b7
  have h7' := h7
  refine (HY.out w2).mono ?_
  rintro e w3 ⟨⟨v3, rfl, hn3⟩, hB3⟩
  obtain ⟨a9, c9, rfl, hr9, hc9⟩ := hn3
  have hbx := hbx.via hB3
  have hc8 := hc8.via hB3
  have h7 := heap_below hB3 h7
  go_wp2_with fail
  have h9 := heap_alloc_new w3 (.cells #[.bool (decide (y < 0)), .slice a9 (digsL 10000 y.natAbs).length c9] 47)
  have b9 := alloc_below w3 (.cells #[.bool (decide (y < 0)), .slice a9 (digsL 10000 y.natAbs).length c9] 47)
  generalize w3.alloc (.cells #[.bool (decide (y < 0)), .slice a9 (digsL 10000 y.natAbs).length c9] 47) = w4 at *
  have hbx := hbx.via b9
  have hc8 := hc8.via b9
  have hc9 := hc9.via b9
  have h7 := heap_below b9 h7
  have s1 : w.heap.size + 1 < w1.heap.size := by
    have := (Array.getElem?_eq_some_iff.1 hbx1.s).1; omega
  have s3 : w1.heap.size < w3.heap.size := by have := hB3.size; have := b7.size; have := lt_of_cell (heap_cells h7').1; omega
  obtain ⟨k1, k2, _, _⟩ := heap_cells h7
  obtain ⟨k3, k4, _, _⟩ := heap_cells h9
  obtain ⟨q1, q2, f1, f2⟩ := heap_cells hbx.r
  obtain ⟨q3, q4, f3, f4⟩ := heap_cells hbx.s
  have HBX := Lib.hid hbx
  have HC8 := Lib.hid hc8
  have HC9 := Lib.hid hc9
  have n1 : w1.heap.size ≠ w.heap.size := by omega
  have n2 : w1.heap.size ≠ w.heap.size + 1 := by omega
  have n3 : w3.heap.size ≠ w.heap.size := by omega
  have n4 : w3.heap.size ≠ w.heap.size + 1 := by omega
  generalize w1.heap.size = p7 at *
  generalize w3.heap.size = p9 at *
  clear hbx hc8 hc9 h7 h9 b9 b7 hB1 hB3 s1 s3 h7' hbx1
  go_region
  go_wp2_with fail
  refine bodyPost_ret (results_nnt rfl _ _ w.heap.size (w.heap.size + 1) _ _ _ _ rfl HBX.out.res.1 rfl HBX.out.res.2) rfl ?_
  exact ⟨⟨_, _, rfl, ⟨a8, c8, rfl, hr8, (HBX.out.cells HC8.out).via (Below.refl _ _).drew⟩, ⟨a9, c9, rfl, hr9, (HBX.out.cells HC9.out).via (Below.refl _ _).drew⟩⟩, HBX.out.fin.drew⟩
set_option maxRecDepth 100000 in
set_option maxHeartbeats 4000000 in
theorem both_no1 (s t : ByteArray) (hs : (s.size : Int) ≤ 9223372036854775807) (hv : validT s.data.toList = false) (w : World) :
    Calls Tryz.prog 36 #[.string s, .string t] w fun e w' => e = .returned (.tuple #[.agg #[.bool false, .slice none 0 0], .agg #[.bool false, .slice none 0 0], .bool false]) ∧ Below w.heap.size w w' := by
  have HX := Lib.hid (read_no s hs hv)
  clear hv
  go_enter Tryz.func36, Tryz.ntmps36
  go_wp2_with fail
  have hbx := boxR_made w
  generalize World.alloc (World.alloc _ _) _ = W at hbx ⊢
  refine (HX.out W).mono ?_
  rintro e w1 ⟨rfl, hB1⟩
  have hbx := hbx.via hB1
  have hbx := hbx.via (alloc_below w1 (.cells #[.bool false, .slice none 0 0] 47))
  obtain ⟨q1, q2, f1, f2⟩ := heap_cells hbx.r
  obtain ⟨q3, q4, f3, f4⟩ := heap_cells hbx.s
  have HBX := Lib.hid hbx
  clear hbx hB1
  go_wp2_with fail
  refine bodyPost_ret (results_nnt rfl _ _ w.heap.size (w.heap.size + 1) _ _ _ _ rfl HBX.out.res.1 rfl HBX.out.res.2) rfl ?_
  exact ⟨rfl, HBX.out.fin⟩
set_option maxRecDepth 100000 in
set_option maxHeartbeats 4000000 in
theorem both_no2 (x : Int) (t : ByteArray) (hx : Fits x) (ht : (t.size : Int) ≤ 9223372036854775807) (hv : validT t.data.toList = false) (w : World) :
    Calls Tryz.prog 36 #[.string (intB x), .string t] w fun e w' => e = .returned (.tuple #[.agg #[.bool false, .slice none 0 0], .agg #[.bool false, .slice none 0 0], .bool false]) ∧ Below w.heap.size w w' := by
  have HX := Lib.hid (read_ok x hx)
  have HY := Lib.hid (read_no t ht hv)
  generalize intB x = s at *
  clear hx hv
  go_enter Tryz.func36, Tryz.ntmps36
  go_wp2_with fail
  have hbx := boxR_made w
  generalize World.alloc (World.alloc _ _) _ = W at hbx ⊢
  refine (HX.out W).mono ?_
  rintro e w1 ⟨⟨v1, rfl, hn1⟩, hB1⟩
  obtain ⟨a8, c8, rfl, hr8, hc8⟩ := hn1
  have hbx := hbx.via hB1
  go_wp2_with fail
  have b7 := alloc_below w1 (.cells #[.bool (decide (x < 0)), .slice a8 (digsL 10000 x.natAbs).length c8] 47)
  generalize w1.alloc (.cells #[.bool (decide (x < 0)), .slice a8 (digsL 10000 x.natAbs).length c8] 47) = w2 at *
  have hbx := hbx.via b7
  refine (HY.out w2).mono ?_
  rintro e w3 ⟨rfl, hB3⟩
  have hbx := hbx.via hB3
  have hbx := hbx.via (alloc_below w3 (.cells #[.bool false, .slice none 0 0] 47))
  obtain ⟨q1, q2, f1, f2⟩ := heap_cells hbx.r
  obtain ⟨q3, q4, f3, f4⟩ := heap_cells hbx.s
  have HBX := Lib.hid hbx
  clear hbx hB1 hB3 b7 hc8 hr8
  go_wp2_with fail
  refine bodyPost_ret (results_nnt rfl _ _ w.heap.size (w.heap.size + 1) _ _ _ _ rfl HBX.out.res.1 rfl HBX.out.res.2) rfl ?_
  exact ⟨rfl, HBX.out.fin⟩
end Go.Proofs.YtggkbeppfpgkaaaGreatDoor
