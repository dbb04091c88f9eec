/- The contracts of read and readBoth. -/
import Derived.Test.YtggkbeppfpgkaaaGreatDoorIntValid
namespace Go.Proofs.YtggkbeppfpgkaaaGreatDoor
open Go.RowKit Putlog

theorem fits_big {z : Int} (h : Fits z) : z.natAbs < 10000 ^ 50 := by
  have : (10000 : Nat) ^ 50 = 10 ^ 200 := by rw [show (10000 : Nat) = 10 ^ 4 from rfl, ← Nat.pow_mul]
  rw [this]; exact h
theorem fits120 {z : Int} (h : Fits z) : z.natAbs < 10000 ^ 120 := Nat.lt_of_lt_of_le (fits_big h) (Nat.pow_le_pow_right (by decide) (by decide))
theorem fits250 {z : Int} (h : Fits z) : z.natAbs < 10000 ^ 250 := up250 (fits120 h)
theorem intT_trim (z : Int) : Lib.trimPrefix (intT z) [45] = natT z.natAbs := by
  rw [trim_minus]
  unfold intT
  by_cases h : z < 0
  · rw [if_pos h]; rfl
  · rw [if_neg h, if_neg (natT_head_dig _)]
theorem intT_has (z : Int) : Lib.hasPrefix (intT z) [45] = decide (z < 0) := by
  rw [hasPrefix_minus]
  unfold intT
  by_cases h : z < 0
  · rw [if_pos h]; simp [h]
  · rw [if_neg h]; simp [h, natT_head_dig]
theorem sgn_self (z : Int) : sgn (decide (z < 0)) z.natAbs = z := by
  unfold sgn
  by_cases h : z < 0
  · simp [h]; omega
  · simp [h]; omega
theorem intB_list (z : Int) : (intB z).data.toList = intT z := by simp [intB]
/-- The box of a result alone. -/
structure Box1 (w W : World) : Prop where
  r : W.heap[w.heap.size]? = some (.cells #[.bool false, .slice none 0 0] 47 (0, 0))
  bel : Below w.heap.size w W
theorem box1_made (w : World) : Box1 w (w.alloc (.cells #[.bool false, .slice none 0 0] 47)) := ⟨heap_alloc_new w _, alloc_below w _⟩
theorem Box1.via {w W W' : World} (hB : Below W.heap.size W W') (h : Box1 w W) : Box1 w W' := ⟨heap_below hB h.r, belowVia hB h.bel⟩
theorem Box1.res {w W : World} {r1 r2 : Value} (h : Box1 w W) : ((W.setCell ⟨w.heap.size, 0, none⟩ r1).setCell ⟨w.heap.size, 1, none⟩ r2).heap[w.heap.size]? = some (.cells #[r1, r2] 47 (0, 0)) := by
  have h1 := heap_setCell_same W _ 0 _ _ r1 h.r
  exact heap_setCell_same _ _ 1 _ _ r2 h1
set_option maxRecDepth 100000 in
set_option maxHeartbeats 4000000 in
theorem read_ok (z : Int) (hz : Fits z) (w : World) :
    Calls Tryz.prog 46 #[.string (intB z)] w fun e w' => (∃ v, e = .returned (.tuple #[v, .bool true]) ∧ NumAt w' v z) ∧ Below w.heap.size w w' := by
  have hsz := intT_size hz (by decide)
  have hV := valid_any (intB z) (by omega)
  have hv1 : validT (intB z).data.toList = true := by rw [intB_list]; exact (validT_int z).2 hz
  rw [hv1] at hV
  have hC := Tryz.strings_CutPrefix (intB z) ⟨#[45]⟩
  rw [intB_list] at hC
  simp only [intT_trim, intT_has] at hC
  obtain ⟨d, hd⟩ : ∃ d : ByteArray, d = ⟨(natT z.natAbs).toArray⟩ := ⟨_, rfl⟩
  have hdl : d.data.toList = natT z.natAbs := by rw [hd]
  rw [← hd] at hC
  have hR := fun W => readM_any d (by rw [hdl]; exact natT_dig _) (by
    rw [hd]; show (natT z.natAbs).toArray.size ≤ 1000
    rw [List.size_toArray]
    have := (natT_len z.natAbs 200 (by decide)).2 hz
    omega) W
  rw [hdl, natT_val] at hR
  have hS := fun sv W hm => signed_any (decide (z < 0)) z.natAbs sv W (fits250 hz) hm
  rw [sgn_self] at hS
  have HV := Lib.hid hV
  have HC := Lib.hid hC
  have HR := Lib.hid hR
  have HS := Lib.hid hS
  generalize decide (z < 0) = sz at *
  generalize intB z = s at *
  clear hz hsz hV hv1 hC hd hdl hR hS
  go_enter Tryz.func46, Tryz.ntmps46
  go_wp2_with fail
  have hbx := box1_made w
  generalize World.alloc _ _ = W at hbx ⊢
  refine (HV.out W).mono ?_
  rintro e w1 ⟨rfl, rfl⟩
  go_wp2_with fail
  refine (HC.out w1).mono ?_
  rintro e w2 ⟨rfl, rfl⟩
  go_wp2_with fail
  refine (HR.out w2).mono ?_
  rintro e w3 ⟨⟨v3, rfl, hm3⟩, hB3⟩
  go_wp2_with fail
  refine (HS.out _ _ hm3).mono ?_
  rintro e w4 ⟨⟨v4, rfl, hn4⟩, hB4⟩
  obtain ⟨a9, c9, rfl, hr9, hc9⟩ := hn4
  have hbx2 := (hbx.via hB3).via hB4
  have hq1 := (cell_of_row w4 _ 0 _ _ _ hbx2.r).trans rfl
  have hq2 := (cell_of_row w4 _ 1 _ _ _ hbx2.r).trans rfl
  have hf1 := frozen_of_row w4 _ 0 _ _ hbx2.r
  have hf2 := frozen_of_row w4 _ 1 _ _ hbx2.r
  clear hbx hB3 hB4 hm3
  go_wp2_with fail
  refine bodyPost_ret (results_nt rfl _ _ (w.heap.size) _ _ rfl hbx2.res) rfl ?_
  exact ⟨⟨_, rfl, a9, c9, rfl, hr9, cells_res hc9 hbx2.r⟩, below_res hbx2.bel (by omega) _ _⟩
set_option maxRecDepth 100000 in
set_option maxHeartbeats 4000000 in
theorem read_no (s : ByteArray) (hs : (s.size : Int) ≤ 9223372036854775807) (hv : validT s.data.toList = false) (w : World) :
    Calls Tryz.prog 46 #[.string s] w fun e w' => e = .returned (.tuple #[.agg #[.bool false, .slice none 0 0], .bool false]) ∧ Below w.heap.size w w' := by
  have hV := valid_any s hs
  rw [hv] at hV
  have HV := Lib.hid hV
  clear hV hv
  go_enter Tryz.func46, Tryz.ntmps46
  go_wp2_with fail
  have hbx := box1_made w
  generalize World.alloc _ _ = W at hbx ⊢
  refine (HV.out W).mono ?_
  rintro e w4 ⟨rfl, rfl⟩
  have hq1 := (cell_of_row w4 _ 0 _ _ _ hbx.r).trans rfl
  have hq2 := (cell_of_row w4 _ 1 _ _ _ hbx.r).trans rfl
  have hf1 := frozen_of_row w4 _ 0 _ _ hbx.r
  have hf2 := frozen_of_row w4 _ 1 _ _ hbx.r
  go_wp2_with fail
  refine bodyPost_ret (results_nt rfl _ _ (w.heap.size) _ _ rfl hbx.res) rfl ?_
  exact ⟨rfl, below_res hbx.bel (by omega) _ _⟩
end Go.Proofs.YtggkbeppfpgkaaaGreatDoor
