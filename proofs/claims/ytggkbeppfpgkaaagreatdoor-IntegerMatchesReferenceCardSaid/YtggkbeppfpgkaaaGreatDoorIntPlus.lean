/- The contract of the sum of numbers with a sign. -/
import Derived.Test.YtggkbeppfpgkaaaGreatDoorIntNum
namespace Go.Proofs.YtggkbeppfpgkaaaGreatDoor
open Go.RowKit Putlog

set_option maxRecDepth 100000 in
set_option maxHeartbeats 4000000 in
theorem plus_ge2 (x y : Int) (hx : x.natAbs < 10000 ^ 120) (hy : y.natAbs < 10000 ^ 120) (hs : (x < 0) ↔ ¬ (y < 0)) (hle : y.natAbs ≤ x.natAbs) (u v : Value) (w : World) (hu : NumAt w u x) (hv : NumAt w v y)  :
    Calls Tryz.prog 29 #[u, v] w fun e w' => (∃ r, e = .returned r ∧ NumAt w' r (x + y)) ∧ Below w.heap.size w w' := by
  obtain ⟨a, ca, rfl, hra, hca⟩ := hu
  obtain ⟨b, cb, rfl, hrb, hcb⟩ := hv
  obtain ⟨sx, hsx⟩ : ∃ sx, sx = decide (x < 0) := ⟨_, rfl⟩
  obtain ⟨sy, hsy⟩ : ∃ sy, sy = decide (y < 0) := ⟨_, rfl⟩
  have hne : (sx == sy) = false := by rw [hsx, hsy]; by_cases h : x < 0 <;> by_cases k : y < 0 <;> simp [h, k] <;> omega
  have up : ∀ {n : Nat}, n < 10000 ^ 120 → n < 10000 ^ 250 := fun h => Nat.lt_of_lt_of_le h (Nat.pow_le_pow_right (by decide) (by decide))
  have HP := Lib.hid (fun W hu hv => mminus x.natAbs y.natAbs (up hx) hle _ _ W (MagAt.via hu (mag_of_num hra hca)) (MagAt.via hv (mag_of_num hrb hcb)))
  have hN : x.natAbs - y.natAbs < 10000 ^ 250 := up (Nat.lt_of_le_of_lt (Nat.sub_le _ _) hx)
  have HS := Lib.hid (fun sv W hm => signed_any sx (x.natAbs - y.natAbs) sv W hN hm)
  have hz : sgn sx (x.natAbs - y.natAbs) = x + y := by
    unfold sgn
    rw [hsx]
    by_cases h : x < 0 <;> by_cases k : y < 0 <;> simp [h] <;> omega
  rw [hz] at HS
  have hcm := fun W hu hv => mcmp x.natAbs y.natAbs (up hx) (up hy) _ _ W (MagAt.via hu (mag_of_num hra hca)) (MagAt.via hv (mag_of_num hrb hcb))
  obtain ⟨k, hk0⟩ : ∃ k, k = cmpI (x.natAbs : Nat) (y.natAbs : Nat) := ⟨_, rfl⟩
  have hkk : 0 ≤ k := by rw [hk0]; unfold cmpI; split <;> (try split) <;> omega
  have hkb : -1 ≤ k ∧ k ≤ 1 := by rw [hk0]; unfold cmpI; split <;> (try split) <;> omega
  rw [← hk0] at hcm
  have HC := Lib.hid hcm
  rw [← hsx, ← hsy]
  clear hsx hsy hN hz hs hcm hk0 hle
  generalize (digsL 10000 x.natAbs).length = n at *
  generalize (digsL 10000 y.natAbs).length = m at *
  go_enter Tryz.func29, Tryz.ntmps29
  go_wp2_with fail
  have hbx := box3_made w (.bool sx) (.slice a n ca) (.bool sy) (.slice b m cb)
  generalize World.alloc (World.alloc _ _) _ = W0 at hbx ⊢
  refine (HC.out W0 hbx.bel hbx.bel).mono ?_
  rintro e W ⟨rfl, hB0⟩
  have hbx := hbx.via hB0
  have ha1 := hbx.a1
  have ha2 := hbx.a2
  have hb1 := hbx.b1
  have hb2 := hbx.b2
  have HBX := Lib.hid hbx
  clear hbx hB0
  go_wp2_with fail
  go_region_held3 (fun w' => w'.cell? ⟨w.heap.size, 0, none⟩ = some (.bool sx) ∧ w'.cell? ⟨w.heap.size, 1, none⟩ = some (.slice a n ca) ∧ w'.cell? ⟨w.heap.size + 1, 1, none⟩ = some (.slice b m cb)) (first | exact ⟨ha1, ha2, hb2⟩ | exact ⟨keptBelow hB1 ha1, keptBelow hB1 ha2, keptBelow hB1 hb2⟩ | exact ⟨keptBelow hB2 (keptBelow hB1 ha1), keptBelow hB2 (keptBelow hB1 ha2), keptBelow hB2 (keptBelow hB1 hb2)⟩ | exact ⟨cell_o2 hbx2.a1 (by omega), cell_o2 hbx2.a2 (by omega), cell_o2 hbx2.b2 (by omega)⟩) (first
    | (go_at_call 56; (with_reducible refine (HP.out _ ?_ ?_).mono ?_); exact HBX.out.bel.drew; exact HBX.out.bel.drew; rintro e w1 ⟨⟨r1, rfl, hm1⟩, hB1⟩)
    | (go_at_call 44; (with_reducible refine (HS.out _ _ ?_).mono ?_); exact hm1; rintro e w2 ⟨⟨r2, rfl, hn2⟩, hB2⟩; obtain ⟨a9, c9, rfl, hr9, hc9⟩ := hn2; have hB3 := HBX.out.via (undrew hB1); have hbx2 := hB3.via hB2; have hq1 := (cell_of_row w2 _ 0 _ _ _ hbx2.r).trans rfl; have hq2 := (cell_of_row w2 _ 1 _ _ _ hbx2.r).trans rfl; have hf1 := frozen_of_row w2 _ 0 _ _ hbx2.r; have hf2 := frozen_of_row w2 _ 1 _ _ hbx2.r))
  go_wp2_with fail
  refine bodyPost_ret (results_n rfl _ _ (w.heap.size + 1 + 1) _ _ rfl hbx2.res) rfl ?_
  exact ⟨⟨_, rfl, a9, c9, rfl, hr9, cells_res hc9 hbx2.r⟩, below_res hbx2.bel (by omega) _ _⟩
set_option maxRecDepth 100000 in
set_option maxHeartbeats 4000000 in
theorem plus_lt2 (x y : Int) (hx : x.natAbs < 10000 ^ 120) (hy : y.natAbs < 10000 ^ 120) (hs : (x < 0) ↔ ¬ (y < 0)) (hle : x.natAbs < y.natAbs) (u v : Value) (w : World) (hu : NumAt w u x) (hv : NumAt w v y)  :
    Calls Tryz.prog 29 #[u, v] w fun e w' => (∃ r, e = .returned r ∧ NumAt w' r (x + y)) ∧ Below w.heap.size w w' := by
  obtain ⟨a, ca, rfl, hra, hca⟩ := hu
  obtain ⟨b, cb, rfl, hrb, hcb⟩ := hv
  obtain ⟨sx, hsx⟩ : ∃ sx, sx = decide (x < 0) := ⟨_, rfl⟩
  obtain ⟨sy, hsy⟩ : ∃ sy, sy = decide (y < 0) := ⟨_, rfl⟩
  have hne : (sx == sy) = false := by rw [hsx, hsy]; by_cases h : x < 0 <;> by_cases k : y < 0 <;> simp [h, k] <;> omega
  have up : ∀ {n : Nat}, n < 10000 ^ 120 → n < 10000 ^ 250 := fun h => Nat.lt_of_lt_of_le h (Nat.pow_le_pow_right (by decide) (by decide))
  have HP := Lib.hid (fun W hu hv => mminus y.natAbs x.natAbs (up hy) (Nat.le_of_lt hle) _ _ W (MagAt.via hu (mag_of_num hrb hcb)) (MagAt.via hv (mag_of_num hra hca)))
  have hN : y.natAbs - x.natAbs < 10000 ^ 250 := up (Nat.lt_of_le_of_lt (Nat.sub_le _ _) hy)
  have HS := Lib.hid (fun sv W hm => signed_any sy (y.natAbs - x.natAbs) sv W hN hm)
  have hz : sgn sy (y.natAbs - x.natAbs) = x + y := by
    unfold sgn
    rw [hsy]
    by_cases h : x < 0 <;> by_cases k : y < 0 <;> simp [k] <;> omega
  rw [hz] at HS
  have hcm := fun W hu hv => mcmp x.natAbs y.natAbs (up hx) (up hy) _ _ W (MagAt.via hu (mag_of_num hra hca)) (MagAt.via hv (mag_of_num hrb hcb))
  have hk0 : cmpI (x.natAbs : Nat) (y.natAbs : Nat) = -1 := by unfold cmpI; rw [if_pos (by omega)]
  rw [hk0] at hcm
  have HC := Lib.hid hcm
  rw [← hsx, ← hsy]
  clear hsx hsy hN hz hs hcm hk0 hle
  generalize (digsL 10000 x.natAbs).length = n at *
  generalize (digsL 10000 y.natAbs).length = m at *
  go_enter Tryz.func29, Tryz.ntmps29
  go_wp2_with fail
  have hbx := box3_made w (.bool sx) (.slice a n ca) (.bool sy) (.slice b m cb)
  generalize World.alloc (World.alloc _ _) _ = W0 at hbx ⊢
  refine (HC.out W0 hbx.bel hbx.bel).mono ?_
  rintro e W ⟨rfl, hB0⟩
  have hbx := hbx.via hB0
  have ha1 := hbx.a1
  have ha2 := hbx.a2
  have hb1 := hbx.b1
  have hb2 := hbx.b2
  have HBX := Lib.hid hbx
  clear hbx hB0
  go_wp2_with fail
  go_region_held3 (fun w' => w'.cell? ⟨w.heap.size + 1, 0, none⟩ = some (.bool sy) ∧ w'.cell? ⟨w.heap.size + 1, 1, none⟩ = some (.slice b m cb) ∧ w'.cell? ⟨w.heap.size, 1, none⟩ = some (.slice a n ca)) (first | exact ⟨hb1, hb2, ha2⟩ | exact ⟨keptBelow hB1 hb1, keptBelow hB1 hb2, keptBelow hB1 ha2⟩ | exact ⟨keptBelow hB2 (keptBelow hB1 hb1), keptBelow hB2 (keptBelow hB1 hb2), keptBelow hB2 (keptBelow hB1 ha2)⟩ | exact ⟨cell_o2 hbx2.b1 (by omega), cell_o2 hbx2.b2 (by omega), cell_o2 hbx2.a2 (by omega)⟩) (first
    | (go_at_call 56; (with_reducible refine (HP.out _ ?_ ?_).mono ?_); exact HBX.out.bel.drew; exact HBX.out.bel.drew; rintro e w1 ⟨⟨r1, rfl, hm1⟩, hB1⟩)
    | (go_at_call 44; (with_reducible refine (HS.out _ _ ?_).mono ?_); exact hm1; rintro e w2 ⟨⟨r2, rfl, hn2⟩, hB2⟩; obtain ⟨a9, c9, rfl, hr9, hc9⟩ := hn2; have hB3 := HBX.out.via (undrew hB1); have hbx2 := hB3.via hB2; have hq1 := (cell_of_row w2 _ 0 _ _ _ hbx2.r).trans rfl; have hq2 := (cell_of_row w2 _ 1 _ _ _ hbx2.r).trans rfl; have hf1 := frozen_of_row w2 _ 0 _ _ hbx2.r; have hf2 := frozen_of_row w2 _ 1 _ _ hbx2.r))
  go_wp2_with fail
  refine bodyPost_ret (results_n rfl _ _ (w.heap.size + 1 + 1) _ _ rfl hbx2.res) rfl ?_
  exact ⟨⟨_, rfl, a9, c9, rfl, hr9, cells_res hc9 hbx2.r⟩, below_res hbx2.bel (by omega) _ _⟩
theorem nplus (x y : Int) (hx : x.natAbs < 10000 ^ 120) (hy : y.natAbs < 10000 ^ 120) (u v : Value) (w : World) (hu : NumAt w u x) (hv : NumAt w v y)  :
    Calls Tryz.prog 29 #[u, v] w fun e w' => (∃ r, e = .returned r ∧ NumAt w' r (x + y)) ∧ Below w.heap.size w w' := by
  by_cases hs : (x < 0) ↔ (y < 0)
  · exact plus_same x y hx hy hs u v w hu hv
  · have hs2 : (x < 0) ↔ ¬ (y < 0) := by
      by_cases h : x < 0 <;> by_cases k : y < 0 <;> simp [h, k] at hs ⊢
    rcases Nat.lt_or_ge x.natAbs y.natAbs with h | h
    · exact plus_lt2 x y hx hy hs2 h u v w hu hv
    · exact plus_ge2 x y hx hy hs2 h u v w hu hv
end Go.Proofs.YtggkbeppfpgkaaaGreatDoor
