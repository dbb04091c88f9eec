/- The contracts of the other functions on numbers with a sign: negation, difference, product, order, text. -/
import Derived.Test.YtggkbeppfpgkaaaGreatDoorIntPlus
namespace Go.Proofs.YtggkbeppfpgkaaaGreatDoor
open Go.RowKit Putlog

theorem up250 {n : Nat} (h : n < 10000 ^ 120) : n < 10000 ^ 250 := Nat.lt_of_lt_of_le h (Nat.pow_le_pow_right (by decide) (by decide))
/-- A number in a box, and the box of the result. -/
structure Box2 (w W : World) (x1 x2 : Value) : Prop where
  a1 : W.cell? ⟨w.heap.size, 0, none⟩ = some x1
  a2 : W.cell? ⟨w.heap.size, 1, none⟩ = some x2
  r : W.heap[w.heap.size + 1]? = some (.cells #[.bool false, .slice none 0 0] 47 (0, 0))
  bel : Below w.heap.size w W
theorem box2_made (w : World) (x1 x2 : Value) : Box2 w ((w.alloc (.cells #[x1, x2] 47)).alloc (.cells #[.bool false, .slice none 0 0] 47)) x1 x2 := by
  have h1 := heap_alloc_new w (.cells #[x1, x2] 47)
  have b1 := alloc_below w (.cells #[x1, x2] 47)
  have s1 := alloc_size w (.cells #[x1, x2] 47)
  generalize w.alloc (.cells #[x1, x2] 47) = w1 at *
  have h3 := heap_alloc_new w1 (.cells #[.bool false, .slice none 0 0] 47)
  have b3 := alloc_below w1 (.cells #[.bool false, .slice none 0 0] 47)
  generalize w1.alloc (.cells #[.bool false, .slice none 0 0] 47) = w3 at *
  rw [s1] at h3
  exact ⟨keptBelow b3 ((cell_of_row w1 _ 0 _ _ _ h1).trans rfl), keptBelow b3 ((cell_of_row w1 _ 1 _ _ _ h1).trans rfl), h3, belowVia b3 b1⟩
theorem Box2.via {w W W' : World} {x1 x2 : Value} (hB : Below W.heap.size W W') (h : Box2 w W x1 x2) : Box2 w W' x1 x2 :=
  ⟨keptBelow hB h.a1, keptBelow hB h.a2, heap_below hB h.r, belowVia hB h.bel⟩
theorem Box2.res {w W : World} {x1 x2 r1 r2 : Value} (h : Box2 w W x1 x2) : ((W.setCell ⟨w.heap.size + 1, 0, none⟩ r1).setCell ⟨w.heap.size + 1, 1, none⟩ r2).heap[w.heap.size + 1]? = some (.cells #[r1, r2] 47 (0, 0)) := by
  have h1 := heap_setCell_same W _ 0 _ _ r1 h.r
  exact heap_setCell_same _ _ 1 _ _ r2 h1
set_option maxRecDepth 100000 in
set_option maxHeartbeats 4000000 in
theorem nneg (x : Int) (hx : x.natAbs < 10000 ^ 250) (u : Value) (w : World) (hu : NumAt w u x) :
    Calls Tryz.prog 57 #[u] w fun e w' => (∃ r, e = .returned r ∧ NumAt w' r (-x)) ∧ Below w.heap.size w w' := by
  obtain ⟨a, ca, rfl, hra, hca⟩ := hu
  obtain ⟨sx, hsx⟩ : ∃ sx, sx = decide (x < 0) := ⟨_, rfl⟩
  have HS := Lib.hid (fun W hm => signed_any (!sx) x.natAbs _ W hx (MagAt.via hm (mag_of_num hra hca)))
  have hz : sgn (!sx) x.natAbs = -x := by
    unfold sgn
    rw [hsx]
    by_cases h : x < 0 <;> simp [h] <;> omega
  obtain ⟨z, hzz⟩ : ∃ z, z = -x := ⟨_, rfl⟩
  rw [hz, ← hzz] at HS
  rw [← hsx, ← hzz]
  clear hsx hz hx hzz
  generalize (digsL 10000 x.natAbs).length = n at *
  go_enter Tryz.func57, Tryz.ntmps57
  go_wp2_with fail
  have hbx := box2_made w (.bool sx) (.slice a n ca)
  generalize World.alloc (World.alloc _ _) _ = W at hbx ⊢
  refine (HS.out W hbx.bel).mono ?_
  rintro e w2 ⟨⟨r2, rfl, hn2⟩, hB2⟩
  obtain ⟨a9, c9, rfl, hr9, hc9⟩ := hn2
  have hbx2 := hbx.via hB2
  have hq1 := (cell_of_row w2 _ 0 _ _ _ hbx2.r).trans rfl
  have hq2 := (cell_of_row w2 _ 1 _ _ _ hbx2.r).trans rfl
  have hf1 := frozen_of_row w2 _ 0 _ _ hbx2.r
  have hf2 := frozen_of_row w2 _ 1 _ _ hbx2.r
  clear hbx hB2
  go_wp2_with fail
  refine bodyPost_ret (results_n rfl _ _ (w.heap.size + 1) _ _ rfl hbx2.res) rfl ?_
  exact ⟨⟨_, rfl, a9, c9, rfl, hr9, cells_res hc9 hbx2.r⟩, below_res hbx2.bel (by omega) _ _⟩
set_option maxRecDepth 100000 in
set_option maxHeartbeats 4000000 in
theorem nminus (x y : Int) (hx : x.natAbs < 10000 ^ 120) (hy : y.natAbs < 10000 ^ 120) (u v : Value) (w : World) (hu : NumAt w u x) (hv : NumAt w v y)  :
    Calls Tryz.prog 32 #[u, v] w fun e w' => (∃ r, e = .returned r ∧ NumAt w' r (x - y)) ∧ Below w.heap.size w w' := by
  have HNG := Lib.hid (fun W hm => nneg y (up250 hy) _ W (NumAt.via hm hv))
  have HPL := Lib.hid (fun W v hm hv => nplus x (-y) hx (by rw [Int.natAbs_neg]; exact hy) _ v W (NumAt.via hm hu) hv)
  rw [← Int.sub_eq_add_neg] at HPL
  obtain ⟨z, hzz⟩ : ∃ z, z = x - y := ⟨_, rfl⟩
  rw [← hzz] at HPL ⊢
  clear hzz
  obtain ⟨a, ca, rfl, _, _⟩ := hu
  obtain ⟨b, cb, rfl, _, _⟩ := hv
  generalize (digsL 10000 x.natAbs).length = n at *
  generalize (digsL 10000 y.natAbs).length = m at *
  generalize decide (x < 0) = sx at *
  generalize decide (y < 0) = sy at *
  clear hx hy
  go_enter Tryz.func32, Tryz.ntmps32
  go_wp2_with fail
  have hbx := box3_made w (.bool sx) (.slice a n ca) (.bool sy) (.slice b m cb)
  generalize World.alloc (World.alloc _ _) _ = W at hbx ⊢
  have ha1 := hbx.a1
  have ha2 := hbx.a2
  have hb1 := hbx.b1
  have hb2 := hbx.b2
  have HBX := Lib.hid hbx
  clear hbx
  go_region_held3 (fun w' => w'.cell? ⟨w.heap.size, 0, none⟩ = some (.bool sx) ∧ w'.cell? ⟨w.heap.size, 1, none⟩ = some (.slice a n ca) ∧ w'.cell? ⟨w.heap.size + 1, 0, none⟩ = some (.bool sy) ∧ w'.cell? ⟨w.heap.size + 1, 1, none⟩ = some (.slice b m cb)) (first | exact ⟨ha1, ha2, hb1, hb2⟩ | exact ⟨keptBelow hB1 ha1, keptBelow hB1 ha2, keptBelow hB1 hb1, keptBelow hB1 hb2⟩ | exact ⟨keptBelow hB2 (keptBelow hB1 ha1), keptBelow hB2 (keptBelow hB1 ha2), keptBelow hB2 (keptBelow hB1 hb1), keptBelow hB2 (keptBelow hB1 hb2)⟩ | exact ⟨cell_o2 hbx2.a1 (by omega), cell_o2 hbx2.a2 (by omega), cell_o2 hbx2.b1 (by omega), cell_o2 hbx2.b2 (by omega)⟩) (first
    | (go_at_call 57; (with_reducible refine (HNG.out _ ?_).mono ?_); exact HBX.out.bel.drew; rintro e w1 ⟨⟨r1, rfl, hm1⟩, hB1⟩)
    | (go_at_call 29; (with_reducible refine (HPL.out _ _ ?_ hm1).mono ?_); exact belowVia hB1 HBX.out.bel.drew; rintro e w2 ⟨⟨r2, rfl, hn2⟩, hB2⟩; obtain ⟨a9, c9, rfl, hr9, hc9⟩ := hn2; have hB3 := HBX.out.via (undrew hB1); have hbx2 := hB3.via hB2; have hq1 := (cell_of_row w2 _ 0 _ _ _ hbx2.r).trans rfl; have hq2 := (cell_of_row w2 _ 1 _ _ _ hbx2.r).trans rfl; have hf1 := frozen_of_row w2 _ 0 _ _ hbx2.r; have hf2 := frozen_of_row w2 _ 1 _ _ hbx2.r))
  go_wp2_with fail
  refine bodyPost_ret (results_n rfl _ _ (w.heap.size + 1 + 1) _ _ rfl hbx2.res) rfl ?_
  exact ⟨⟨_, rfl, a9, c9, rfl, hr9, cells_res hc9 hbx2.r⟩, below_res hbx2.bel (by omega) _ _⟩
theorem prod_lt {X Y : Nat} (hX : X < 10000 ^ 120) (hY : Y < 10000 ^ 120) : X * Y < 10000 ^ 250 := Nat.lt_of_lt_of_le (by rw [show (240 : Nat) = 120 + 120 from rfl, Nat.pow_add]; exact Nat.mul_lt_mul_of_lt_of_le hX (Nat.le_of_lt hY) (Nat.pow_pos (by decide)) : X * Y < 10000 ^ 240) (Nat.pow_le_pow_right (by decide) (by decide))
theorem sgn_mul (x y : Int) : sgn (decide (x < 0) != decide (y < 0)) (x.natAbs * y.natAbs) = x * y := by
  have h := Int.natAbs_mul x y
  rw [← h]
  unfold sgn
  by_cases hx : x < 0 <;> by_cases hy : y < 0
  · have : 0 < x * y := Int.mul_pos_of_neg_of_neg hx hy
    simp [hx, hy]; omega
  · have : x * y ≤ 0 := Int.mul_nonpos_of_nonpos_of_nonneg (by omega) (by omega)
    simp [hx, hy]; omega
  · have : x * y ≤ 0 := Int.mul_nonpos_of_nonneg_of_nonpos (by omega) (by omega)
    simp [hx, hy]; omega
  · have : 0 ≤ x * y := Int.mul_nonneg (by omega) (by omega)
    simp [hx, hy]; omega
set_option maxRecDepth 100000 in
set_option maxHeartbeats 4000000 in
theorem ntimes (x y : Int) (hx : x.natAbs < 10000 ^ 120) (hy : y.natAbs < 10000 ^ 120) (u v : Value) (w : World) (hu : NumAt w u x) (hv : NumAt w v y)  :
    Calls Tryz.prog 33 #[u, v] w fun e w' => (∃ r, e = .returned r ∧ NumAt w' r (x * y)) ∧ Below w.heap.size w w' := by
  obtain ⟨a, ca, rfl, hra, hca⟩ := hu
  obtain ⟨b, cb, rfl, hrb, hcb⟩ := hv
  have HP := Lib.hid (fun W hu hv => mtimes x.natAbs y.natAbs (up250 hx) (up250 hy) _ _ W (MagAt.via hu (mag_of_num hra hca)) (MagAt.via hv (mag_of_num hrb hcb)))
  have HS := Lib.hid (fun sv W hm => signed_any (decide (x < 0) != decide (y < 0)) (x.natAbs * y.natAbs) sv W (prod_lt hx hy) hm)
  rw [sgn_mul x y] at HS
  obtain ⟨z, hzz⟩ : ∃ z, z = x * y := ⟨_, rfl⟩
  rw [← hzz] at HS ⊢
  clear hzz
  generalize (digsL 10000 x.natAbs).length = n at *
  generalize (digsL 10000 y.natAbs).length = m at *
  generalize decide (x < 0) = sx at *
  generalize decide (y < 0) = sy at *
  obtain ⟨t, ht⟩ : ∃ t, (sx != sy) = t := ⟨_, rfl⟩
  rw [ht] at HS
  have ht2 : (!(sx == sy)) = t := ht
  clear hx hy ht
  go_enter Tryz.func33, Tryz.ntmps33
  go_wp2_with fail
  have hbx := box3_made w (.bool sx) (.slice a n ca) (.bool sy) (.slice b m cb)
  generalize World.alloc (World.alloc _ _) _ = W at hbx ⊢
  have ha1 := hbx.a1
  have ha2 := hbx.a2
  have hb1 := hbx.b1
  have hb2 := hbx.b2
  have HBX := Lib.hid hbx
  clear hbx
  go_region_held3 (fun w' => w'.cell? ⟨w.heap.size, 0, none⟩ = some (.bool sx) ∧ w'.cell? ⟨w.heap.size, 1, none⟩ = some (.slice a n ca) ∧ w'.cell? ⟨w.heap.size + 1, 0, none⟩ = some (.bool sy) ∧ w'.cell? ⟨w.heap.size + 1, 1, none⟩ = some (.slice b m cb)) (first | exact ⟨ha1, ha2, hb1, hb2⟩ | exact ⟨keptBelow hB1 ha1, keptBelow hB1 ha2, keptBelow hB1 hb1, keptBelow hB1 hb2⟩ | exact ⟨keptBelow hB2 (keptBelow hB1 ha1), keptBelow hB2 (keptBelow hB1 ha2), keptBelow hB2 (keptBelow hB1 hb1), keptBelow hB2 (keptBelow hB1 hb2)⟩ | exact ⟨cell_o2 hbx2.a1 (by omega), cell_o2 hbx2.a2 (by omega), cell_o2 hbx2.b1 (by omega), cell_o2 hbx2.b2 (by omega)⟩) (first
    | (go_at_call 58; (with_reducible refine (HP.out _ ?_ ?_).mono ?_); exact HBX.out.bel.drew; exact HBX.out.bel.drew; rintro e w1 ⟨⟨r1, rfl, hm1⟩, hB1⟩)
    | (go_at_call 44; (with_reducible refine (HS.out _ _ ?_).mono ?_); exact hm1; rintro e w2 ⟨⟨r2, rfl, hn2⟩, hB2⟩; obtain ⟨a9, c9, rfl, hr9, hc9⟩ := hn2; have hB3 := HBX.out.via (undrew hB1); have hbx2 := hB3.via hB2; have hq1 := (cell_of_row w2 _ 0 _ _ _ hbx2.r).trans rfl; have hq2 := (cell_of_row w2 _ 1 _ _ _ hbx2.r).trans rfl; have hf1 := frozen_of_row w2 _ 0 _ _ hbx2.r; have hf2 := frozen_of_row w2 _ 1 _ _ hbx2.r))
  go_wp2_with fail
  refine bodyPost_ret (results_n rfl _ _ (w.heap.size + 1 + 1) _ _ rfl hbx2.res) rfl ?_
  exact ⟨⟨_, rfl, a9, c9, rfl, hr9, cells_res hc9 hbx2.r⟩, below_res hbx2.bel (by omega) _ _⟩
end Go.Proofs.YtggkbeppfpgkaaaGreatDoor
